/- Maps whose elements are bools; the closure that adds ancestors. -/
import Derived.Test.YtjhedehhanaokaaGreatDoorL11
import Derived.Maps.OwnSet
namespace Go.Proofs.YtjhedehhanaokaaGreatDoor
open Go Go.RowKit
open Go.Maps (Keyed)

section
variable {H : Type} {P : Program} {k : TypeId} {w : World} {b n : Nat} {D : DataW H}
theorem plainElem_bool_inv {e : TypeId} (he : P.underlying e = some .bool) {v : Value} {z : DataW H × List MemPlace} (h : plainElem P e v = some z) : ∃ x, v = .bool x ∧ z = (.lit (.bool x), []) := by
  unfold plainElem at h
  rw [he] at h
  cases v <;> simp at h
  exact ⟨_, rfl, h.symm⟩
theorem look_bool {t e : TypeId} (h : w.ownsMap P k (plainElem P e) b n D) (K : Keyed P k) (ht : P.underlying t = some (.map k e)) (he : P.underlying e = some .bool) (hz : (zeroValue e).run P w = .ok (.bool false) w)
    {key : Value} {kl : Lit} (hkey : keyOf P k key = some kl) : ∃ x, (Instr.lookup t (.map (some b)) key false).run P w = .ok (.bool x) w ∧ D.atKey kl (.lit (.bool false)) = .lit (.bool x) := by
  obtain ⟨v, ps, hrun, hv⟩ := h.lookup K ht hz (plainElem_bool he false) hkey
  obtain ⟨x, rfl, hx⟩ := plainElem_bool_inv he hv
  simp only [Prod.mk.injEq] at hx
  exact ⟨x, hrun, hx.1⟩
/-- 'm[k]' at elements that are bools. -/
theorem wpList_lookup_own_bool (w : World) {ops : Array Oper} {rest : List Oper} {o : Oper} {a : Act} {Q : Exit → Act → World → Prop}
    (hg : o.guard = none) (m x : Operand) (t : TypeId) (hop : o.op = Op.lookup t m x false)
    (k e : TypeId) (K : Keyed P k) (ht : P.underlying t = some (.map k e)) (he : P.underlying e = some .bool) (hz : (zeroValue e).run P w = .ok (.bool false) w) (b n : Nat) (D : DataW H)
    (hm : a.eval m = .map (some b)) (hown : w.ownsMap P k (plainElem P e) b n D) (key : Value) (kl : Lit) (hx : a.eval x = key) (hkey : keyOf P k key = some kl)
    (hK : ∀ c : Bool, D.atKey kl (.lit (.bool false)) = .lit (.bool c) → wpList P ops Q rest (a.put o.dst (.bool c)) w) :
    wpList P ops Q (o :: rest) a w := by
  refine wpList_plain hg fun K' hK' => ?_
  obtain ⟨c, hrun, hat⟩ := look_bool hown K ht he hz hkey
  unfold Oper.wp
  simp [execOp, hop, hm, hx, hrun, Result.andThen]
  exact hK' _ _ (hK c hat)
end

theorem zeroB (w : World) : (zeroValue 4).run Tryz.prog w = .ok (.bool false) w := by kernel_rfl
theorem keyI : Keyed Tryz.prog 3 := Maps.int_keyed Tryz.underlying3

/-- The classes of the parents of a class lie in a row of its own. -/
theorem PW.tysB {w : World} {b pa pb pc : Nat} {nm : ByteArray} (h : PW w b nm pa pb pc) : Tys w w.heap.size pb 0 [tyAny, ⟨10, 0, ⟨#[]⟩, 0, none, 0, 0⟩] := by
  refine ⟨h.hbb, fun k t ht => ?_⟩
  obtain ⟨t0, t1, t2, t3, t4, t5, t6, t7, t8, t9⟩ := h.pb
  match k, ht with
  | 0, ht =>
    simp at ht
    subst ht
    exact ⟨t0, t1, t2, t3, t4⟩
  | 1, ht =>
    simp at ht
    subst ht
    exact ⟨t5, t6, t7, t8, t9⟩
theorem PW.tysA {w : World} {b pa pb pc : Nat} {nm : ByteArray} (h : PW w b nm pa pb pc) : Tys w w.heap.size pa 0 [tyAny] := by
  refine ⟨h.ha, fun k t ht => ?_⟩
  obtain ⟨t0, t1, t2, t3, t4⟩ := h.pa
  match k, ht with
  | 0, ht =>
    simp at ht
    subst ht
    exact ⟨t0, t1, t2, t3, t4⟩
theorem PW.tysC {w : World} {b pa pb pc : Nat} {nm : ByteArray} (h : PW w b nm pa pb pc) : Tys w w.heap.size pc 0 [tyAny] := by
  refine ⟨h.hc, fun k t ht => ?_⟩
  obtain ⟨t0, t1, t2, t3, t4⟩ := h.pc
  match k, ht with
  | 0, ht =>
    simp at ht
    subst ht
    exact ⟨t0, t1, t2, t3, t4⟩

set_option maxHeartbeats 1000000 in
theorem add_0 (b c pa pb pc Bp Bs Ba : Nat) (nm : ByteArray) (w : World) (h : PW w b nm pa pb pc) (hp : w.cell? ⟨Bp, 0, none⟩ = some (.slice (some ⟨b, 0, none⟩) 3 c)) :
    Calls Tryz.prog 50 #[i64 0, .pointer (some ⟨Bp, 0, none⟩), .pointer (some ⟨Bs, 0, none⟩), .pointer (some ⟨Ba, 0, none⟩)] w fun e w' => (∃ v, e = .returned v) ∧ Below w.heap.size w w' := by
  have g5 := h.k0 5 _ rfl
  have HT := Lib.hid h.tysA
  clear h
  go_enter Tryz.func50, Tryz.ntmps50
  go_wp2_with fail
  refine (par_none _ 1 _ [tyAny] _ rfl (by omega) (fun _ => ⟨pa, 0, rfl, HT.out⟩) rfl).mono ?_
  rintro e w1 ⟨A', c', rfl, hB⟩
  have HB := Lib.hid hB
  clear hB hp g5
  go_wp2_with fail
  refine wp_loop_rounds 1 ?_
  rw [rounds_succ]
  go_wp2_with fail
  go_end0
  exact ⟨⟨_, rfl⟩, HB.out⟩
theorem add_2 (b c pa pb pc Bp Bs Ba : Nat) (nm : ByteArray) (w : World) (h : PW w b nm pa pb pc) (hp : w.cell? ⟨Bp, 0, none⟩ = some (.slice (some ⟨b, 0, none⟩) 3 c)) :
    Calls Tryz.prog 50 #[i64 2, .pointer (some ⟨Bp, 0, none⟩), .pointer (some ⟨Bs, 0, none⟩), .pointer (some ⟨Ba, 0, none⟩)] w fun e w' => (∃ v, e = .returned v) ∧ Below w.heap.size w w' := by
  have g5 : w.cell? ⟨b, 31, none⟩ = some (sl pc 1) := h.k2 5 _ rfl
  have HT := Lib.hid h.tysC
  clear h
  go_enter Tryz.func50, Tryz.ntmps50
  go_wp2_with fail
  refine (par_none _ 1 _ [tyAny] _ rfl (by omega) (fun _ => ⟨pc, 0, rfl, HT.out⟩) rfl).mono ?_
  rintro e w1 ⟨A', c', rfl, hB⟩
  have HB := Lib.hid hB
  clear hB hp g5
  go_wp2_with fail
  refine wp_loop_rounds 1 ?_
  rw [rounds_succ]
  go_wp2_with fail
  go_end0
  exact ⟨⟨_, rfl⟩, HB.out⟩
end Go.Proofs.YtjhedehhanaokaaGreatDoor
