/- The check of parents; of ancestors. -/
import Derived.Test.YtkjjieloncdjhaaGreatDoorL10
import Derived.Maps.OwnSet
namespace Go.Proofs.YtkjjieloncdjhaaGreatDoor
open Go Go.RowKit

set_option maxRecDepth 100000 in
set_option maxHeartbeats 4000000 in
theorem checkParents_0 (b c pa pb pc : Nat) (nm : ByteArray) (w : World) (h : PW w b nm pa pb pc) : Calls Tryz.prog 90 #[prgV b c, i64 0] w fun e w' => e = .returned (i64 0) ∧ Below w.heap.size w w' := by
  have g5 := h.k0 5 _ rfl
  obtain ⟨t0, t1, t2, t3, t4⟩ := h.pa
  have hb := h.hb
  have hbb := h.ha
  have hne : ¬ b = w.heap.size := by omega
  have hnb : ¬ pa = w.heap.size := by omega
  clear h
  go_enter Tryz.func90, Tryz.ntmps90
  go_wp2_with fail
  refine wp_loop_rounds 2 ?_
  rw [rounds_succ]
  go_wp2_with fail
  rw [rounds_succ]
  go_wp2_with fail
  go_ret
  exact ⟨rfl, ((Below.refl _ _).alloc (Nat.le_refl _) _).alloc (by simp) _⟩

set_option maxRecDepth 100000 in
set_option maxHeartbeats 4000000 in
theorem checkParents_2 (b c pa pb pc : Nat) (nm : ByteArray) (w : World) (h : PW w b nm pa pb pc) : Calls Tryz.prog 90 #[prgV b c, i64 2] w fun e w' => e = .returned (i64 0) ∧ Below w.heap.size w w' := by
  have g5 : w.cell? ⟨b, 31, none⟩ = some (sl pc 1) := h.k2 5 _ rfl
  obtain ⟨t0, t1, t2, t3, t4⟩ := h.pc
  have hb := h.hb
  have hbb := h.hc
  have hne : ¬ b = w.heap.size := by omega
  have hnb : ¬ pc = w.heap.size := by omega
  clear h
  go_enter Tryz.func90, Tryz.ntmps90
  go_wp2_with fail
  refine wp_loop_rounds 2 ?_
  rw [rounds_succ]
  go_wp2_with fail
  rw [rounds_succ]
  go_wp2_with fail
  go_ret
  exact ⟨rfl, ((Below.refl _ _).alloc (Nat.le_refl _) _).alloc (by simp) _⟩

set_option maxRecDepth 100000 in
set_option maxHeartbeats 4000000 in
theorem checkParents_1 (b c pa pb pc : Nat) (nm : ByteArray) (w : World) (h : PW w b nm pa pb pc) : Calls Tryz.prog 90 #[prgV b c, i64 1] w fun e w' => e = .returned (i64 0) ∧ Below w.heap.size w w' := by
  have H := Lib.hid h
  have g5 : w.cell? ⟨b, 18, none⟩ = some (sl pb 2) := h.k1 5 _ rfl
  obtain ⟨t0, t1, t2, t3, t4, t5, t6, t7, t8, t9⟩ := h.pb
  have hb := h.hb
  have hbb := h.hbb
  have hne : ¬ b = w.heap.size := by omega
  have hnb : ¬ pb = w.heap.size := by omega
  have hnb1 : ¬ pb = w.heap.size + 1 := by omega
  have hnl : pb < w.heap.size + 1 := by omega
  clear h
  go_enter Tryz.func90, Tryz.ntmps90
  go_wp2_with fail
  refine wp_loop_rounds 3 ?_
  rw [rounds_succ]
  go_wp2_with fail
  rw [rounds_succ]
  go_wp2_with fail
  refine (checkParent_1 b c pa pb pc nm _ (((H.out.alloc _).alloc _).alloc _)).mono ?_
  rintro e w1 ⟨rfl, hB⟩
  have HB := Lib.hid hB
  clear hB
  go_wp2_with fail
  rw [rounds_succ]
  go_wp2_with fail
  go_ret
  exact ⟨rfl, ((((Below.refl _ _).alloc (Nat.le_refl _) _).alloc (by simp) _).alloc (by simp; omega) _).trans (HB.out.mono (by simp; omega))⟩
end Go.Proofs.YtkjjieloncdjhaaGreatDoor
namespace Go.Proofs.YtkjjieloncdjhaaGreatDoor
open Go Go.RowKit
open Go.Maps (Keyed)

section
variable {H : Type} {P : Program} {k : TypeId} {w : World} {b n : Nat} {D : DataW H}
theorem plainElem_bool_inv {e : TypeId} (he : P.underlying e = some .bool) {v : Value} {z : DataW H × List MemPlace} (h : plainElem P e v = some z) : ∃ x, v = .bool x ∧ z = (.lit (.bool x), []) := by
  unfold plainElem at h
  rw [he] at h
  cases v <;> simp at h
  exact ⟨_, rfl, h.symm⟩
theorem look_bool {t e : TypeId} (h : w.ownsMap P k (plainElem P e) b n D) (K : Keyed P k) (ht : P.underlying t = some (.map k e)) (he : P.underlying e = some .bool) (hz : (zeroValue e).run P w = .ok (.bool false) w)
    {key : Value} {kl : Lit} (hkey : keyOf P k key = some kl) : ∃ x, (Instr.lookup t (.map (some b)) key false).run P w = .ok (.bool x) w ∧ D.atKey kl (.lit (.bool false)) = .lit (.bool x) := by
  obtain ⟨v, ps, hrun, hv⟩ := h.lookup K ht hz (plainElem_bool he false) hkey
  obtain ⟨x, rfl, hx⟩ := plainElem_bool_inv he hv
  simp only [Prod.mk.injEq] at hx
  exact ⟨x, hrun, hx.1⟩
/-- 'm[k]' at elements that are bools. -/
theorem wpList_lookup_own_bool (w : World) {ops : Array Oper} {rest : List Oper} {o : Oper} {a : Act} {Q : Exit → Act → World → Prop}
    (hg : o.guard = none) (m x : Operand) (t : TypeId) (hop : o.op = Op.lookup t m x false)
    (k e : TypeId) (K : Keyed P k) (ht : P.underlying t = some (.map k e)) (he : P.underlying e = some .bool) (hz : (zeroValue e).run P w = .ok (.bool false) w) (b n : Nat) (D : DataW H)
    (hm : a.eval m = .map (some b)) (hown : w.ownsMap P k (plainElem P e) b n D) (key : Value) (kl : Lit) (hx : a.eval x = key) (hkey : keyOf P k key = some kl)
    (hK : ∀ c : Bool, D.atKey kl (.lit (.bool false)) = .lit (.bool c) → wpList P ops Q rest (a.put o.dst (.bool c)) w) :
    wpList P ops Q (o :: rest) a w := by
  refine wpList_plain hg fun K' hK' => ?_
  obtain ⟨c, hrun, hat⟩ := look_bool hown K ht he hz hkey
  unfold Oper.wp
  simp [execOp, hop, hm, hx, hrun, Result.andThen]
  exact hK' _ _ (hK c hat)
end

theorem zeroB (w : World) : (zeroValue 4).run Tryz.prog w = .ok (.bool false) w := by kernel_rfl
theorem keyI : Keyed Tryz.prog 3 := Maps.int_keyed Tryz.underlying3

/-- The classes of the parents of a class lie in a row of its own. -/
theorem PW.tysB {w : World} {b pa pb pc : Nat} {nm : ByteArray} (h : PW w b nm pa pb pc) : Tys w w.heap.size pb 0 [tyAny, ⟨10, 0, ⟨#[]⟩, 0, none, 0, 0⟩] := by
  refine ⟨h.hbb, fun k t ht => ?_⟩
  obtain ⟨t0, t1, t2, t3, t4, t5, t6, t7, t8, t9⟩ := h.pb
  match k, ht with
  | 0, ht =>
    simp at ht
    subst ht
    exact ⟨t0, t1, t2, t3, t4⟩
  | 1, ht =>
    simp at ht
    subst ht
    exact ⟨t5, t6, t7, t8, t9⟩
theorem PW.tysA {w : World} {b pa pb pc : Nat} {nm : ByteArray} (h : PW w b nm pa pb pc) : Tys w w.heap.size pa 0 [tyAny] := by
  refine ⟨h.ha, fun k t ht => ?_⟩
  obtain ⟨t0, t1, t2, t3, t4⟩ := h.pa
  match k, ht with
  | 0, ht =>
    simp at ht
    subst ht
    exact ⟨t0, t1, t2, t3, t4⟩
theorem PW.tysC {w : World} {b pa pb pc : Nat} {nm : ByteArray} (h : PW w b nm pa pb pc) : Tys w w.heap.size pc 0 [tyAny] := by
  refine ⟨h.hc, fun k t ht => ?_⟩
  obtain ⟨t0, t1, t2, t3, t4⟩ := h.pc
  match k, ht with
  | 0, ht =>
    simp at ht
    subst ht
    exact ⟨t0, t1, t2, t3, t4⟩

set_option maxHeartbeats 1000000 in
theorem add_0 (b c pa pb pc Bp Bs Ba : Nat) (nm : ByteArray) (w : World) (h : PW w b nm pa pb pc) (hp : w.cell? ⟨Bp, 0, none⟩ = some (.slice (some ⟨b, 0, none⟩) 3 c)) :
    Calls Tryz.prog 50 #[i64 0, .pointer (some ⟨Bp, 0, none⟩), .pointer (some ⟨Bs, 0, none⟩), .pointer (some ⟨Ba, 0, none⟩)] w fun e w' => (∃ v, e = .returned v) ∧ Below w.heap.size w w' := by
  have g5 := h.k0 5 _ rfl
  have HT := Lib.hid h.tysA
  clear h
  go_enter Tryz.func50, Tryz.ntmps50
  go_wp2_with fail
  refine (par_none _ 1 _ [tyAny] _ rfl (by omega) (fun _ => ⟨pa, 0, rfl, HT.out⟩) rfl).mono ?_
  rintro e w1 ⟨A', c', rfl, hB⟩
  have HB := Lib.hid hB
  clear hB hp g5
  go_wp2_with fail
  refine wp_loop_rounds 1 ?_
  rw [rounds_succ]
  go_wp2_with fail
  go_end0
  exact ⟨⟨_, rfl⟩, HB.out⟩
theorem add_2 (b c pa pb pc Bp Bs Ba : Nat) (nm : ByteArray) (w : World) (h : PW w b nm pa pb pc) (hp : w.cell? ⟨Bp, 0, none⟩ = some (.slice (some ⟨b, 0, none⟩) 3 c)) :
    Calls Tryz.prog 50 #[i64 2, .pointer (some ⟨Bp, 0, none⟩), .pointer (some ⟨Bs, 0, none⟩), .pointer (some ⟨Ba, 0, none⟩)] w fun e w' => (∃ v, e = .returned v) ∧ Below w.heap.size w w' := by
  have g5 : w.cell? ⟨b, 31, none⟩ = some (sl pc 1) := h.k2 5 _ rfl
  have HT := Lib.hid h.tysC
  clear h
  go_enter Tryz.func50, Tryz.ntmps50
  go_wp2_with fail
  refine (par_none _ 1 _ [tyAny] _ rfl (by omega) (fun _ => ⟨pc, 0, rfl, HT.out⟩) rfl).mono ?_
  rintro e w1 ⟨A', c', rfl, hB⟩
  have HB := Lib.hid hB
  clear hB hp g5
  go_wp2_with fail
  refine wp_loop_rounds 1 ?_
  rw [rounds_succ]
  go_wp2_with fail
  go_end0
  exact ⟨⟨_, rfl⟩, HB.out⟩
end Go.Proofs.YtkjjieloncdjhaaGreatDoor
namespace Go.Proofs.YtkjjieloncdjhaaGreatDoor
open Go Go.RowKit
open Go.Maps (Keyed)

theorem key_mk (x : Int) (h : (Lit.int .i64 x).wf = true) : keyOf Tryz.prog 3 (.int .i64 x) = some (.int .i64 x) := Maps.keyOf_int_mk Tryz.underlying3 h

/-- A slice of one number. -/
theorem own_one {w : World} {base : Nat} {e : TypeId} {v : Value} {u : Value} (h : w.ownsRow base e 1 v 1 [u]) : ∃ g c, v = .slice (some ⟨g, 0, none⟩) 1 c ∧ base ≤ g ∧ g < w.heap.size ∧ w.cell? ⟨g, 0, none⟩ = some u := by
  have hl := h.lt
  rcases h.2 with ⟨_, h0⟩ | ⟨g, cap, cur, rfl, hb, hg, hrest⟩
  · exact absurd h0 (by omega)
  · have := hl g rfl
    refine ⟨g, cap, rfl, hb, this.2, ?_⟩
    exact (h.cellAt 0 (by omega))

/-- What an addition leaves. -/
structure Added (n₀ m Ba : Nat) (w w' : World) : Prop where
  be : Below n₀ w w'
  bl : ∀ i, i < w.heap.size → i ≠ m → i ≠ Ba → w'.heap[i]? = w.heap[i]?
theorem Added.below {n₀ m Ba : Nat} {w w' : World} (h : Below w.heap.size w w') (hn : n₀ ≤ w.heap.size) : Added n₀ m Ba w w' := ⟨h.mono hn, fun i hi _ _ => h.block i hi⟩
theorem Added.trans {n₀ m Ba : Nat} {a b c : World} (h : Added n₀ m Ba a b) (k : Added n₀ m Ba b c) : Added n₀ m Ba a c :=
  ⟨h.be.trans k.be, fun i hi h1 h2 => (k.bl i (Nat.lt_of_lt_of_le hi h.be.size) h1 h2).trans (h.bl i hi h1 h2)⟩
theorem Added.grown {n₀ m Ba : Nat} {w w' : World} (h : w.grownBy w' (some m)) (hn : n₀ ≤ w.heap.size) (hm : n₀ ≤ m) : Added n₀ m Ba w w' :=
  ⟨(Below.refl n₀ w).grown h hn (fun k e => by cases e; exact hm), fun i hi h1 _ => h.block i hi (fun e => h1 (by cases e; rfl))⟩
theorem Added.grownNone {n₀ m Ba : Nat} {w w' : World} (h : w.grownBy w' none) (hn : n₀ ≤ w.heap.size) : Added n₀ m Ba w w' :=
  ⟨(Below.refl n₀ w).grown h hn (fun k e => by cases e), fun i hi _ _ => h.block i hi (fun e => by cases e)⟩
theorem Added.set {n₀ m Ba : Nat} {w : World} (hn : n₀ ≤ Ba) (v : Value) : Added n₀ m Ba w (w.setCell ⟨Ba, 0, none⟩ v) :=
  ⟨(Below.refl n₀ w).setCell (p := ⟨Ba, 0, none⟩) hn v, fun i _ _ h2 => Below.heap_setCell w ⟨Ba, 0, none⟩ v i h2⟩
theorem Added.cell {n₀ m Ba : Nat} {w w' : World} (h : Added n₀ m Ba w w') {p : Addr} (hp : p.block < w.heap.size) (h1 : p.block ≠ m) (h2 : p.block ≠ Ba) : w'.cell? p = w.cell? p := World.cell?_of_block (h.bl _ hp h1 h2)

def AddRes (n₀ m Ba : Nat) (w : World) (e : Ending) (w' : World) : Prop := (∃ v, e = .returned v) ∧ (∃ v', w'.cell? ⟨Ba, 0, none⟩ = some v' ∧ w'.ownsRow w.heap.size 3 1 v' 1 [i64 0]) ∧ Added n₀ m Ba w w'

set_option maxRecDepth 100000 in
set_option maxHeartbeats 4000000 in
theorem add_1 (b c pa pb pc Bp Bs Ba m n₀ : Nat) (nm : ByteArray) (w : World) (h : PW w b nm pa pb pc) (hp : w.cell? ⟨Bp, 0, none⟩ = some (.slice (some ⟨b, 0, none⟩) 3 c)) (hpl : Bp < w.heap.size)
    (hs : w.cell? ⟨Bs, 0, none⟩ = some (.map (some m))) (hsl : Bs < w.heap.size) (ha : Bl w Ba 33 [nilS]) (hm : w.ownsMap (H := Unit) Tryz.prog 3 (plainElem Tryz.prog 4) m 0 (.map []))
    (hn : n₀ ≤ w.heap.size) (hnm : n₀ ≤ m) (hna : n₀ ≤ Ba) (hms : m ≠ Bs) (hma : m ≠ Ba) (hmp : m ≠ Bp) (_ : Bp ≠ Ba) :
    Calls Tryz.prog 50 #[i64 1, .pointer (some ⟨Bp, 0, none⟩), .pointer (some ⟨Bs, 0, none⟩), .pointer (some ⟨Ba, 0, none⟩)] w (AddRes n₀ m Ba w) := by
  have g5 : w.cell? ⟨b, 18, none⟩ = some (sl pb 2) := h.k1 5 _ rfl
  have HT := Lib.hid h.tysB
  have HA := Lib.hid ha
  have HM := Lib.hid hm
  obtain ⟨i0, hi0, hz0, hz1, hz2⟩ := info_parts infoInt
  clear h ha hm
  have HP := Lib.hid hp
  have HS := Lib.hid hs
  go_enter Tryz.func50, Tryz.ntmps50
  go_wp2_with fail
  refine (parentsOf_any _ 2 _ [tyAny, ⟨10, 0, ⟨#[]⟩, 0, none, 0, 0⟩] _ rfl (by omega) (fun _ => ⟨pb, 0, rfl, HT.out⟩)).mono ?_
  rintro e w1 ⟨v, rfl, ho, hB⟩
  change w1.ownsRow w.heap.size 3 1 v 1 [i64 0] at ho
  obtain ⟨g, cg, rfl, hg1, hg2, hg3⟩ := own_one ho
  have HB := Lib.hid hB
  have p1 : w1.cell? ⟨Bp, 0, none⟩ = some (.slice (some ⟨b, 0, none⟩) 3 c) := (hB.cell (p := ⟨Bp, 0, none⟩) hpl).trans HP.out
  have s1 : w1.cell? ⟨Bs, 0, none⟩ = some (.map (some m)) := (hB.cell (p := ⟨Bs, 0, none⟩) hsl).trans HS.out
  have hm1 : w1.ownsMap (H := Unit) Tryz.prog 3 (plainElem Tryz.prog 4) m 0 (.map []) := by
    refine HM.out.kept (row := none) ⟨hB.os, hB.tape, hB.output, hB.size, fun k hk _ => hB.block k hk⟩ (by simp)
  have hl1 : (Instr.lookup 89 (.map (some m)) (.int .i64 0) false).run Tryz.prog w1 = .ok (.bool false) w1 := by
    obtain ⟨x, hrun, hat⟩ := look_bool hm1 keyI Tryz.underlying89 Tryz.underlying4 (zeroB _) (key_mk 0 rfl)
    cases x
    · exact hrun
    · exact absurd hat (by simp [DataW.atKey])
  have HM1 := Lib.hid hm1
  clear hp hs ho hB hm1 g5
  go_wp2_with fail
  refine wp_loop_rounds 2 ?_
  rw [rounds_succ]
  go_wp2_with fail
  refine (exists_is _ 3 _ _ true (by decide) _).mono ?_
  rintro e w' ⟨rfl, rfl⟩
  go_wp2_with (at_mapUpdate; refine wpList_mapUpdate_own _ rfl _ _ _ 89 rfl 3 4 keyI Tryz.underlying89 _ m 0 _ rfl HM1.out (by unfold maxLen; omega) _ _ (.int .i64 0) rfl rfl (key_mk 0 rfl) _ [] (plainElem_bool Tryz.underlying4 true) ?_)
  intro w2 hown2 hgrow2
  have bA1 : Bl w1 Ba 33 [nilS] := HA.out.below HB.out HA.out.lt
  have bA2 : Bl w2 Ba 33 [nilS] := bA1.grown hgrow2 (by intro e; exact hma (by cases e; rfl))
  have a2 : w2.cell? ⟨Ba, 0, none⟩ = some nilS := bA2.cell 0
  have BA2 := Lib.hid bA2
  have G2 := Lib.hid hgrow2
  clear bA1 bA2 hown2 hgrow2 hl1 p1 s1 hg3
  have hz2s : w.heap.size ≤ w2.heap.size := Nat.le_trans HB.out.size G2.out.size
  go_wp2_with (at_builtin; refine wpList_append_own _ rfl _ _ 33 rfl w.heap.size 3 i0 (.int .i64 0) 1 8 Tryz.underlying33 hi0 hz0 hz1 hz2 rfl (by decide) _ _ _ rfl (World.ownsRow_nil _ _ _ _) ⟨w2.heap.size, 0, none⟩ 1 1 [.int .i64 0] rfl rfl (World.news_of_block (cs := #[.int .i64 0]) (t := 3) (fr := (0, 0)) (Go.heap_alloc_new w2 _)) (int_one 0) (by unfold maxLen; omega) (by omega) (by simp; omega) ?_)
  intro v' w3 hown3 hgrow3 _
  have bA3 : Bl w3 Ba 33 [nilS] := (BA2.out.alloc _).grown hgrow3 (by intro e; cases e)
  have a3 : w3.cell? ⟨Ba, 0, none⟩ = some nilS := bA3.cell 0
  have f3 : w3.frozen? ⟨Ba, 0, none⟩ = false := bA3.froz 0
  have BA3 := Lib.hid bA3
  obtain ⟨g3, cg3, rfl, hg31, hg32, hg33⟩ := own_one (u := i64 0) hown3
  have O3 := Lib.hid hown3
  have AD := Lib.hid (show Added n₀ m Ba w w3 from
    (Added.below HB.out hn).trans ((Added.grown G2.out (Nat.le_trans hn HB.out.size) hnm).trans ((Added.below ((Below.refl _ _).alloc (Nat.le_refl _) _) (Nat.le_trans hn hz2s)).trans (Added.grownNone hgrow3 (by simp; omega)))))
  clear bA3 hown3 hgrow3 a2 hg33
  go_wp2_with fail
  rw [rounds_succ]
  go_wp2_with fail
  go_end0
  refine ⟨⟨_, rfl⟩, ⟨_, World.cell?_setCell_same' _ _ _ (by rw [a3]; rfl), ?_⟩, AD.out.trans (Added.set hna _)⟩
  refine O3.out.kept (row := some Ba) ((Og.refl Ba w3).set 0 _) (.inr ?_)
  intro e
  have : g3 = Ba := by simpa [Value.ownBlock] using e
  have := HA.out.lt
  omega
end Go.Proofs.YtkjjieloncdjhaaGreatDoor
