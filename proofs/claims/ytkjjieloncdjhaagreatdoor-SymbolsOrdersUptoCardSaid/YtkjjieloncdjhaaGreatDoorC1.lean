/- Full names: names of classes, the loop that collects them. -/
import Derived.Test.YtkjjieloncdjhaaGreatDoorL10
import Derived.Test.YtkjjieloncdjhaaGreatDoorH2
import Derived.RangeFuncWrites
import Derived.RangeFuncBox
import Derived.Test.YtkjjieloncdjhaaGreatDoorG2
import Derived.Test.YtkjjieloncdjhaaGreatDoorC
namespace Go.Proofs.YtkjjieloncdjhaaGreatDoor
open Go Go.RowKit Go.Shelf
attribute [local go_sem] Oper.semAt_some

theorem nameOf_C (pa : Value) (ow : Int) (w : World) : Calls Tryz.prog 53 #[clsV nmC 0 ow pa] w fun e w' => e = .returned (.string nmC) ∧ Below w.heap.size w w' := by
  go_enter Tryz.func53, Tryz.ntmps53
  go_wp2_with fail
  go_ret
  exact ⟨rfl, (Below.refl _ _).alloc (Nat.le_refl _) _⟩
abbrev nmBh : ByteArray := ⟨#[66, 35]⟩
theorem nameOf_B (pa : Value) (ow : Int) (w : World) : Calls Tryz.prog 53 #[clsV nmB 2 ow pa] w fun e w' => e = .returned (.string nmBh) ∧ Below w.heap.size w w' := by
  go_enter Tryz.func53, Tryz.ntmps53
  go_wp2_with fail
  go_ret
  exact ⟨rfl, (Below.refl _ _).alloc (Nat.le_refl _) _⟩

theorem Frs.c0 {w0 w : World} {t : TypeId} {l : List Value} {L : List (TypeId × List Value)} (h : Frs w0 w ((t, l) :: L)) : Bl w w0.heap.size t l := h.bl 0 t l rfl
end Go.Proofs.YtkjjieloncdjhaaGreatDoor
namespace Go.Proofs.YtkjjieloncdjhaaGreatDoor
open Go Go.RowKit Go.Shelf
attribute [local go_sem] Oper.semAt_some

set_option maxRecDepth 100000 in
set_option maxHeartbeats 4000000 in
theorem around1b_in (n : Nat) (hn : 1 ≤ n) (l Ba Bp n₀ b c : Nat) (ows : List Int) (a0 : Int) (m1 m2 m3 m4 m5 : Value) (J Jx : List Int → World → Prop)
    (hY : ∀ pre x W, x ∈ chain ows ows.length a0 → J pre W → pre.length < (chain ows ows.length a0).length → YieldAt Fence.wide (n - 1) Tryz.prog l #[.int .i64 x] W fun e W' =>
      (e = .returned (.bool true) ∧ J (pre ++ [x]) W' ∧ Kp n₀ Bp W W') ∨ (e = .returned (.bool false) ∧ Jx (pre ++ [x]) W'))
    (hlen : ows.length ≤ 100000)
    (W : World) (hBa : W.cell? ⟨Ba, 0, none⟩ = some (.int .i64 a0)) (hBp : Bl W Bp 30 [.slice (some ⟨b, 0, none⟩) ows.length c, m1, m2, m3, m4, m5]) (hO : Ows W n₀ b ows) (h0 : J [] W) :
    CallsIn Fence.wide n Tryz.prog 77 #[.func (.yield l) #[] #[], .pointer (some ⟨Ba, 0, none⟩), .pointer (some ⟨Bp, 0, none⟩)] W fun e W' => (∃ v, e = .returned v) ∧
      ((∃ ys, ys = chain ows ows.length a0 ∧ J ys W') ∨ (∃ pre, pre <+: chain ows ows.length a0 ∧ Jx pre W')) := by
  have HY := Lib.hid hY
  have HP := Lib.hid hBp
  have hp0 : W.cell? ⟨Bp, 0, none⟩ = some (.slice (some ⟨b, 0, none⟩) ows.length c) := hBp.cell 0
  have HO := Lib.hid hO
  have HJ := Lib.hid h0
  clear hY hBp hO h0
  refine callsIn_of_wp Tryz.func77 rfl trivial ?_ rfl
  simp only [Tryz.ntmps77, List.size_toArray, List.length_cons, List.length_nil, Nat.reduceAdd, Nat.reduceSub, Array.replicate_succ, Array.replicate_zero, List.push_toArray, List.append_toArray, List.nil_append, List.cons_append]
  gi_wp2
  gi_loopw [4, 9] (fun s4 s9 wr => ∃ (pre : List Int) (k : Nat) (a : Int), k ≤ ows.length ∧ s9 = .int .i64 k ∧ s4 = .int .i64 a ∧ chain ows ows.length a0 = pre ++ chain ows (ows.length - k) a ∧ pre.length ≤ k ∧ J pre wr ∧ Ows wr n₀ b ows ∧ Bl wr Bp 30 [.slice (some ⟨b, 0, none⟩) ows.length c, m1, m2, m3, m4, m5])
    (fun _ s9 _ => ows.length - (intOf s9).toNat)
  case atStart =>
    exact ⟨[], 0, a0, by omega, rfl, rfl, rfl, by simp, HJ.out, HO.out, HP.out⟩
  case round =>
    obtain ⟨pre, k, a, hk, rfl, rfl, hx, hpl, hJs, hOs, hPs⟩ := hrel
    have hp0r : wr.cell? ⟨Bp, 0, none⟩ = some (.slice (some ⟨b, 0, none⟩) ows.length c) := hPs.cell 0
    have HX := Lib.hid hx
    have HOs := Lib.hid hOs
    have HPs := Lib.hid hPs
    have HJs := Lib.hid hJs
    clear hx hOs hPs hJs hp0 hBa
    by_cases hlt : k < ows.length
    · have hm : ows.length - k = (ows.length - (k + 1)) + 1 := by omega
      have HM := Lib.hid hm
      clear hm
      by_cases hin : 0 ≤ a ∧ a < ows.length
      · obtain ⟨j, rfl⟩ : ∃ j : Nat, a = (j : Int) := ⟨a.toNat, by omega⟩
        have hj : j < ows.length := by omega
        have hc := HOs.out.at_ j hj
        have HC := Lib.hid (show chain ows (ows.length - k) (j : Int) = (if 0 ≤ ows.getD j 0 ∧ ows.getD j 0 < ows.length then ows.getD j 0 :: chain ows (ows.length - (k + 1)) (ows.getD j 0) else []) from by
          rw [HM.out, chain, if_pos hin]
          rfl)
        have HIN := Lib.hid (show decide (0 ≤ (j : Int) ∧ (j : Int) < (ows.length : Int)) = true from by simpa using hin)
        clear hin
        generalize ows.getD j 0 = o at *
        gi_wp2_with fail
        refine ⟨trivial, (exists_in _ _ _ _ _ true HIN.out _).mono ?_⟩
        rintro e w' ⟨rfl, rfl⟩
        gi_wp2_with fail
        by_cases ho : 0 ≤ o ∧ o < ows.length
        · have HT := Lib.hid (show decide (0 ≤ o ∧ o < (ows.length : Int)) = true from by simpa using ho)
          have HC2 := Lib.hid (show chain ows (ows.length - k) (j : Int) = o :: chain ows (ows.length - (k + 1)) o from by rw [HC.out, if_pos ho])
          clear HC ho
          obtain ⟨fn, tmps, assign, body, hy, hR⟩ := HY.out pre o wr (by rw [HX.out, HC2.out]; simp) HJs.out (by rw [HX.out, HC2.out]; simp)
          refine ⟨trivial, (exists_in _ _ _ _ _ true HT.out _).mono ?_⟩
          rintro e w' ⟨rfl, rfl⟩
          gi_wp2_with fail
          refine hR.mono ?_
          rintro e W3 (⟨rfl, hJ3, hk3⟩ | ⟨rfl, hJx3⟩)
          · have HJ3 := Lib.hid hJ3
            have HK3 := Lib.hid hk3
            clear hJ3 hk3
            gi_wp2_with fail
            go_roundw
            case rel => exact ⟨pre ++ [o], k + 1, o, by omega, by go_num, rfl, by rw [HX.out, HC2.out]; simp, by simp; omega, HJ3.out, HOs.out.below HK3.out.1, HK3.out.2.trans HPs.out⟩
            case measure => simp [intOf]; omega
          · have HJ3 := Lib.hid hJx3
            clear hJx3
            gi_wp2_with fail
            refine bodyPost_ret (results_none rfl _ _ _) rfl ?_
            exact ⟨⟨_, rfl⟩, .inr ⟨pre ++ [o], ⟨chain ows (ows.length - (k + 1)) o, by rw [HX.out, HC2.out]; simp⟩, HJ3.out⟩⟩
        · have HT := Lib.hid (show decide (0 ≤ o ∧ o < (ows.length : Int)) = false from by simpa using ho)
          have HC2 := Lib.hid (show chain ows (ows.length - k) (j : Int) = [] from by rw [HC.out, if_neg ho])
          clear HC ho
          refine ⟨trivial, (exists_in _ _ _ _ _ false HT.out _).mono ?_⟩
          rintro e w' ⟨rfl, rfl⟩
          gi_wp2_with fail
          refine ⟨fun _ h => (by cases h), ?_⟩
          gi_wp2_with fail
          refine bodyPost_ret (results_none rfl _ _ _) rfl ?_
          exact ⟨⟨_, rfl⟩, .inl ⟨pre, by rw [HX.out, HC2.out, List.append_nil], HJs.out⟩⟩
      · have HIN := Lib.hid (show decide (0 ≤ a ∧ a < (ows.length : Int)) = false from by simpa using hin)
        have HC2 := Lib.hid (show chain ows (ows.length - k) a = [] from by rw [HM.out, chain, if_neg hin])
        clear hin
        gi_wp2_with fail
        refine ⟨trivial, (exists_in _ _ _ _ _ false HIN.out _).mono ?_⟩
        rintro e w' ⟨rfl, rfl⟩
        gi_wp2_with fail
        refine bodyPost_ret (results_none rfl _ _ _) rfl ?_
        exact ⟨⟨_, rfl⟩, .inl ⟨pre, by rw [HX.out, HC2.out, List.append_nil], HJs.out⟩⟩
    · have hm : ows.length - k = 0 := by omega
      have HM := Lib.hid hm
      clear hm
      gi_wp2_with fail
      go_end0
      exact ⟨⟨_, rfl⟩, .inl ⟨pre, by rw [HX.out, HM.out, chain, List.append_nil], HJs.out⟩⟩

/-- .. of what is handed on each is one of the classes around. -/
theorem around_sub (n : Nat) (hn : 1 ≤ n) (Ba Bp n₀ b c : Nat) (ows : List Int) (a0 : Int) (m1 m2 m3 m4 m5 : Value) (hlen : ows.length ≤ 100000) (w : World) (ha : Ba < w.heap.size) (hp : Bp < w.heap.size) (hn₀ : n₀ ≤ w.heap.size)
    (hBa : w.cell? ⟨Ba, 0, none⟩ = some (.int .i64 a0)) (hBp : Bl w Bp 30 [.slice (some ⟨b, 0, none⟩) ows.length c, m1, m2, m3, m4, m5]) (hO : Ows w n₀ b ows) :
    SeqStopsK Fence.wide n Tryz.prog 77 #[.pointer (some ⟨Ba, 0, none⟩), .pointer (some ⟨Bp, 0, none⟩)] (fun x : { x : Int // x ∈ chain ows ows.length a0 } => #[Value.int .i64 x.1]) (Kp n₀ Bp) (fun ys => ys.map Subtype.val = chain ows ows.length a0) (fun pre => pre.map Subtype.val <+: chain ows ows.length a0) (chain ows ows.length a0).length w := fun l J Jx W hW _ _ hY h0 => by
  refine (around1b_in n hn l Ba Bp n₀ b c ows a0 m1 m2 m3 m4 m5 (fun l W => ∃ l' : List { x : Int // x ∈ chain ows ows.length a0 }, l'.map Subtype.val = l ∧ J l' W) (fun l W => ∃ l' : List { x : Int // x ∈ chain ows ows.length a0 }, l'.map Subtype.val = l ∧ Jx l' W) ?_ hlen W ((hW.cell (p := ⟨Ba, 0, none⟩) ha).trans hBa) (hBp.below hW hp) (hO.below (hW.mono hn₀)) ⟨[], rfl, h0⟩).mono ?_
  · rintro pre x W1 hx ⟨l', rfl, hJ⟩ hl
    refine (hY l' ⟨x, hx⟩ W1 hJ (by simpa using hl)).mono ?_
    rintro e W' (⟨rfl, h1, h2⟩ | ⟨rfl, h1⟩)
    · exact .inl ⟨rfl, ⟨_, by simp, h1⟩, h2⟩
    · exact .inr ⟨rfl, ⟨_, by simp, h1⟩⟩
  · rintro e W' ⟨hv, (⟨ys, rfl, l', hl, hJ⟩ | ⟨pre, hp, l', rfl, hJ⟩)⟩
    · exact ⟨hv, .inl ⟨l', hl, hJ⟩⟩
    · exact ⟨hv, .inr ⟨l', hp, hJ⟩⟩

end Go.Proofs.YtkjjieloncdjhaaGreatDoor
namespace Go.Proofs.YtkjjieloncdjhaaGreatDoor
open Go Go.RowKit

theorem wpOpIn_of_wpOp {P : Program} {ops : Array Oper} {Q : Exit → Act → World → Prop} (l n : Nat) (hQ : ¬ LetsOut Q) (hnd : ∀ (i : Nat) o, ops[i]? = some o → ∀ d, o.op ≠ .defer d) {i : Nat} {K K' : Act → World → Prop} (hK : ∀ a w, K a w → K' a w) {a : Act} {w : World}
    (h : wpOp P ops Q i K a w) : wpOpIn (Fence.wide.inRound l) n P ops Q i K' a w := by
  unfold wpOp at h
  unfold wpOpIn
  cases ho : ops[i]? with
  | none =>
    rw [ho] at h
    exact hK _ _ h
  | some o =>
    rw [ho] at h
    simp only at h ⊢
    split
    · rename_i hw
      rw [if_pos hw] at h
      have h := h.resolve_right (fun k => hQ k.2)
      refine ⟨fun _ _ => trivial, ?_⟩
      unfold Oper.wp at h
      rw [show (Fence.wide.inRound l).round = some l from rfl, Oper.semAt_some l a.eval o (hnd i o ho)]
      generalize (execOp a.eval o).run P w = r at h
      cases r with
      | ok x w' =>
        cases x with
        | value v => exact hK _ _ h
        | skip => exact hK _ _ h
        | defer d => exact hK _ _ h
        | enter f args =>
          refine ⟨fun k => by simp [Fence.wide] at k, CallsIn.inRound l (callsIn_wide.2 ?_)⟩
          refine Calls.mono h ?_
          intro e w2 he
          cases e with
          | returned v => exact hK _ _ he
          | panicked ch => exact he
          | outgrown => exact he
        | row row args =>
          refine ⟨fun k => by simp [Fence.wide] at k, ?_⟩
          intro c cs hroom
          obtain ⟨v, w2, r, s⟩ := h c cs
          exact ⟨v, w2, hK _ _ r, stepsIn_wide.2 s⟩
        | _ => exact h.elim
      | halt x w' => cases x <;> first | exact h | exact h.elim
    · rename_i hw
      rw [if_neg hw] at h
      exact ⟨fun _ _ => trivial, hK _ _ h⟩

def noDefer (ops : Array Oper) : Bool := ops.toList.all fun o => match o.op with
  | .defer _ => false
  | _ => true
theorem noDefer_at {ops : Array Oper} (h : noDefer ops = true) (i : Nat) (o : Oper) (ho : ops[i]? = some o) : ∀ d, o.op ≠ .defer d := by
  intro d e
  have hm : o ∈ ops.toList := by
    obtain ⟨hlt, he⟩ := Array.getElem?_eq_some_iff.1 ho
    rw [← he]
    simp
  have := List.all_eq_true.1 h o hm
  rw [e] at this
  cases this

theorem wpAnyIn_of {P : Program} {ops : Array Oper} {Q : Exit → Act → World → Prop} (l n : Nat) (hQ : ¬ LetsOut Q) (hnd : noDefer ops = true) :
    ∀ (f : Nat) (ls : Array Bool) (a : Act) (w : World), wpAny P .any ops Q f ls a w → wpAnyIn (Fence.wide.inRound l) n P .any ops Q f ls a w := by
  intro f
  induction f with
  | zero => intro ls a w h; exact h
  | succ f ih => intro ls a w h; exact ⟨h.1, fun i hi => wpOpIn_of_wpOp l n hQ (noDefer_at hnd) (fun a w k => ih _ a w k) (h.2 i hi)⟩
end Go.Proofs.YtkjjieloncdjhaaGreatDoor
