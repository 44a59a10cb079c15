/- A region that draws its order, in a round of a loop over an iterator, by the plain law. -/
import Derived.Test.YtjhedehhanaokaaGreatDoorC
import Derived.Test.YtjhedehhanaokaaGreatDoorG1
namespace Go.Proofs.YtjhedehhanaokaaGreatDoor
open Go Go.RowKit

theorem wpOpIn_of_wpOp {P : Program} {ops : Array Oper} {Q : Exit → Act → World → Prop} (l n : Nat) (hQ : ¬ LetsOut Q) (hnd : ∀ (i : Nat) o, ops[i]? = some o → ∀ d, o.op ≠ .defer d) {i : Nat} {K K' : Act → World → Prop} (hK : ∀ a w, K a w → K' a w) {a : Act} {w : World}
    (h : wpOp P ops Q i K a w) : wpOpIn (Fence.wide.inRound l) n P ops Q i K' a w := by
  unfold wpOp at h
  unfold wpOpIn
  cases ho : ops[i]? with
  | none =>
    rw [ho] at h
    exact hK _ _ h
  | some o =>
    rw [ho] at h
    simp only at h ⊢
    split
    · rename_i hw
      rw [if_pos hw] at h
      have h := h.resolve_right (fun k => hQ k.2)
      refine ⟨fun _ _ => trivial, ?_⟩
      unfold Oper.wp at h
      rw [show (Fence.wide.inRound l).round = some l from rfl, Oper.semAt_some l a.eval o (hnd i o ho)]
      generalize (execOp a.eval o).run P w = r at h
      cases r with
      | ok x w' =>
        cases x with
        | value v => exact hK _ _ h
        | skip => exact hK _ _ h
        | defer d => exact hK _ _ h
        | enter f args =>
          refine ⟨fun k => by simp [Fence.wide] at k, CallsIn.inRound l (callsIn_wide.2 ?_)⟩
          refine Calls.mono h ?_
          intro e w2 he
          cases e with
          | returned v => exact hK _ _ he
          | panicked ch => exact he
          | outgrown => exact he
        | row row args =>
          refine ⟨fun k => by simp [Fence.wide] at k, ?_⟩
          intro c cs hroom
          obtain ⟨v, w2, r, s⟩ := h c cs
          exact ⟨v, w2, hK _ _ r, stepsIn_wide.2 s⟩
        | _ => exact h.elim
      | halt x w' => cases x <;> first | exact h | exact h.elim
    · rename_i hw
      rw [if_neg hw] at h
      exact ⟨fun _ _ => trivial, hK _ _ h⟩

def noDefer (ops : Array Oper) : Bool := ops.toList.all fun o => match o.op with
  | .defer _ => false
  | _ => true
theorem noDefer_at {ops : Array Oper} (h : noDefer ops = true) (i : Nat) (o : Oper) (ho : ops[i]? = some o) : ∀ d, o.op ≠ .defer d := by
  intro d e
  have hm : o ∈ ops.toList := by
    obtain ⟨hlt, he⟩ := Array.getElem?_eq_some_iff.1 ho
    rw [← he]
    simp
  have := List.all_eq_true.1 h o hm
  rw [e] at this
  cases this

theorem wpAnyIn_of {P : Program} {ops : Array Oper} {Q : Exit → Act → World → Prop} (l n : Nat) (hQ : ¬ LetsOut Q) (hnd : noDefer ops = true) :
    ∀ (f : Nat) (ls : Array Bool) (a : Act) (w : World), wpAny P .any ops Q f ls a w → wpAnyIn (Fence.wide.inRound l) n P .any ops Q f ls a w := by
  intro f
  induction f with
  | zero => intro ls a w h; exact h
  | succ f ih => intro ls a w h; exact ⟨h.1, fun i hi => wpOpIn_of_wpOp l n hQ (noDefer_at hnd) (fun a w k => ih _ a w k) (h.2 i hi)⟩
end Go.Proofs.YtjhedehhanaokaaGreatDoor
