/- Full names: names of classes, the loop that collects them. -/
import Derived.Test.YtjhedehhanaokaaGreatDoorL10
import Derived.Test.YtjhedehhanaokaaGreatDoorH2
import Derived.RangeFuncWrites
import Derived.RangeFuncBox
namespace Go.Proofs.YtjhedehhanaokaaGreatDoor
open Go Go.RowKit Go.Shelf
attribute [local go_sem] Oper.semAt_some

theorem nameOf_C (pa : Value) (ow : Int) (w : World) : Calls Tryz.prog 53 #[clsV nmC 0 ow pa] w fun e w' => e = .returned (.string nmC) ∧ Below w.heap.size w w' := by
  go_enter Tryz.func53, Tryz.ntmps53
  go_wp2_with fail
  go_ret
  exact ⟨rfl, (Below.refl _ _).alloc (Nat.le_refl _) _⟩
abbrev nmBh : ByteArray := ⟨#[66, 35]⟩
theorem nameOf_B (pa : Value) (ow : Int) (w : World) : Calls Tryz.prog 53 #[clsV nmB 2 ow pa] w fun e w' => e = .returned (.string nmBh) ∧ Below w.heap.size w w' := by
  go_enter Tryz.func53, Tryz.ntmps53
  go_wp2_with fail
  go_ret
  exact ⟨rfl, (Below.refl _ _).alloc (Nat.le_refl _) _⟩

theorem Frs.c0 {w0 w : World} {t : TypeId} {l : List Value} {L : List (TypeId × List Value)} (h : Frs w0 w ((t, l) :: L)) : Bl w w0.heap.size t l := h.bl 0 t l rfl
end Go.Proofs.YtjhedehhanaokaaGreatDoor
