/- Contracts of small functions of package symbols, at a class without members. -/
import Derived.Test.YtkjjieloncdjhaaGreatDoorRows
import Derived.Test.YtkjjieloncdjhaaGreatDoorW
import Derived.WalkKit
import Derived.Handy
import Derived.Lib.Hide
import Derived.WalkLawsBesides
import Derived.WalkSpells
import Derived.Deep.QuietTactic
import Derived.BigQuiet
import Derived.Deep.LoopGhost
import Derived.Deep.Cut
import Derived.Deep.DeepCutAuto
import Derived.Maps.OwnSet
namespace Go.Proofs.YtkjjieloncdjhaaGreatDoor
open Go Go.RowKit

abbrev nilS : Value := .slice none 0 0

/-- A class without members. -/
abbrev clsV (nm : ByteArray) (kd ow : Int) (pa : Value) : Value :=
  .agg #[.string nm, .int .i64 kd, .int .i64 0, .int .i64 ow, nilS, pa, nilS, nilS, nilS, nilS, nilS, nilS, .int .i64 0]

/-- Is a flag, or one of several, set? -/
def hasF (a b : Int) : Bool := bits BinOp.and IntKind.i64 a b != 0
theorem hasF_zero (b : Int) (h : bits BinOp.and IntKind.i64 0 b = 0) : hasF 0 b = false := by unfold hasF; rw [h]; rfl

theorem has_any (a b : Int) (w : World) : Calls Tryz.prog 101 #[.int .i64 a, .int .i64 b] w fun e w' => e = .returned (.bool (hasF a b)) ∧ w = w' := by
  go_enter Tryz.func101, Tryz.ntmps101
  go_wp2
  go_ret
  exact ⟨rfl, rfl⟩

theorem exists_any (A : Option Addr) (n c : Nat) (i : Int) (w : World) : Calls Tryz.prog 43 #[.slice A n c, .int .i64 i] w fun e w' => e = .returned (.bool (decide (0 ≤ i ∧ i < n))) ∧ w = w' := by
  by_cases h0 : 0 ≤ i
  · by_cases h1 : i < n
    · have hd : decide (0 ≤ i ∧ i < (n : Int)) = true := by simp; omega
      rw [hd]; clear hd
      go_enter Tryz.func43, Tryz.ntmps43
      go_wp2
      go_ret
      exact ⟨rfl, rfl⟩
    · have hd : decide (0 ≤ i ∧ i < (n : Int)) = false := by simp; omega
      rw [hd]; clear hd
      go_enter Tryz.func43, Tryz.ntmps43
      go_wp2
      go_ret
      exact ⟨rfl, rfl⟩
  · have hd : decide (0 ≤ i ∧ i < (n : Int)) = false := by simp; omega
    rw [hd]; clear hd
    go_enter Tryz.func43, Tryz.ntmps43
    go_wp2
    go_ret
    exact ⟨rfl, rfl⟩

set_option maxHeartbeats 1000000 in
theorem keepsFlags_any (nm : ByteArray) (kd ow : Int) (pa : Value) (w : World) (hk : kd = 0 ∨ kd = 1 ∨ kd = 2) : Calls Tryz.prog 135 #[clsV nm kd ow pa] w fun e w' => e = .returned (.bool true) ∧ Below w.heap.size w w' := by
  rcases hk with rfl | rfl | rfl <;>
  (go_enter Tryz.func135, Tryz.ntmps135
   go_wp2
   go_ret
   exact ⟨rfl, (Below.refl _ _).alloc (Nat.le_refl _) _⟩)

theorem keepsNumbers_any (nm : ByteArray) (kd ow : Int) (pa : Value) (w : World) (hk : kd = 0 ∨ kd = 1 ∨ kd = 2) : Calls Tryz.prog 139 #[clsV nm kd ow pa] w fun e w' => e = .returned (.bool true) ∧ Below w.heap.size w w' := by
  rcases hk with rfl | rfl | rfl <;>
  (go_enter Tryz.func139, Tryz.ntmps139
   go_wp2
   go_ret
   exact ⟨rfl, (Below.refl _ _).alloc (Nat.le_refl _) _⟩)

theorem keepsValue_any (nm : ByteArray) (kd ow : Int) (pa : Value) (w : World) : Calls Tryz.prog 141 #[clsV nm kd ow pa] w fun e w' => e = .returned (.bool true) ∧ Below w.heap.size w w' := by
  go_enter Tryz.func141, Tryz.ntmps141
  go_wp2
  go_ret
  exact ⟨rfl, (Below.refl _ _).alloc (Nat.le_refl _) _⟩

theorem existAll_tp (A : Option Addr) (n c : Nat) (w : World) : Calls Tryz.prog 146 #[.slice A n c, nilS] w fun e w' => e = .returned (.bool true) ∧ w = w' := by
  go_enter Tryz.func146, Tryz.ntmps146
  go_wp2
  go_rounds 1
  go_ret
  exact ⟨rfl, rfl⟩
theorem existAll_fd (A : Option Addr) (n c : Nat) (w : World) : Calls Tryz.prog 172 #[.slice A n c, nilS] w fun e w' => e = .returned (.bool true) ∧ w = w' := by
  go_enter Tryz.func172, Tryz.ntmps172
  go_wp2
  go_rounds 1
  go_ret
  exact ⟨rfl, rfl⟩
theorem existAll_md (A : Option Addr) (n c : Nat) (w : World) : Calls Tryz.prog 173 #[.slice A n c, nilS] w fun e w' => e = .returned (.bool true) ∧ w = w' := by
  go_enter Tryz.func173, Tryz.ntmps173
  go_wp2
  go_rounds 1
  go_ret
  exact ⟨rfl, rfl⟩
theorem existAll_ty (A : Option Addr) (n c : Nat) (w : World) : Calls Tryz.prog 174 #[.slice A n c, nilS] w fun e w' => e = .returned (.bool true) ∧ w = w' := by
  go_enter Tryz.func174, Tryz.ntmps174
  go_wp2
  go_rounds 1
  go_ret
  exact ⟨rfl, rfl⟩

/-- A program without members. -/
abbrev prgV (b : Nat) (c : Nat) : Value := .agg #[.slice (some ⟨b, 0, none⟩) 3 c, nilS, nilS, nilS, nilS, .int .i64 (-1)]

theorem existLists_any (b c : Nat) (nm : ByteArray) (kd ow : Int) (pa : Value) (w : World) : Calls Tryz.prog 136 #[prgV b c, clsV nm kd ow pa] w fun e w' => e = .returned (.bool true) ∧ Below w.heap.size w w' := by
  go_enter Tryz.func136, Tryz.ntmps136
  go_wp2_with (first
    | (go_at_call 146; refine (existAll_tp _ _ _ _).mono ?_; rintro e w' ⟨rfl, rfl⟩)
    | (go_at_call 172; refine (existAll_fd _ _ _ _).mono ?_; rintro e w' ⟨rfl, rfl⟩)
    | (go_at_call 173; refine (existAll_md _ _ _ _).mono ?_; rintro e w' ⟨rfl, rfl⟩)
    | (go_at_call 174; refine (existAll_ty _ _ _ _).mono ?_; rintro e w' ⟨rfl, rfl⟩))
  go_ret
  exact ⟨rfl, ((Below.refl _ _).alloc (Nat.le_refl _) _).alloc (by simp) _⟩

theorem hasTwice_nil (w : World) : Calls Tryz.prog 138 #[nilS] w fun e w' => e = .returned (.bool false) ∧ Below w.heap.size w w' := by
  have hmm := @run_makeMap Tryz.prog
  go_enter Tryz.func138, Tryz.ntmps138
  go_wp2
  go_rounds 1
  go_ret
  exact ⟨rfl, (Below.refl _ _).alloc (Nat.le_refl _) _⟩

theorem isPart_nil (w : World) : Calls Tryz.prog 176 #[nilS, nilS] w fun e w' => e = .returned (.bool true) ∧ Below w.heap.size w w' := by
  have hmm := @run_makeMap Tryz.prog
  go_enter Tryz.func176, Tryz.ntmps176
  go_wp2
  go_rounds 1
  go_wp2
  go_rounds 1
  go_ret
  exact ⟨rfl, (Below.refl _ _).alloc (Nat.le_refl _) _⟩
end Go.Proofs.YtkjjieloncdjhaaGreatDoor
