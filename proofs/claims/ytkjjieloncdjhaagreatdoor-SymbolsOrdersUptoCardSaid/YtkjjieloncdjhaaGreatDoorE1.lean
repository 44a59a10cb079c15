/- Check: what it asks of flags and numbers. -/
import Derived.Test.YtkjjieloncdjhaaGreatDoorV1
import Derived.Test.YtkjjieloncdjhaaGreatDoorL10
namespace Go.Proofs.YtkjjieloncdjhaaGreatDoor
open Go Go.RowKit

/-- Flags with others than these. -/
def oddF (a b : Int) : Bool := !(bits BinOp.andNot IntKind.i64 a b == 0)
def keepsClassF (kd fl : Int) : Bool := !(oddF fl 16495 || (hasF fl 1 && hasF fl 2)) && (if kd = 1 then !hasF fl 98 else if kd = 2 then !hasF fl 69 else true)
def keepsNumF (x : ClC) : Bool := !(decide (12 < x.tp.l) || decide (12 < x.pa.l)) && ((decide (x.kd = 0) || decide (x.pa.l = 0)) && (!decide (x.kd = 2) || decide (x.tp.l = 0)))
def keepsValF (x : ClC) : Bool := !hasF x.fl 64 || (decide (x.pa.l = 1) && decide (x.fi.l = 1))
def outerF (x : ClC) : Bool := decide (x.kd = 2) && decide (x.ow = -1)
def keepsMeF (fl : Int) (bo : Option Addr) : Bool := !oddF fl 29723 && ((hasF fl 1 == bo.isNone) && !(hasF fl 1 && hasF fl 4106))
def fitsF (c p : ClC) (i : Int) : Bool := if 0 < i then decide (p.kd = 1) else decide (p.kd = 0) && !decide (c.kd = 1)

set_option maxHeartbeats 2000000 in
theorem keepsClass_all (x : ClC) (w : World) : Calls Tryz.prog 135 #[.agg x.cells.toArray] w fun e w' => e = .returned (.bool (keepsClassF x.kd x.fl)) ∧ Below w.heap.size w w' := by
  have hB := Bl.new w 37 x.cells
  have c1 := hB.cell 1
  have c2 := hB.cell 2
  simp only [List.getElem?_cons_zero, List.getElem?_cons_succ] at c1 c2
  have HB := Lib.hid ((Below.refl w.heap.size w).alloc (Nat.le_refl _) (.cells x.cells.toArray 37))
  clear hB
  go_enter Tryz.func135, Tryz.ntmps135
  go_wp2_with (first | (go_at_call 101; refine (has_any _ _ _).mono ?_; rintro e w' ⟨rfl, rfl⟩) | fail)
  all_goals
    go_ret
    refine ⟨?_, HB.out⟩
    simp_all [keepsClassF, oddF]

set_option maxHeartbeats 2000000 in
theorem keepsNum_all (x : ClC) (w : World) (h1 : x.tp.l ≤ 1048576) (h2 : x.pa.l ≤ 1048576) : Calls Tryz.prog 139 #[.agg x.cells.toArray] w fun e w' => e = .returned (.bool (keepsNumF x)) ∧ Below w.heap.size w w' := by
  have hB := Bl.new w 37 x.cells
  have c1 := hB.cell 1
  have c4 := hB.cell 4
  have c6 := hB.cell 6
  simp only [List.getElem?_cons_zero, List.getElem?_cons_succ] at c1 c4 c6
  have HB := Lib.hid ((Below.refl w.heap.size w).alloc (Nat.le_refl _) (.cells x.cells.toArray 37))
  clear hB
  go_enter Tryz.func139, Tryz.ntmps139
  go_wp2_with fail
  all_goals
    go_ret
    refine ⟨?_, HB.out⟩
    simp_all [keepsNumF]
    try (rw [Bool.eq_iff_iff]; simp)
    try omega
    try (intro _; omega)

set_option maxHeartbeats 2000000 in
theorem keepsVal_all (x : ClC) (w : World) (_ : x.fi.l ≤ 1048576) (_ : x.pa.l ≤ 1048576) : Calls Tryz.prog 141 #[.agg x.cells.toArray] w fun e w' => e = .returned (.bool (keepsValF x)) ∧ Below w.heap.size w w' := by
  have hB := Bl.new w 37 x.cells
  have c2 := hB.cell 2
  have c6 := hB.cell 6
  have c7 := hB.cell 7
  simp only [List.getElem?_cons_zero, List.getElem?_cons_succ] at c2 c6 c7
  have HB := Lib.hid ((Below.refl w.heap.size w).alloc (Nat.le_refl _) (.cells x.cells.toArray 37))
  clear hB
  go_enter Tryz.func141, Tryz.ntmps141
  go_wp2_with (first | (go_at_call 101; refine (has_any _ _ _).mono ?_; rintro e w' ⟨rfl, rfl⟩) | fail)
  all_goals
    go_ret
    refine ⟨?_, HB.out⟩
    simp_all [keepsValF]
    try (rw [Bool.eq_iff_iff]; simp)
    try omega
    try (intro _; omega)

theorem isArity_all (i : Int) (w : World) : Calls Tryz.prog 149 #[.int .i64 i] w fun e w' => e = .returned (.bool (decide (0 ≤ i ∧ i ≤ 12))) ∧ w = w' := by
  have hd : decide (0 ≤ i ∧ i ≤ 12) = (decide (0 ≤ i) && decide (i ≤ 12)) := by simp
  rw [hd]
  go_enter Tryz.func149, Tryz.ntmps149
  go_wp2_with fail
  all_goals
    go_ret
    refine ⟨?_, rfl⟩
    simp_all
    try (rw [Bool.eq_iff_iff]; simp)
    try omega
    try (intro _; omega)

theorem twice_all (b : Bool) (w : World) : Calls Tryz.prog 151 #[.bool b] w fun e w' => e = .returned (.int .i64 (if b then 28 else 0)) ∧ w = w' := by
  cases b <;>
  (go_enter Tryz.func151, Tryz.ntmps151
   go_wp2_with fail
   go_ret
   exact ⟨rfl, rfl⟩)

theorem outer_all (x : ClC) (w : World) : Calls Tryz.prog 102 #[.agg x.cells.toArray] w fun e w' => e = .returned (.bool (outerF x)) ∧ Below w.heap.size w w' := by
  have hB := Bl.new w 37 x.cells
  have c1 := hB.cell 1
  have c3 := hB.cell 3
  simp only [List.getElem?_cons_zero, List.getElem?_cons_succ] at c1 c3
  have HB := Lib.hid ((Below.refl w.heap.size w).alloc (Nat.le_refl _) (.cells x.cells.toArray 37))
  clear hB
  go_enter Tryz.func102, Tryz.ntmps102
  go_wp2_with fail
  all_goals
    go_ret
    refine ⟨?_, HB.out⟩
    simp_all [outerF]
    try (rw [Bool.eq_iff_iff]; simp)
    try omega
    try (intro _; omega)

set_option maxHeartbeats 2000000 in
theorem keepsMe_all (x : MeC) (w : World) : Calls Tryz.prog 145 #[.agg x.cells.toArray] w fun e w' => e = .returned (.bool (keepsMeF x.fl x.bo)) ∧ Below w.heap.size w w' := by
  have hB := Bl.new w 64 x.cells
  have c2 := hB.cell 2
  have c11 := hB.cell 11
  simp only [List.getElem?_cons_zero, List.getElem?_cons_succ] at c2 c11
  have HB := Lib.hid ((Below.refl w.heap.size w).alloc (Nat.le_refl _) (.cells x.cells.toArray 64))
  clear hB
  cases hbo : x.bo with
  | none =>
    rw [hbo] at c11
    go_enter Tryz.func145, Tryz.ntmps145
    go_wp2_with (first | (go_at_call 101; refine (has_any _ _ _).mono ?_; rintro e w' ⟨rfl, rfl⟩) | fail)
    all_goals
      go_ret
      refine ⟨?_, HB.out⟩
      simp_all [keepsMeF, oddF]
  | some a =>
    rw [hbo] at c11
    go_enter Tryz.func145, Tryz.ntmps145
    go_wp2_with (first | (go_at_call 101; refine (has_any _ _ _).mono ?_; rintro e w' ⟨rfl, rfl⟩) | fail)
    all_goals
      go_ret
      refine ⟨?_, HB.out⟩
      simp_all [keepsMeF, oddF]

set_option maxHeartbeats 2000000 in
theorem fits_all (x y : ClC) (i : Int) (w : World) : Calls Tryz.prog 177 #[.agg x.cells.toArray, .agg y.cells.toArray, .int .i64 i] w fun e w' => e = .returned (.bool (fitsF x y i)) ∧ Below w.heap.size w w' := by
  have hB := (Bl.new w 37 x.cells).alloc (.cells y.cells.toArray 37)
  have hB2 := Bl.new (w.alloc (.cells x.cells.toArray 37)) 37 y.cells
  have c1 := hB.cell 1
  have d1 := hB2.cell 1
  simp only [List.getElem?_cons_zero, List.getElem?_cons_succ, World.size_alloc] at c1 d1
  have HB := Lib.hid (((Below.refl w.heap.size w).alloc (Nat.le_refl _) (.cells x.cells.toArray 37)).alloc (by simp) (.cells y.cells.toArray 37))
  clear hB hB2
  go_enter Tryz.func177, Tryz.ntmps177
  go_wp2_with fail
  all_goals
    go_ret
    refine ⟨?_, HB.out⟩
    simp_all [fitsF]
    try (rw [Bool.eq_iff_iff]; simp)
    try omega
    try (intro _; omega)
end Go.Proofs.YtkjjieloncdjhaaGreatDoor
