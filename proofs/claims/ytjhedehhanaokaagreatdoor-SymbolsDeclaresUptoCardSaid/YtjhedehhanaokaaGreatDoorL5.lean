/- Names: what a name is, the program's and the reference's. -/
import Derived.Test.YtjhedehhanaokaaGreatDoorL4
namespace Go.Proofs.YtjhedehhanaokaaGreatDoor
open Go Go.RowKit

def nameF (s : ByteArray) : Bool := decide (s.size ≠ 0) && (decide (s.size ≤ 64) && (idFrom s 0 || opF s))

theorem empty_of {s : ByteArray} (h : s.size = 0) : s.toList = [] := by
  rw [ByteArray.toList_eq]
  exact List.eq_nil_of_length_eq_zero (by simpa using h)
theorem full_of {s : ByteArray} (h : s.size ≠ 0) : ¬ s.toList = [] := by
  rw [ByteArray.toList_eq]
  intro e
  have : s.data.toList.length = 0 := by rw [e]; rfl
  exact h (by simpa using this)
theorem full_of' {s : ByteArray} (h : s.size ≠ 0) : s.toList.isEmpty = false := by
  cases hq : s.toList.isEmpty with
  | false => rfl
  | true => exact absurd (List.isEmpty_iff.1 hq) (full_of h)

set_option maxHeartbeats 1000000 in
theorem isName_any (s : ByteArray) (w : World) (hs : s.size ≤ 100000) : Calls Tryz.prog 11 #[.string s] w fun e w' => e = .returned (.bool (nameF s)) ∧ Below w.heap.size w w' := by
  have C1 := Lib.hid (isIdentifier_any s w hs)
  have C2 := Lib.hid (isOperator_any s w hs)
  unfold nameF
  by_cases h0 : s.size = 0
  · have q := empty_of h0
    have hd : (decide (s.size ≠ 0) && (decide (s.size ≤ 64) && (idFrom s 0 || opF s))) = false := by simp [h0]
    rw [hd]; clear hd h0
    go_enter Tryz.func11, Tryz.ntmps11
    go_wp2_with fail
    go_ret
    exact ⟨rfl, Below.refl _ _⟩
  · have q := full_of h0
    have q' := full_of' h0
    have hd0 : decide (s.size ≠ 0) = true := by simp [h0]
    rw [hd0, Bool.true_and]
    by_cases h64 : s.size ≤ 64
    · have hd1 : decide (s.size ≤ 64) = true := by simp [h64]
      rw [hd1, Bool.true_and]
      clear hd0 hd1 h0
      cases hi : idFrom s 0 with
      | true =>
        rw [hi] at C1
        clear hi
        rw [Bool.true_or]
        go_enter Tryz.func11, Tryz.ntmps11
        go_wp2_with fail
        refine C1.out.mono ?_
        rintro e w1 ⟨rfl, rfl⟩
        go_wp2_with fail
        go_ret
        exact ⟨rfl, Below.refl _ _⟩
      | false =>
        rw [hi] at C1
        clear hi
        rw [Bool.false_or]
        generalize opF s = r at *
        go_enter Tryz.func11, Tryz.ntmps11
        go_wp2_with fail
        refine C1.out.mono ?_
        rintro e w1 ⟨rfl, rfl⟩
        go_wp2_with fail
        refine C2.out.mono ?_
        rintro e w1 ⟨rfl, hB⟩
        go_wp2_with fail
        go_ret
        exact ⟨rfl, hB⟩
    · have hd1 : decide (s.size ≤ 64) = false := by simp; omega
      rw [hd1, Bool.false_and]
      have q2 : decide ((s.size : Int) ≤ 64) = false := by simp; omega
      clear hd0 hd1 h0
      go_enter Tryz.func11, Tryz.ntmps11
      go_wp2_with fail
      go_ret
      exact ⟨rfl, Below.refl _ _⟩
end Go.Proofs.YtjhedehhanaokaaGreatDoor
