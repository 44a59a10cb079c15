/- Names: operators, and names. -/
import Derived.Test.YtjhedehhanaokaaGreatDoorL3
import Derived.Test.YtjhedehhanaokaaGreatDoorH1
namespace Go.Proofs.YtjhedehhanaokaaGreatDoor
open Go Go.RowKit Go.Shelf

/-- The bytes of operators. -/
def opL : List UInt8 := [43, 45, 42, 47, 37, 60, 62, 61, 33, 38, 124, 94, 126, 58, 63]
def opB (b : UInt8) : Bool := opL.contains b
def opF (s : ByteArray) : Bool := s.data.toList.all opB

theorem dropWhile_nil {α : Type} (p : α → Bool) (l : List α) : l.dropWhile p = [] ↔ l.all p = true := by
  induction l with
  | nil => simp
  | cons a l ih =>
    cases h : p a
    · simp [List.dropWhile_cons, h]
    · simp only [List.dropWhile_cons, h, if_true, ih, List.all_cons, Bool.true_and]

theorem all_dropWhile {α : Type} (p : α → Bool) (l : List α) : (l.dropWhile p).all p = true ↔ l.all p = true := by
  induction l with
  | nil => simp
  | cons a l ih =>
    cases h : p a
    · simp [List.dropWhile_cons, h]
    · simp only [List.dropWhile_cons, h, if_true, ih, List.all_cons, Bool.true_and]

theorem trimS_nil (l : List UInt8) : Lib.trimS l opL = [] ↔ l.all opB = true := by
  unfold Lib.trimS Lib.trimLeftS Lib.trimRightS
  rw [dropWhile_nil, List.all_reverse]
  exact (all_dropWhile opB l.reverse).trans (by rw [List.all_reverse])

theorem isOperator_any (s : ByteArray) (w : World) (hs : s.size ≤ 100000) : Calls Tryz.prog 35 #[.string s] w fun e w' => e = .returned (.bool (opF s)) ∧ Below w.heap.size w w' := by
  have hcon := Any.strings_Trim_laid Tryz.lays160 (by kernel_rfl) s ⟨#[43, 45, 42, 47, 37, 60, 62, 61, 33, 38, 124, 94, 126, 58, 63]⟩ w (by omega) (by decide) (ascii_of_all (by decide))
  change Calls Tryz.prog 67 _ _ (fun e w' => e = .returned (.string ⟨(Lib.trimS s.data.toList opL).toArray⟩) ∧ Below w.heap.size w w') at hcon
  have hn := trimS_nil s.data.toList
  change _ ↔ opF s = true at hn
  generalize opF s = r at *
  generalize Lib.trimS s.data.toList opL = l at *
  cases r with
  | true =>
    have hl : l = [] := hn.2 rfl
    subst hl
    have H := Lib.hid hcon
    clear hn hcon
    go_enter Tryz.func35, Tryz.ntmps35
    go_wp2_with fail
    refine H.out.mono ?_
    rintro e w1 ⟨rfl, hB⟩
    go_wp2_with fail
    go_ret
    exact ⟨rfl, hB⟩
  | false =>
    have hl : l.isEmpty = false := by
      cases l with
      | nil => exact absurd (hn.1 rfl) (by decide)
      | cons a b => rfl
    have hl2 : (⟨l.toArray⟩ : ByteArray).data.toList.isEmpty = false := by simpa using hl
    have H := Lib.hid hcon
    have HL := Lib.hid hl
    clear hn hcon
    go_enter Tryz.func35, Tryz.ntmps35
    go_wp2_with fail
    refine H.out.mono ?_
    rintro e w1 ⟨rfl, hB⟩
    go_wp2_with fail
    go_ret
    exact ⟨ret_bool (by simp [HL.out]), hB⟩
end Go.Proofs.YtjhedehhanaokaaGreatDoor
