/- The checks of ancestors and of names. -/
import Derived.Test.YtkjjieloncdjhaaGreatDoorL14
namespace Go.Proofs.YtkjjieloncdjhaaGreatDoor
open Go Go.RowKit

theorem isCase_0 (b c pa pb pc Bp : Nat) (nm : ByteArray) (w : World) (h : PW w b nm pa pb pc) (hp : w.cell? ⟨Bp, 0, none⟩ = some (.slice (some ⟨b, 0, none⟩) 3 c)) :
    Calls Tryz.prog 143 #[i64 0, .pointer (some ⟨Bp, 0, none⟩)] w fun e w' => e = .returned (.bool false) ∧ w = w' := by
  have g2 : w.cell? ⟨b, 2, none⟩ = some (i64 0) := h.k0 2 _ rfl
  clear h
  go_enter Tryz.func143, Tryz.ntmps143
  go_wp2_with fail
  refine (has_not _ (by decide) _).mono ?_
  rintro e w' ⟨rfl, rfl⟩
  go_wp2_with fail
  go_ret
  exact ⟨rfl, rfl⟩

theorem isCase_1 (b c pa pb pc Bp : Nat) (nm : ByteArray) (w : World) (h : PW w b nm pa pb pc) (hp : w.cell? ⟨Bp, 0, none⟩ = some (.slice (some ⟨b, 0, none⟩) 3 c)) :
    Calls Tryz.prog 143 #[i64 1, .pointer (some ⟨Bp, 0, none⟩)] w fun e w' => e = .returned (.bool false) ∧ w = w' := by
  have g2 : w.cell? ⟨b, 15, none⟩ = some (i64 0) := h.k1 2 _ rfl
  clear h
  go_enter Tryz.func143, Tryz.ntmps143
  go_wp2_with fail
  refine (has_not _ (by decide) _).mono ?_
  rintro e w' ⟨rfl, rfl⟩
  go_wp2_with fail
  go_ret
  exact ⟨rfl, rfl⟩

theorem isCase_2 (b c pa pb pc Bp : Nat) (nm : ByteArray) (w : World) (h : PW w b nm pa pb pc) (hp : w.cell? ⟨Bp, 0, none⟩ = some (.slice (some ⟨b, 0, none⟩) 3 c)) :
    Calls Tryz.prog 143 #[i64 2, .pointer (some ⟨Bp, 0, none⟩)] w fun e w' => e = .returned (.bool false) ∧ w = w' := by
  have g2 : w.cell? ⟨b, 28, none⟩ = some (i64 0) := h.k2 2 _ rfl
  clear h
  go_enter Tryz.func143, Tryz.ntmps143
  go_wp2_with fail
  refine (has_not _ (by decide) _).mono ?_
  rintro e w' ⟨rfl, rfl⟩
  go_wp2_with fail
  go_ret
  exact ⟨rfl, rfl⟩

set_option maxHeartbeats 1000000 in
theorem checkAncestors_0 (b c pa pb pc : Nat) (nm : ByteArray) (w : World) (h : PW w b nm pa pb pc) : Calls Tryz.prog 91 #[prgV b c, i64 0] w fun e w' => e = .returned (i64 0) ∧ Below w.heap.size w w' := by
  have H := Lib.hid h
  clear h
  have F := Lib.hid ((Frs.nil w).snoc (by simp) 30 (prgL b c))
  go_enter Tryz.func91, Tryz.ntmps91
  go_wp2_with fail
  refine (ancestors_0 b c pa pb pc nm _ (H.out.alloc _)).mono ?_
  rintro e w1 ⟨⟨A, c', rfl⟩, hB⟩
  have F1 := Lib.hid (F.out.below hB)
  have HW := Lib.hid (H.out.below F1.out.be)
  clear hB F H
  go_wp2_with fail
  refine (contains_nil _ _ _ _).mono ?_
  rintro e w' ⟨rfl, rfl⟩
  go_wp2_with fail
  refine (isCase_0 b c pa pb pc _ nm _ HW.out ((F1.out.bl 0 _ _ rfl).cell 0)).mono ?_
  rintro e w' ⟨rfl, rfl⟩
  go_wp2_with fail
  go_ret
  exact ⟨rfl, F1.out.be⟩

set_option maxHeartbeats 1000000 in
theorem checkAncestors_2 (b c pa pb pc : Nat) (nm : ByteArray) (w : World) (h : PW w b nm pa pb pc) : Calls Tryz.prog 91 #[prgV b c, i64 2] w fun e w' => e = .returned (i64 0) ∧ Below w.heap.size w w' := by
  have H := Lib.hid h
  clear h
  have F := Lib.hid ((Frs.nil w).snoc (by simp) 30 (prgL b c))
  go_enter Tryz.func91, Tryz.ntmps91
  go_wp2_with fail
  refine (ancestors_2 b c pa pb pc nm _ (H.out.alloc _)).mono ?_
  rintro e w1 ⟨⟨A, c', rfl⟩, hB⟩
  have F1 := Lib.hid (F.out.below hB)
  have HW := Lib.hid (H.out.below F1.out.be)
  clear hB F H
  go_wp2_with fail
  refine (contains_nil _ _ _ _).mono ?_
  rintro e w' ⟨rfl, rfl⟩
  go_wp2_with fail
  refine (isCase_2 b c pa pb pc _ nm _ HW.out ((F1.out.bl 0 _ _ rfl).cell 0)).mono ?_
  rintro e w' ⟨rfl, rfl⟩
  go_wp2_with fail
  go_ret
  exact ⟨rfl, F1.out.be⟩

set_option maxHeartbeats 1000000 in
theorem checkAncestors_1 (b c pa pb pc : Nat) (nm : ByteArray) (w : World) (h : PW w b nm pa pb pc) : Calls Tryz.prog 91 #[prgV b c, i64 1] w fun e w' => e = .returned (i64 0) ∧ Below w.heap.size w w' := by
  have H := Lib.hid h
  clear h
  have F := Lib.hid ((Frs.nil w).snoc (by simp) 30 (prgL b c))
  go_enter Tryz.func91, Tryz.ntmps91
  go_wp2_with fail
  refine (ancestors_1 b c pa pb pc nm _ (H.out.alloc _)).mono ?_
  rintro e w1 ⟨⟨g, c', rfl, hg⟩, hB⟩
  have F1 := Lib.hid (F.out.below hB)
  have HW := Lib.hid (H.out.below F1.out.be)
  have HG := Lib.hid hg
  clear hB F H hg
  go_wp2_with fail
  refine (contains_any (some ⟨g, 0, none⟩) 1 c' [0] 1 _ (by omega) ⟨rfl, fun _ => ⟨g, 0, rfl, fun k hk => by
    have : k = 0 := by omega
    subst this
    exact HG.out⟩⟩).mono ?_
  rintro e w' ⟨rfl, rfl⟩
  go_wp2_with fail
  refine (isCase_1 b c pa pb pc _ nm _ HW.out ((F1.out.bl 0 _ _ rfl).cell 0)).mono ?_
  rintro e w' ⟨rfl, rfl⟩
  go_wp2_with fail
  go_ret
  exact ⟨rfl, F1.out.be⟩
end Go.Proofs.YtkjjieloncdjhaaGreatDoor
