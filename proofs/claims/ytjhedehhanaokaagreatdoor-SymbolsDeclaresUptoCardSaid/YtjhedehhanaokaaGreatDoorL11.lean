/- The check of parents; of ancestors. -/
import Derived.Test.YtjhedehhanaokaaGreatDoorL10
namespace Go.Proofs.YtjhedehhanaokaaGreatDoor
open Go Go.RowKit

set_option maxRecDepth 100000 in
set_option maxHeartbeats 4000000 in
theorem checkParents_0 (b c pa pb pc : Nat) (nm : ByteArray) (w : World) (h : PW w b nm pa pb pc) : Calls Tryz.prog 90 #[prgV b c, i64 0] w fun e w' => e = .returned (i64 0) ∧ Below w.heap.size w w' := by
  have g5 := h.k0 5 _ rfl
  obtain ⟨t0, t1, t2, t3, t4⟩ := h.pa
  have hb := h.hb
  have hbb := h.ha
  have hne : ¬ b = w.heap.size := by omega
  have hnb : ¬ pa = w.heap.size := by omega
  clear h
  go_enter Tryz.func90, Tryz.ntmps90
  go_wp2_with fail
  refine wp_loop_rounds 2 ?_
  rw [rounds_succ]
  go_wp2_with fail
  rw [rounds_succ]
  go_wp2_with fail
  go_ret
  exact ⟨rfl, ((Below.refl _ _).alloc (Nat.le_refl _) _).alloc (by simp) _⟩

set_option maxRecDepth 100000 in
set_option maxHeartbeats 4000000 in
theorem checkParents_2 (b c pa pb pc : Nat) (nm : ByteArray) (w : World) (h : PW w b nm pa pb pc) : Calls Tryz.prog 90 #[prgV b c, i64 2] w fun e w' => e = .returned (i64 0) ∧ Below w.heap.size w w' := by
  have g5 : w.cell? ⟨b, 31, none⟩ = some (sl pc 1) := h.k2 5 _ rfl
  obtain ⟨t0, t1, t2, t3, t4⟩ := h.pc
  have hb := h.hb
  have hbb := h.hc
  have hne : ¬ b = w.heap.size := by omega
  have hnb : ¬ pc = w.heap.size := by omega
  clear h
  go_enter Tryz.func90, Tryz.ntmps90
  go_wp2_with fail
  refine wp_loop_rounds 2 ?_
  rw [rounds_succ]
  go_wp2_with fail
  rw [rounds_succ]
  go_wp2_with fail
  go_ret
  exact ⟨rfl, ((Below.refl _ _).alloc (Nat.le_refl _) _).alloc (by simp) _⟩

set_option maxRecDepth 100000 in
set_option maxHeartbeats 4000000 in
theorem checkParents_1 (b c pa pb pc : Nat) (nm : ByteArray) (w : World) (h : PW w b nm pa pb pc) : Calls Tryz.prog 90 #[prgV b c, i64 1] w fun e w' => e = .returned (i64 0) ∧ Below w.heap.size w w' := by
  have H := Lib.hid h
  have g5 : w.cell? ⟨b, 18, none⟩ = some (sl pb 2) := h.k1 5 _ rfl
  obtain ⟨t0, t1, t2, t3, t4, t5, t6, t7, t8, t9⟩ := h.pb
  have hb := h.hb
  have hbb := h.hbb
  have hne : ¬ b = w.heap.size := by omega
  have hnb : ¬ pb = w.heap.size := by omega
  have hnb1 : ¬ pb = w.heap.size + 1 := by omega
  have hnl : pb < w.heap.size + 1 := by omega
  clear h
  go_enter Tryz.func90, Tryz.ntmps90
  go_wp2_with fail
  refine wp_loop_rounds 3 ?_
  rw [rounds_succ]
  go_wp2_with fail
  rw [rounds_succ]
  go_wp2_with fail
  refine (checkParent_1 b c pa pb pc nm _ (((H.out.alloc _).alloc _).alloc _)).mono ?_
  rintro e w1 ⟨rfl, hB⟩
  have HB := Lib.hid hB
  clear hB
  go_wp2_with fail
  rw [rounds_succ]
  go_wp2_with fail
  go_ret
  exact ⟨rfl, ((((Below.refl _ _).alloc (Nat.le_refl _) _).alloc (by simp) _).alloc (by simp; omega) _).trans (HB.out.mono (by simp; omega))⟩
end Go.Proofs.YtjhedehhanaokaaGreatDoor
