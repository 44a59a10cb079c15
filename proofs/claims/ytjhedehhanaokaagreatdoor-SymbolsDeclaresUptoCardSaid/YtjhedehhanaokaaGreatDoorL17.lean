/- The check of the name of a class; sizes, rules, the main method. -/
import Derived.Test.YtjhedehhanaokaaGreatDoorL16
namespace Go.Proofs.YtjhedehhanaokaaGreatDoor
open Go Go.RowKit

set_option maxRecDepth 100000 in
set_option maxHeartbeats 2000000 in
theorem findClass_0 (b c pa pb pc : Nat) (w : World) (h : PW w b nmA pa pb pc) : Calls Tryz.prog 14 #[prgV b c, i64 (-1), .string nmA, .bool false] w fun e w' => e = .returned (i64 0) ∧ Below w.heap.size w w' := by
  have H := Lib.hid h
  clear h
  have F := Lib.hid (((((Frs.nil w).snoc (by simp) 30 (prgL b c)).snoc (by simp) 3 [i64 (-1)]).snoc (by simp) 9 [.string nmA]).snoc (by simp) 4 [.bool false])
  go_enter Tryz.func14, Tryz.ntmps14
  go_wp2_with fail
  refine (index_0 b c pa pb pc _ _ _ _ (H.out.below F.out.be) ((F.out.bl 1 _ _ rfl).cell 0) ((F.out.bl 2 _ _ rfl).cell 0) ((F.out.bl 3 _ _ rfl).cell 0) (F.out.bl 1 _ _ rfl).lt (F.out.bl 2 _ _ rfl).lt (F.out.bl 3 _ _ rfl).lt).mono ?_
  rintro e w1 ⟨rfl, hB⟩
  have BE := Lib.hid (F.out.below hB).be
  clear hB F
  go_wp2_with fail
  go_ret
  exact ⟨rfl, BE.out⟩

set_option maxRecDepth 100000 in
set_option maxHeartbeats 2000000 in
theorem checkClassName_0 (b c pa pb pc : Nat) (w : World) (h : PW w b nmA pa pb pc) : Calls Tryz.prog 96 #[prgV b c, i64 0] w fun e w' => e = .returned (i64 0) ∧ Below w.heap.size w w' := by
  have H := Lib.hid h
  obtain ⟨h0, h1, h2, h3, h4, h5, h6, h7, h8, h9, h10, h11, h12⟩ := h.c0
  have hb := h.hb
  have hne : ¬ b = w.heap.size := by omega
  clear h
  go_enter Tryz.func96, Tryz.ntmps96
  go_wp2_with fail
  refine (findClass_0 b c pa pb pc _ ((H.out.alloc _).alloc _)).mono ?_
  rintro e w1 ⟨rfl, hB⟩
  have BE := Lib.hid ((((Below.refl w.heap.size w).alloc (Nat.le_refl _) _).alloc (by simp) _).trans (hB.mono (by simp; omega)))
  clear hB h0 h1 h2 h3 h4 h5 h6 h7 h8 h9 h10 h11 h12
  go_wp2_with fail
  go_ret
  exact ⟨rfl, BE.out⟩

set_option maxRecDepth 100000 in
set_option maxHeartbeats 2000000 in
theorem findClass_1 (b c pa pb pc : Nat) (w : World) (h : PW w b nmA pa pb pc) : Calls Tryz.prog 14 #[prgV b c, i64 (-1), .string nmB, .bool true] w fun e w' => e = .returned (i64 1) ∧ Below w.heap.size w w' := by
  have H := Lib.hid h
  clear h
  have F := Lib.hid (((((Frs.nil w).snoc (by simp) 30 (prgL b c)).snoc (by simp) 3 [i64 (-1)]).snoc (by simp) 9 [.string nmB]).snoc (by simp) 4 [.bool true])
  go_enter Tryz.func14, Tryz.ntmps14
  go_wp2_with fail
  refine (index_1 b c pa pb pc _ _ _ _ (H.out.below F.out.be) ((F.out.bl 1 _ _ rfl).cell 0) ((F.out.bl 2 _ _ rfl).cell 0) ((F.out.bl 3 _ _ rfl).cell 0) (F.out.bl 1 _ _ rfl).lt (F.out.bl 2 _ _ rfl).lt (F.out.bl 3 _ _ rfl).lt).mono ?_
  rintro e w1 ⟨rfl, hB⟩
  have BE := Lib.hid (F.out.below hB).be
  clear hB F
  go_wp2_with fail
  go_ret
  exact ⟨rfl, BE.out⟩

set_option maxRecDepth 100000 in
set_option maxHeartbeats 2000000 in
theorem checkClassName_1 (b c pa pb pc : Nat) (w : World) (h : PW w b nmA pa pb pc) : Calls Tryz.prog 96 #[prgV b c, i64 1] w fun e w' => e = .returned (i64 0) ∧ Below w.heap.size w w' := by
  have H := Lib.hid h
  obtain ⟨h0, h1, h2, h3, h4, h5, h6, h7, h8, h9, h10, h11, h12⟩ := h.c1
  have hb := h.hb
  have hne : ¬ b = w.heap.size := by omega
  clear h
  go_enter Tryz.func96, Tryz.ntmps96
  go_wp2_with fail
  refine (findClass_1 b c pa pb pc _ ((H.out.alloc _).alloc _)).mono ?_
  rintro e w1 ⟨rfl, hB⟩
  have BE := Lib.hid ((((Below.refl w.heap.size w).alloc (Nat.le_refl _) _).alloc (by simp) _).trans (hB.mono (by simp; omega)))
  clear hB h0 h1 h2 h3 h4 h5 h6 h7 h8 h9 h10 h11 h12
  go_wp2_with fail
  go_ret
  exact ⟨rfl, BE.out⟩

set_option maxRecDepth 100000 in
set_option maxHeartbeats 2000000 in
theorem findClass_2 (b c pa pb pc : Nat) (w : World) (h : PW w b nmA pa pb pc) : Calls Tryz.prog 14 #[prgV b c, i64 1, .string nmC, .bool false] w fun e w' => e = .returned (i64 2) ∧ Below w.heap.size w w' := by
  have H := Lib.hid h
  clear h
  have F := Lib.hid (((((Frs.nil w).snoc (by simp) 30 (prgL b c)).snoc (by simp) 3 [i64 1]).snoc (by simp) 9 [.string nmC]).snoc (by simp) 4 [.bool false])
  go_enter Tryz.func14, Tryz.ntmps14
  go_wp2_with fail
  refine (index_2 b c pa pb pc _ _ _ _ (H.out.below F.out.be) ((F.out.bl 1 _ _ rfl).cell 0) ((F.out.bl 2 _ _ rfl).cell 0) ((F.out.bl 3 _ _ rfl).cell 0) (F.out.bl 1 _ _ rfl).lt (F.out.bl 2 _ _ rfl).lt (F.out.bl 3 _ _ rfl).lt).mono ?_
  rintro e w1 ⟨rfl, hB⟩
  have BE := Lib.hid (F.out.below hB).be
  clear hB F
  go_wp2_with fail
  go_ret
  exact ⟨rfl, BE.out⟩

set_option maxRecDepth 100000 in
set_option maxHeartbeats 2000000 in
theorem checkClassName_2 (b c pa pb pc : Nat) (w : World) (h : PW w b nmA pa pb pc) : Calls Tryz.prog 96 #[prgV b c, i64 2] w fun e w' => e = .returned (i64 0) ∧ Below w.heap.size w w' := by
  have H := Lib.hid h
  obtain ⟨h0, h1, h2, h3, h4, h5, h6, h7, h8, h9, h10, h11, h12⟩ := h.c2
  have hb := h.hb
  have hne : ¬ b = w.heap.size := by omega
  clear h
  go_enter Tryz.func96, Tryz.ntmps96
  go_wp2_with fail
  refine (findClass_2 b c pa pb pc _ ((H.out.alloc _).alloc _)).mono ?_
  rintro e w1 ⟨rfl, hB⟩
  have BE := Lib.hid ((((Below.refl w.heap.size w).alloc (Nat.le_refl _) _).alloc (by simp) _).trans (hB.mono (by simp; omega)))
  clear hB h0 h1 h2 h3 h4 h5 h6 h7 h8 h9 h10 h11 h12
  go_wp2_with fail
  go_ret
  exact ⟨rfl, BE.out⟩

theorem checkMain_none (b c : Nat) (w : World) : Calls Tryz.prog 64 #[prgV b c] w fun e w' => e = .returned (i64 0) ∧ Below w.heap.size w w' := by
  go_enter Tryz.func64, Tryz.ntmps64
  go_wp2_with fail
  go_ret
  exact ⟨rfl, (Below.refl _ _).alloc (Nat.le_refl _) _⟩

abbrev sizesV : Value := .agg #[i64 0, i64 3, i64 0, i64 0, i64 0, i64 0]
theorem sizes_any (b c : Nat) (w : World) : Calls Tryz.prog 62 #[prgV b c] w fun e w' => e = .returned sizesV ∧ Below w.heap.size w w' := by
  go_enter Tryz.func62, Tryz.ntmps62
  go_wp2_with fail
  refine bodyPost_ret (v := sizesV) (by simp [results, Tryz.results62, go_sem]) rfl ⟨rfl, ?_⟩
  exact ((Below.refl _ _).alloc (Nat.le_refl _) _).alloc (by simp) _

abbrev fn (k : Nat) : Value := .func (.func k) #[] #[]
abbrev rulesL : List Value := [i64 1, fn 88, i64 1, fn 89, i64 1, fn 90, i64 1, fn 91, i64 2, fn 92, i64 3, fn 93, i64 4, fn 94, i64 5, fn 95, i64 1, fn 96, i64 3, fn 97, i64 2, fn 98, i64 5, fn 99, i64 4, fn 100]
theorem rules_any (w : World) : Calls Tryz.prog 63 #[] w fun e w' => e = .returned (.slice (some ⟨w.heap.size, 0, none⟩) 13 13) ∧ w' = w.alloc (.cells rulesL.toArray 118) := by
  go_enter Tryz.func63, Tryz.ntmps63
  go_wp2_with fail
  go_ret
  exact ⟨rfl, rfl⟩
end Go.Proofs.YtjhedehhanaokaaGreatDoor
