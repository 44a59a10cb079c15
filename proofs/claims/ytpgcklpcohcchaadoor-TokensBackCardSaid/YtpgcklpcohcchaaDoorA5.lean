/- The method of the layout that puts a token into its list. -/
import Derived.Test.YtpgcklpcohcchaaDoorA4
namespace Go.Proofs.YtpgcklpcohcchaaDoor
open Go Go.RowKit

set_option maxRecDepth 100000 in
set_option maxHeartbeats 3200000 in
theorem put_any (X : Nat → Prop) (w : World) (yb : Nat) (lv : Value) (s : LS) (k : Nat) (t : Tok) (h : LR X w yb lv s) (hn : s.out.length < 4000000) :
    Calls Tryd.prog 60 #[.pointer (some ⟨yb, 0, none⟩), .int .i64 k, .agg t.cs.toArray] w fun e w' => e = .returned (.tuple #[]) ∧ LR X w' yb lv { s with out := s.out ++ [t.as k] } ∧ KX X w w' := by
  obtain ⟨vo, vr, h1, h2, h3, h4⟩ := h
  obtain ⟨i0, hi0, hz0, hz1, hz2⟩ := info_parts Tryd.info32
  have c1 : w.cell? ⟨yb, 1, none⟩ = some vo := h1.cell 1
  have f1 : ∀ o : Obj, (w.alloc o).frozen? ⟨yb, 1, none⟩ = false := fun o => (h1.alloc o).froz 1
  have f2 : ∀ o p : Obj, ((w.alloc o).alloc p).frozen? ⟨yb, 1, none⟩ = false := fun o p => ((h1.alloc o).alloc p).froz 1
  have ly := h1.lt
  have ao := Bl.row_apart h2 h1 (by decide)
  have ab : vo.ownBlock ≠ some w.heap.size := fun e => by have := (h2.lt _ e).2; omega
  obtain ⟨tk, ts, ta, tl, tc⟩ := t
  unfold Tok.cs
  go_enter Tryd.func60, Tryd.ntmps60
  go_wp2_with fail
  have hS : (fun w' : World => w'.cell? ⟨yb, 1, none⟩ = some vo ∧ w'.cell? ⟨w.heap.size, 2, none⟩ = some (.int .i64 ta) ∧ w'.cell? ⟨w.heap.size, 3, none⟩ = some (.int .i64 tl) ∧ w'.cell? ⟨w.heap.size, 4, none⟩ = some (.int .i64 tc)) ((w.alloc (.cells (Tok.cs ⟨tk, ts, ta, tl, tc⟩).toArray 32)).drew) := by
    simp [*, World.cell?_alloc_some, Tok.cs]
  refine anyC_region (c := 17) (S := fun w' : World => w'.cell? ⟨yb, 1, none⟩ = some vo ∧ w'.cell? ⟨w.heap.size, 2, none⟩ = some (.int .i64 ta) ∧ w'.cell? ⟨w.heap.size, 3, none⟩ = some (.int .i64 tl) ∧ w'.cell? ⟨w.heap.size, 4, none⟩ = some (.int .i64 tc)) (by kernel_rfl) ?_
  refine anyC_take0 (i := 0) (v := ?_) (some 6) (by rfl) rfl (by kernel_rfl) (by kernel_rfl) (by kernel_rfl) (fun _ _ _ h => h) (Or.inl ⟨by rfl, ?_⟩) (by decide) (Or.inr (by assumption)) ?_
  rotate_left
  · (intro w; go_simp; try with_reducible rfl)
  (try simp only [Act.put, List.setIfInBounds_toArray, List.set_cons_zero, List.set_cons_succ])
  refine anyC_take0 (i := 1) (v := ?_) (some 7) (by rfl) rfl (by kernel_rfl) (by kernel_rfl) (by kernel_rfl) (fun _ _ _ h => h) (Or.inl ⟨by rfl, ?_⟩) (by decide) (Or.inr (by assumption)) ?_
  rotate_left
  · (intro w; go_simp; try with_reducible rfl)
  (try simp only [Act.put, List.setIfInBounds_toArray, List.set_cons_zero, List.set_cons_succ])
  refine anyC_take0 (i := 2) (v := ?_) (some 8) (by rfl) rfl (by kernel_rfl) (by kernel_rfl) (by kernel_rfl) (fun _ _ _ h => h) (Or.inl ⟨by rfl, ?_⟩) (by decide) (Or.inr (by assumption)) ?_
  rotate_left
  · (intro w; go_simp; try with_reducible rfl)
  (try simp only [Act.put, List.setIfInBounds_toArray, List.set_cons_zero, List.set_cons_succ])
  refine anyC_take0 (i := 3) (v := ?_) (some 9) (by rfl) rfl (by kernel_rfl) (by kernel_rfl) (by kernel_rfl) (fun _ _ _ h => h) (Or.inl ⟨by rfl, ?_⟩) (by decide) (Or.inr (by assumption)) ?_
  rotate_left
  · (intro w; go_simp; try with_reducible rfl)
  (try simp only [Act.put, List.setIfInBounds_toArray, List.set_cons_zero, List.set_cons_succ])
  refine anyC_take (i := 4) (v := ?_) (some 10) (by rfl) rfl (by kernel_rfl) (by kernel_rfl) (by kernel_rfl) (by kernel_rfl) (by kernel_rfl) (fun _ _ _ h => h) (Or.inl ⟨by rfl, ?_⟩) (by assumption) ?_
  rotate_left
  · (intro w hSw; (try dsimp only at hSw); go_simp; try with_reducible rfl)
  (try simp only [Act.put, List.setIfInBounds_toArray, List.set_cons_zero, List.set_cons_succ])
  refine anyC_take0 (i := 5) (v := ?_) (some 11) (by rfl) rfl (by kernel_rfl) (by kernel_rfl) (by kernel_rfl) (fun _ _ _ h => h) (Or.inl ⟨by rfl, ?_⟩) (by decide) (Or.inr (by assumption)) ?_
  rotate_left
  · (intro w; go_simp; try with_reducible rfl)
  (try simp only [Act.put, List.setIfInBounds_toArray, List.set_cons_zero, List.set_cons_succ])
  refine anyC_take0 (i := 6) (v := ?_) (some 12) (by rfl) rfl (by kernel_rfl) (by kernel_rfl) (by kernel_rfl) (fun _ _ _ h => h) (Or.inl ⟨by rfl, ?_⟩) (by decide) (Or.inr (by assumption)) ?_
  rotate_left
  · (intro w; go_simp; try with_reducible rfl)
  (try simp only [Act.put, List.setIfInBounds_toArray, List.set_cons_zero, List.set_cons_succ])
  refine anyC_take (i := 7) (v := ?_) (some 13) (by rfl) rfl (by kernel_rfl) (by kernel_rfl) (by kernel_rfl) (by kernel_rfl) (by kernel_rfl) (fun _ _ _ h => h) (Or.inl ⟨by rfl, ?_⟩) (by assumption) ?_
  rotate_left
  · (intro w hSw; (try dsimp only at hSw); go_simp; try with_reducible rfl)
  (try simp only [Act.put, List.setIfInBounds_toArray, List.set_cons_zero, List.set_cons_succ])
  refine anyC_take0 (i := 8) (v := ?_) (some 14) (by rfl) rfl (by kernel_rfl) (by kernel_rfl) (by kernel_rfl) (fun _ _ _ h => h) (Or.inl ⟨by rfl, ?_⟩) (by decide) (Or.inr (by assumption)) ?_
  rotate_left
  · (intro w; go_simp; try with_reducible rfl)
  (try simp only [Act.put, List.setIfInBounds_toArray, List.set_cons_zero, List.set_cons_succ])
  refine anyC_take (i := 9) (v := ?_) (some 15) (by rfl) rfl (by kernel_rfl) (by kernel_rfl) (by kernel_rfl) (by kernel_rfl) (by kernel_rfl) (fun _ _ _ h => h) (Or.inl ⟨by rfl, ?_⟩) (by assumption) ?_
  rotate_left
  · (intro w hSw; (try dsimp only at hSw); go_simp; try with_reducible rfl)
  (try simp only [Act.put, List.setIfInBounds_toArray, List.set_cons_zero, List.set_cons_succ])
  refine anyC_take0 (i := 10) (v := ?_) (some 16) (by rfl) rfl (by kernel_rfl) (by kernel_rfl) (by kernel_rfl) (fun _ _ _ h => h) (Or.inl ⟨by rfl, ?_⟩) (by decide) (Or.inr (by assumption)) ?_
  rotate_left
  · (intro w; go_simp; try with_reducible rfl)
  (try simp only [Act.put, List.setIfInBounds_toArray, List.set_cons_zero, List.set_cons_succ])
  refine anyC_take (i := 11) (v := ?_) (some 17) (by rfl) rfl (by kernel_rfl) (by kernel_rfl) (by kernel_rfl) (by kernel_rfl) (by kernel_rfl) (fun _ _ _ h => h) (Or.inl ⟨by rfl, ?_⟩) (by assumption) ?_
  rotate_left
  · (intro w hSw; (try dsimp only at hSw); go_simp; try with_reducible rfl)
  (try simp only [Act.put, List.setIfInBounds_toArray, List.set_cons_zero, List.set_cons_succ])
  refine anyC_take0 (i := 12) (v := ?_) (some 18) (by rfl) rfl (by kernel_rfl) (by kernel_rfl) (by kernel_rfl) (fun _ _ _ h => h) (Or.inl ⟨by rfl, ?_⟩) (by decide) (Or.inr (by assumption)) ?_
  rotate_left
  · (intro w; go_simp; try with_reducible rfl)
  (try simp only [Act.put, List.setIfInBounds_toArray, List.set_cons_zero, List.set_cons_succ])
  refine anyC_one (i := 13) (by kernel_rfl) rfl rfl (fun K hK => ?_)
  go_simp
  refine hK.out _ _ (.inr (.inr ?_)) ?_
  · simp [*, World.cell?_alloc_some]
  clear hK K hS
  refine anyC_one (i := 14) (by kernel_rfl) rfl rfl (fun K hK => ?_)
  refine wp_append_lies _ _ _ _ (by rfl) 0 32 i0 _ 5 48 Tryd.underlying23 hi0 hz0 hz1 hz2 rfl (by omega) vo s.out.length (tcs s.out) (by rfl) (((h2.alloc _).alloc _).drew) ⟨w.heap.size + 1, 0, none⟩ 1 1 (Tok.cs ⟨k, ⟨#[]⟩, ta, tl, tc⟩) (by rfl) (by rfl) (World.news_of_block (cs := (Tok.cs ⟨k, ⟨#[]⟩, ta, tl, tc⟩).toArray) (t := 32) (fr := (0, 0)) (heap2 _ _ _)) (Tok.one _) (by omega) (by unfold maxLen; omega) (by omega) (Nat.zero_le _) (w.heap.size + 2) (by simp) ?_
  intro gg cap w1 hown1 hgrow hat hlt
  have hS1 : (fun w' : World => w'.cell? ⟨yb, 1, none⟩ = some vo ∧ w'.cell? ⟨w.heap.size, 2, none⟩ = some (.int .i64 ta) ∧ w'.cell? ⟨w.heap.size, 3, none⟩ = some (.int .i64 tl) ∧ w'.cell? ⟨w.heap.size, 4, none⟩ = some (.int .i64 tc)) w1 := by
    refine ⟨?_, ?_, ?_, ?_⟩
    · rw [hgrow.cell_far _ (by simp; omega) (Ne.symm ao)]; simp [*, World.cell?_alloc_some]
    · rw [hgrow.cell_far _ (by simp; omega) (Ne.symm ab)]; simp [*, World.cell?_alloc_some, Tok.cs]
    · rw [hgrow.cell_far _ (by simp; omega) (Ne.symm ab)]; simp [*, World.cell?_alloc_some, Tok.cs]
    · rw [hgrow.cell_far _ (by simp; omega) (Ne.symm ab)]; simp [*, World.cell?_alloc_some, Tok.cs]
  have k1 : w1.cell? ⟨yb, 1, none⟩ = some vo := hS1.1
  have e1 : w1.frozen? ⟨yb, 1, none⟩ = false := by
    rw [hgrow.frozen_far _ (by simp; omega) (Ne.symm ao)]; exact f2 _ _
  refine hK.out _ _ (.inr (.inr hS1)) ?_
  clear hK K
  (try simp only [Act.put, List.setIfInBounds_toArray, List.set_cons_zero, List.set_cons_succ])
  refine anyC_take0 (i := 15) (v := ?_) (some 21) (by rfl) rfl (by kernel_rfl) (by kernel_rfl) (by kernel_rfl) (fun _ _ _ h => h) (Or.inl ⟨by rfl, ?_⟩) (by decide) (Or.inr (by assumption)) ?_
  rotate_left
  · (intro w; go_simp; try with_reducible rfl)
  (try simp only [Act.put, List.setIfInBounds_toArray, List.set_cons_zero, List.set_cons_succ])
  refine anyC_take0 (i := 16) (v := ?_) (some 22) (by rfl) rfl (by kernel_rfl) (by kernel_rfl) (by kernel_rfl) (fun _ _ _ h => h) (Or.inl ⟨by rfl, ?_⟩) (by decide) (Or.inr (by assumption)) ?_
  rotate_left
  · (intro w; go_simp; try with_reducible rfl)
  (try simp only [Act.put, List.setIfInBounds_toArray, List.set_cons_zero, List.set_cons_succ])
  refine anyC_one (i := 17) (by kernel_rfl) rfl rfl (fun K hK => ?_)
  go_simp
  refine hK.out _ _ (.inl rfl) ?_
  refine anyC_done (by kernel_rfl) ?_ _
  go_wp2
  go_end0
  have hb0 := (((Below.refl w.heap.size w).alloc (Nat.le_refl _) (.cells (Tok.cs ⟨tk, ts, ta, tl, tc⟩).toArray 32)).alloc (by simp) (.cells (Tok.cs ⟨k, ⟨#[]⟩, ta, tl, tc⟩).toArray 32)).drew
  obtain ⟨q1, q2⟩ := LR.put_close (H := w.heap.size + 2) h1 h2 h3 h4 hb0 hgrow hown1 hat (by omega)
  exact ⟨rfl, q1, q2⟩
end Go.Proofs.YtpgcklpcohcchaaDoor
