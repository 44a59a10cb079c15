/- Opening a region of the layout. -/
import Derived.Test.YtpgcklpcohcchaaDoorA7
namespace Go.Proofs.YtpgcklpcohcchaaDoor
open Go Go.RowKit

theorem row_len {w : World} {base : Nat} {e : TypeId} {n k : Nat} {v : Value} {xs : List Value} (h : w.ownsRow base e k v n xs) : ∃ a c, v = .slice a n c := by
  rcases h.2 with ⟨rfl, rfl⟩ | ⟨g, cap, cur, rfl, _⟩
  · exact ⟨_, _, rfl⟩
  · exact ⟨_, _, rfl⟩

set_option maxRecDepth 100000 in
set_option maxHeartbeats 3200000 in
theorem open_fail (X : Nat → Prop) (w : World) (yb : Nat) (lv : Value) (s : LS) (r : Reg) (h : LR X w yb lv s) (hr : s.regs.length = 64) :
    Calls Tryd.prog 39 #[.pointer (some ⟨yb, 0, none⟩), .agg r.cs.toArray] w fun e w' => e = .panicked (fv r.index 8) ∧ w.alloc (.cells r.cs.toArray 75) = w' := by
  obtain ⟨vo, vr, h1, h2, h3, h4⟩ := h
  obtain ⟨a, c, rfl⟩ := row_len h3
  have c2 : w.cell? ⟨yb, 2, none⟩ = some (.slice a s.regs.length c) := h1.cell 2
  rw [hr] at c2
  have ly := h1.lt
  obtain ⟨rm, rw_, ri⟩ := r
  unfold Reg.cs
  clear h1 h2 h3 hr
  go_enter Tryd.func39, Tryd.ntmps39
  go_wp2_with (go_at_call 14; refine (fail_any _ _ _).mono ?_; rintro e w' ⟨rfl, rfl⟩)
  exact ⟨rfl, rfl, rfl⟩

set_option maxRecDepth 100000 in
set_option maxHeartbeats 3200000 in
theorem open_ok (X : Nat → Prop) (w : World) (yb : Nat) (lv : Value) (s : LS) (r : Reg) (h : LR X w yb lv s) (hr : s.regs.length < 64) :
    Calls Tryd.prog 39 #[.pointer (some ⟨yb, 0, none⟩), .agg r.cs.toArray] w fun e w' => e = .returned (.tuple #[]) ∧ LR X w' yb lv { s with regs := r :: s.regs } ∧ KX X w w' := by
  obtain ⟨vo, vr, h1, h2, h3, h4⟩ := h
  obtain ⟨i0, hi0, hz0, hz1, hz2⟩ := info_parts Tryd.info75
  obtain ⟨va, vc, hvr⟩ := row_len h3
  have c1 : w.cell? ⟨yb, 2, none⟩ = some vr := h1.cell 2
  have f1 : ∀ o : Obj, (w.alloc o).frozen? ⟨yb, 2, none⟩ = false := fun o => (h1.alloc o).froz 2
  have f2 : ∀ o p : Obj, ((w.alloc o).alloc p).frozen? ⟨yb, 2, none⟩ = false := fun o p => ((h1.alloc o).alloc p).froz 2
  have ly := h1.lt
  have ao := Bl.row_apart h3 h1 (by decide)
  have ab : vr.ownBlock ≠ some w.heap.size := fun e => by have := (h3.lt _ e).2; omega
  obtain ⟨rm, rw_, ri⟩ := r
  unfold Reg.cs
  have ht : ((s.regs.length : Int) == 64) = false := by simp; omega
  subst hvr
  go_enter Tryd.func39, Tryd.ntmps39
  go_wp2_with fail
  have hS : (fun w' : World => w'.cell? ⟨yb, 2, none⟩ = some (.slice va s.regs.length vc) ∧ w'.cell? ⟨w.heap.size, 0, none⟩ = some (.string rm) ∧ w'.cell? ⟨w.heap.size, 1, none⟩ = some (.int .i64 rw_) ∧ w'.cell? ⟨w.heap.size, 2, none⟩ = some (.int .i64 ri)) ((w.alloc (.cells (Reg.cs ⟨rm, rw_, ri⟩).toArray 75)).drew) := by
    simp [*, World.cell?_alloc_some, Reg.cs]
  refine anyC_region (c := 10) (S := fun w' : World => w'.cell? ⟨yb, 2, none⟩ = some (.slice va s.regs.length vc) ∧ w'.cell? ⟨w.heap.size, 0, none⟩ = some (.string rm) ∧ w'.cell? ⟨w.heap.size, 1, none⟩ = some (.int .i64 rw_) ∧ w'.cell? ⟨w.heap.size, 2, none⟩ = some (.int .i64 ri)) (by kernel_rfl) ?_
  refine anyC_take0 (i := 0) (v := ?_) (some 13) (by rfl) rfl (by kernel_rfl) (by kernel_rfl) (by kernel_rfl) (fun _ _ _ h => h) (Or.inl ⟨by rfl, ?_⟩) (by decide) (Or.inr (by assumption)) ?_
  rotate_left
  · (intro w; go_simp; try with_reducible rfl)
  (try simp only [Act.put, List.setIfInBounds_toArray, List.set_cons_zero, List.set_cons_succ])
  refine anyC_take0 (i := 1) (v := ?_) (some 14) (by rfl) rfl (by kernel_rfl) (by kernel_rfl) (by kernel_rfl) (fun _ _ _ h => h) (Or.inl ⟨by rfl, ?_⟩) (by decide) (Or.inr (by assumption)) ?_
  rotate_left
  · (intro w; go_simp; try with_reducible rfl)
  (try simp only [Act.put, List.setIfInBounds_toArray, List.set_cons_zero, List.set_cons_succ])
  refine anyC_take0 (i := 2) (v := ?_) (some 15) (by rfl) rfl (by kernel_rfl) (by kernel_rfl) (by kernel_rfl) (fun _ _ _ h => h) (Or.inl ⟨by rfl, ?_⟩) (by decide) (Or.inr (by assumption)) ?_
  rotate_left
  · (intro w; go_simp; try with_reducible rfl)
  (try simp only [Act.put, List.setIfInBounds_toArray, List.set_cons_zero, List.set_cons_succ])
  refine anyC_take0 (i := 3) (v := ?_) (some 16) (by rfl) rfl (by kernel_rfl) (by kernel_rfl) (by kernel_rfl) (fun _ _ _ h => h) (Or.inl ⟨by rfl, ?_⟩) (by decide) (Or.inr (by assumption)) ?_
  rotate_left
  · (intro w; go_simp; try with_reducible rfl)
  (try simp only [Act.put, List.setIfInBounds_toArray, List.set_cons_zero, List.set_cons_succ])
  refine anyC_take (i := 4) (v := ?_) (some 17) (by rfl) rfl (by kernel_rfl) (by kernel_rfl) (by kernel_rfl) (by kernel_rfl) (by kernel_rfl) (fun _ _ _ h => h) (Or.inl ⟨by rfl, ?_⟩) (by assumption) ?_
  rotate_left
  · (intro w hSw; (try dsimp only at hSw); go_simp; try with_reducible rfl)
  (try simp only [Act.put, List.setIfInBounds_toArray, List.set_cons_zero, List.set_cons_succ])
  refine anyC_take (i := 5) (v := ?_) (some 18) (by rfl) rfl (by kernel_rfl) (by kernel_rfl) (by kernel_rfl) (by kernel_rfl) (by kernel_rfl) (fun _ _ _ h => h) (Or.inl ⟨by rfl, ?_⟩) (by assumption) ?_
  rotate_left
  · (intro w hSw; (try dsimp only at hSw); go_simp; try with_reducible rfl)
  (try simp only [Act.put, List.setIfInBounds_toArray, List.set_cons_zero, List.set_cons_succ])
  refine anyC_one (i := 6) (by kernel_rfl) rfl rfl (fun K hK => ?_)
  go_simp
  refine hK.out _ _ (.inr (.inr ?_)) ?_
  · simp [*, World.cell?_alloc_some]
  clear hK K hS
  refine anyC_one (i := 7) (by kernel_rfl) rfl rfl (fun K hK => ?_)
  refine wp_append_lies _ _ _ _ (by rfl) 0 75 i0 _ 3 32 Tryd.underlying70 hi0 hz0 hz1 hz2 rfl (by omega) (.slice va s.regs.length vc) s.regs.length (rcs s.regs) (by rfl) (((h3.alloc _).alloc _).drew) ⟨w.heap.size + 1, 0, none⟩ 1 1 (Reg.cs ⟨rm, rw_, ri⟩) (by rfl) (by rfl) (World.news_of_block (cs := (Reg.cs ⟨rm, rw_, ri⟩).toArray) (t := 75) (fr := (0, 0)) (heap2 _ _ _)) (Reg.one _) (by omega) (by unfold maxLen; omega) (by omega) (Nat.zero_le _) (w.heap.size + 2) (by simp) ?_
  intro gg cap w1 hown1 hgrow hat hlt
  have hS1 : (fun w' : World => w'.cell? ⟨yb, 2, none⟩ = some (.slice va s.regs.length vc) ∧ w'.cell? ⟨w.heap.size, 0, none⟩ = some (.string rm) ∧ w'.cell? ⟨w.heap.size, 1, none⟩ = some (.int .i64 rw_) ∧ w'.cell? ⟨w.heap.size, 2, none⟩ = some (.int .i64 ri)) w1 := by
    refine ⟨?_, ?_, ?_, ?_⟩
    · rw [hgrow.cell_far _ (by simp; omega) (Ne.symm ao)]; simp [*, World.cell?_alloc_some]
    · rw [hgrow.cell_far _ (by simp; omega) (Ne.symm ab)]; simp [*, World.cell?_alloc_some, Reg.cs]
    · rw [hgrow.cell_far _ (by simp; omega) (Ne.symm ab)]; simp [*, World.cell?_alloc_some, Reg.cs]
    · rw [hgrow.cell_far _ (by simp; omega) (Ne.symm ab)]; simp [*, World.cell?_alloc_some, Reg.cs]
  have k1 : w1.cell? ⟨yb, 2, none⟩ = some (.slice va s.regs.length vc) := hS1.1
  have e1 : w1.frozen? ⟨yb, 2, none⟩ = false := by
    rw [hgrow.frozen_far _ (by simp; omega) (Ne.symm ao)]; exact f2 _ _
  refine hK.out _ _ (.inr (.inr hS1)) ?_
  clear hK K
  (try simp only [Act.put, List.setIfInBounds_toArray, List.set_cons_zero, List.set_cons_succ])
  refine anyC_take0 (i := 8) (v := ?_) (some 21) (by rfl) rfl (by kernel_rfl) (by kernel_rfl) (by kernel_rfl) (fun _ _ _ h => h) (Or.inl ⟨by rfl, ?_⟩) (by decide) (Or.inr (by assumption)) ?_
  rotate_left
  · (intro w; go_simp; try with_reducible rfl)
  (try simp only [Act.put, List.setIfInBounds_toArray, List.set_cons_zero, List.set_cons_succ])
  refine anyC_take0 (i := 9) (v := ?_) (some 22) (by rfl) rfl (by kernel_rfl) (by kernel_rfl) (by kernel_rfl) (fun _ _ _ h => h) (Or.inl ⟨by rfl, ?_⟩) (by decide) (Or.inr (by assumption)) ?_
  rotate_left
  · (intro w; go_simp; try with_reducible rfl)
  (try simp only [Act.put, List.setIfInBounds_toArray, List.set_cons_zero, List.set_cons_succ])
  refine anyC_one (i := 10) (by kernel_rfl) rfl rfl (fun K hK => ?_)
  go_simp
  refine hK.out _ _ (.inl rfl) ?_
  refine anyC_done (by kernel_rfl) ?_ _
  go_wp2
  go_end0
  have hb0 := (((Below.refl w.heap.size w).alloc (Nat.le_refl _) (.cells (Reg.cs ⟨rm, rw_, ri⟩).toArray 75)).alloc (by simp) (.cells (Reg.cs ⟨rm, rw_, ri⟩).toArray 75)).drew
  obtain ⟨q1, q2⟩ := LR.open_close (H := w.heap.size + 2) h1 h2 h3 h4 hb0 hgrow hown1 hat (by omega)
  exact ⟨rfl, q1, q2⟩
end Go.Proofs.YtpgcklpcohcchaaDoor
