/- The end of the layout of an empty list. -/
import Derived.Test.YtpgcklpcohcchaaDoorA17
import Derived.Test.YtpgcklpcohcchaaDoorA19
namespace Go.Proofs.YtpgcklpcohcchaaDoor
open Go Go.RowKit

set_option maxRecDepth 100000 in
set_option maxHeartbeats 12800000 in
theorem end_nil (X : Nat → Prop) (w : World) (yb : Nat) (lv : Value) (fi : Nat) (h : LR X w yb lv ⟨[], [], fi⟩) (hl : LL X w lv []) :
    Calls Tryd.prog 42 #[.pointer (some ⟨yb, 0, none⟩)] w (Res X w yb lv (endF [] ⟨[], [], fi⟩)) := by
  obtain ⟨va, vc, hlv⟩ := row_len' hl.1
  subst hlv
  have c0 : w.cell? ⟨yb, 0, none⟩ = some (.slice va 0 vc) := by
    obtain ⟨vo, vr, h1, _⟩ := h
    exact h1.cell 0
  have hb0 := (Below.refl w.heap.size w).alloc (Nat.le_refl _) (.cells #[.int .i64 14, .string ⟨#[]⟩, .int .i64 0, .int .i64 0, .int .i64 0] 32)
  have HL0 := Lib.hid (h.more hb0 w.heap.size (Nat.le_refl _) (by simp))
  have HBL := Lib.hid (show Bl (w.alloc (.cells #[.int .i64 14, .string ⟨#[]⟩, .int .i64 0, .int .i64 0, .int .i64 0] 32)) w.heap.size 32 (Tok.cs ⟨14, ⟨#[]⟩, 0, 0, 0⟩) from Bl.new w 32 _)
  have HKW := Lib.hid (KX.below hb0 h.lt)
  have c0' := cell_alloc1 c0
  have n0 := World.new_ne w _ c0
  clear h hl hb0
  go_enter Tryd.func42, Tryd.ntmps42
  go_wp2
  clear c0 c0' n0
  have hte : Tok.cs ⟨14, ⟨#[]⟩, 0, 0, 0⟩ = [.int .i64 14, .string ⟨#[]⟩, .int .i64 0, .int .i64 0, .int .i64 0] := rfl
  have HTE := Lib.hid hte
  clear hte
  generalize w.alloc (.cells #[.int .i64 14, .string ⟨#[]⟩, .int .i64 0, .int .i64 0, .int .i64 0] 32) = W0 at *
  generalize w.heap.size = bx at *
  go_loopg [] 0 (fun _ wr => LR (fun b => X b ∨ b = bx) wr yb (.slice va 0 vc) ⟨[], [], fi⟩ ∧ KX (fun b => X b ∨ b = bx) W0 wr)
  case atStart => exact ⟨HL0.out, KX.refl _ _⟩
  case round =>
    obtain ⟨hL, hK⟩ := hrel
    have CI := Lib.hid (indented_any _ wr yb _ _ hL (by simp))
    have HL := Lib.hid hL
    have HK := Lib.hid hK
    clear hL hK
    have hi' : indB [] = false := rfl
    simp only [hi'] at CI
    clear hi'
    go_wp2_with fail
    refine CI.out.mono ?_
    rintro e W ⟨rfl, hB⟩
    have hK2 := HK.out.trans (KX.below hB HL.out.lt)
    have hbx := hK2.bl (.inr rfl) HBL.out
    have hL := HL.out.keep hB
    have HK2 := Lib.hid hK2
    clear hB hK2 CI
    have hv : endF [] ⟨[], [], fi⟩ = .ok { (⟨[], [], fi⟩ : LS) with out := [⟨14, ⟨#[]⟩, 0, 0, 0⟩], regs := [] } := rfl
    have HV := Lib.hid hv
    have c2 : ∃ a c, W.cell? ⟨yb, 2, none⟩ = some (.slice a 0 c) := by
      obtain ⟨vo, vr, h1, h2, h3, h4⟩ := hL
      obtain ⟨a, c, rfl⟩ := row_len h3
      exact ⟨a, c, h1.cell 2⟩
    obtain ⟨va2, vc2, c2⟩ := c2
    obtain ⟨s1, hs1⟩ : ∃ s1 : LS, s1 = ⟨[], [], fi⟩ := ⟨_, rfl⟩
    have hl1 : s1.out.length < 4000000 := by rw [hs1]; show 0 < 4000000; omega
    rw [show (⟨[], [], fi⟩ : LS) = s1 from hs1.symm] at hL
    have HS1 := Lib.hid hs1
    clear hv hs1
    go_wp2_with fail
    clear c2
    obtain ⟨vo, vr, h1, h2, h3, h4⟩ := hL
    obtain ⟨i0, hi0, hz0, hz1, hz2⟩ := info_parts Tryd.info32
    have c1 : W.cell? ⟨yb, 1, none⟩ = some vo := h1.cell 1
    have f2 : ∀ o : Obj, (W.alloc o).frozen? ⟨yb, 1, none⟩ = false := fun o => (h1.alloc o).froz 1
    have b0 : W.cell? ⟨bx, 0, none⟩ = some (.int .i64 14) := hbx.cell 0
    have b1 : W.cell? ⟨bx, 1, none⟩ = some (.string ⟨#[]⟩) := hbx.cell 1
    have b2 : W.cell? ⟨bx, 2, none⟩ = some (.int .i64 0) := hbx.cell 2
    have b3 : W.cell? ⟨bx, 3, none⟩ = some (.int .i64 0) := hbx.cell 3
    have b4 : W.cell? ⟨bx, 4, none⟩ = some (.int .i64 0) := hbx.cell 4
    have ly := h1.lt
    have lb := hbx.lt
    have ao := Bl.row_apart h2 h1 (by decide)
    have ab : vo.ownBlock ≠ some bx := (h4 bx (.inr rfl)).2.2.1
    have HBX := Lib.hid hbx
    clear hbx
    have hS : (fun w' : World => w'.cell? ⟨yb, 1, none⟩ = some vo ∧ w'.cell? ⟨bx, 0, none⟩ = some (.int .i64 14) ∧ w'.cell? ⟨bx, 1, none⟩ = some (.string ⟨#[]⟩) ∧ w'.cell? ⟨bx, 2, none⟩ = some (.int .i64 0) ∧ w'.cell? ⟨bx, 3, none⟩ = some (.int .i64 0) ∧ w'.cell? ⟨bx, 4, none⟩ = some (.int .i64 0)) W.drew := ⟨c1, b0, b1, b2, b3, b4⟩
    refine anyC_region (c := 10) (S := fun w' : World => w'.cell? ⟨yb, 1, none⟩ = some vo ∧ w'.cell? ⟨bx, 0, none⟩ = some (.int .i64 14) ∧ w'.cell? ⟨bx, 1, none⟩ = some (.string ⟨#[]⟩) ∧ w'.cell? ⟨bx, 2, none⟩ = some (.int .i64 0) ∧ w'.cell? ⟨bx, 3, none⟩ = some (.int .i64 0) ∧ w'.cell? ⟨bx, 4, none⟩ = some (.int .i64 0)) (by kernel_rfl) ?_
    refine anyC_take0 (i := 0) (v := ?_) (some 49) (by rfl) rfl (by kernel_rfl) (by kernel_rfl) (by kernel_rfl) (fun _ _ _ h => h) (Or.inl ⟨by rfl, ?_⟩) (by decide) (Or.inr (by assumption)) ?_
    rotate_left
    · (intro w; go_simp; try with_reducible rfl)
    (try simp only [Act.put, List.setIfInBounds_toArray, List.set_cons_zero, List.set_cons_succ])
    refine anyC_take0 (i := 1) (v := ?_) (some 50) (by rfl) rfl (by kernel_rfl) (by kernel_rfl) (by kernel_rfl) (fun _ _ _ h => h) (Or.inl ⟨by rfl, ?_⟩) (by decide) (Or.inr (by assumption)) ?_
    rotate_left
    · (intro w; go_simp; try with_reducible rfl)
    (try simp only [Act.put, List.setIfInBounds_toArray, List.set_cons_zero, List.set_cons_succ])
    refine anyC_take0 (i := 2) (v := ?_) (some 51) (by rfl) rfl (by kernel_rfl) (by kernel_rfl) (by kernel_rfl) (fun _ _ _ h => h) (Or.inl ⟨by rfl, ?_⟩) (by decide) (Or.inr (by assumption)) ?_
    rotate_left
    · (intro w; go_simp; try with_reducible rfl)
    (try simp only [Act.put, List.setIfInBounds_toArray, List.set_cons_zero, List.set_cons_succ])
    refine anyC_take0 (i := 3) (v := ?_) (some 52) (by rfl) rfl (by kernel_rfl) (by kernel_rfl) (by kernel_rfl) (fun _ _ _ h => h) (Or.inl ⟨by rfl, ?_⟩) (by decide) (Or.inr (by assumption)) ?_
    rotate_left
    · (intro w; go_simp; try with_reducible rfl)
    (try simp only [Act.put, List.setIfInBounds_toArray, List.set_cons_zero, List.set_cons_succ])
    refine anyC_take (i := 4) (v := ?_) (some 53) (by rfl) rfl (by kernel_rfl) (by kernel_rfl) (by kernel_rfl) (by kernel_rfl) (by kernel_rfl) (fun _ _ _ h => h) (Or.inl ⟨by rfl, ?_⟩) (by assumption) ?_
    rotate_left
    · (intro w hSw; (try dsimp only at hSw); go_simp; try with_reducible rfl)
    (try simp only [Act.put, List.setIfInBounds_toArray, List.set_cons_zero, List.set_cons_succ])
    refine anyC_take (i := 5) (v := ?_) (some 54) (by rfl) rfl (by kernel_rfl) (by kernel_rfl) (by kernel_rfl) (by kernel_rfl) (by kernel_rfl) (fun _ _ _ h => h) (Or.inl ⟨by rfl, ?_⟩) (by assumption) ?_
    rotate_left
    · (intro w hSw; (try dsimp only at hSw); go_simp; try with_reducible rfl)
    (try simp only [Act.put, List.setIfInBounds_toArray, List.set_cons_zero, List.set_cons_succ])
    refine anyC_one (i := 6) (by kernel_rfl) rfl (by rfl) (fun K hK => ?_)
    go_simp
    refine hK.out _ _ (.inr (.inr ?_)) ?_
    · exact ⟨cell_alloc1 c1 _, cell_alloc1 b0 _, cell_alloc1 b1 _, cell_alloc1 b2 _, cell_alloc1 b3 _, cell_alloc1 b4 _⟩
    clear hK K hS
    refine anyC_one (i := 7) (by kernel_rfl) rfl (by rfl) (fun K hK => ?_)
    refine wp_append_lies _ _ _ _ (by rfl) 0 32 i0 _ 5 48 Tryd.underlying23 hi0 hz0 hz1 hz2 rfl (by omega) vo s1.out.length (tcs s1.out) (by rfl) ((h2.alloc _).drew) ⟨W.heap.size, 0, none⟩ 1 1 (Tok.cs ⟨14, ⟨#[]⟩, 0, 0, 0⟩) (by rfl) (by rfl) (World.news_of_block (cs := (Tok.cs ⟨14, ⟨#[]⟩, 0, 0, 0⟩).toArray) (t := 32) (fr := (0, 0)) (heap1 _ _)) (Tok.one _) (by omega) (by unfold maxLen; omega) (by omega) (Nat.zero_le _) (W.heap.size + 1) (by simp) ?_
    intro gg cap w1 hown1 hgrow hat hlt'
    have hS1 : (fun w' : World => w'.cell? ⟨yb, 1, none⟩ = some vo ∧ w'.cell? ⟨bx, 0, none⟩ = some (.int .i64 14) ∧ w'.cell? ⟨bx, 1, none⟩ = some (.string ⟨#[]⟩) ∧ w'.cell? ⟨bx, 2, none⟩ = some (.int .i64 0) ∧ w'.cell? ⟨bx, 3, none⟩ = some (.int .i64 0) ∧ w'.cell? ⟨bx, 4, none⟩ = some (.int .i64 0)) w1 := by
      refine ⟨?_, ?_, ?_, ?_, ?_, ?_⟩
      · rw [hgrow.cell_far _ (by simp; omega) (Ne.symm ao)]; exact cell_alloc1 c1 _
      · rw [hgrow.cell_far _ (by simp; omega) (Ne.symm ab)]; exact cell_alloc1 b0 _
      · rw [hgrow.cell_far _ (by simp; omega) (Ne.symm ab)]; exact cell_alloc1 b1 _
      · rw [hgrow.cell_far _ (by simp; omega) (Ne.symm ab)]; exact cell_alloc1 b2 _
      · rw [hgrow.cell_far _ (by simp; omega) (Ne.symm ab)]; exact cell_alloc1 b3 _
      · rw [hgrow.cell_far _ (by simp; omega) (Ne.symm ab)]; exact cell_alloc1 b4 _
    have k1 : w1.cell? ⟨yb, 1, none⟩ = some vo := hS1.1
    have e1 : w1.frozen? ⟨yb, 1, none⟩ = false := by
      rw [hgrow.frozen_far _ (by simp; omega) (Ne.symm ao)]; exact f2 _
    refine hK.out _ _ (.inr (.inr hS1)) ?_
    clear hK K
    (try simp only [Act.put, List.setIfInBounds_toArray, List.set_cons_zero, List.set_cons_succ])
    refine anyC_take0 (i := 8) (v := ?_) (some 57) (by rfl) rfl (by kernel_rfl) (by kernel_rfl) (by kernel_rfl) (fun _ _ _ h => h) (Or.inl ⟨by rfl, ?_⟩) (by decide) (Or.inr (by assumption)) ?_
    rotate_left
    · (intro w; go_simp; try with_reducible rfl)
    (try simp only [Act.put, List.setIfInBounds_toArray, List.set_cons_zero, List.set_cons_succ])
    refine anyC_take0 (i := 9) (v := ?_) (some 58) (by rfl) rfl (by kernel_rfl) (by kernel_rfl) (by kernel_rfl) (fun _ _ _ h => h) (Or.inl ⟨by rfl, ?_⟩) (by decide) (Or.inr (by assumption)) ?_
    rotate_left
    · (intro w; go_simp; try with_reducible rfl)
    (try simp only [Act.put, List.setIfInBounds_toArray, List.set_cons_zero, List.set_cons_succ])
    refine anyC_one (i := 10) (by kernel_rfl) rfl (by rfl) (fun K hK => ?_)
    go_simp
    refine hK.out _ _ (.inl rfl) ?_
    apply anyC_end
    rotate_left
    · kernel_rfl
    go_wp2
    go_end0
    obtain ⟨r1, r2⟩ := LR.put_close (X := fun b => X b ∨ b = bx) (t := ⟨14, ⟨#[]⟩, 0, 0, 0⟩) (H := W.heap.size + 1) h1 h2 h3 h4 ((Below.refl W.heap.size W).alloc (Nat.le_refl _) (.cells (Tok.cs ⟨14, ⟨#[]⟩, 0, 0, 0⟩).toArray 32)).drew hgrow hown1 hat (by omega)
    have e1 := HS1.out
    subst e1
    rw [HV.out]
    exact ⟨rfl, r1.mono (fun _ hk => .inl hk), HKW.out.trans ((HK2.out.mono (fun _ hk => .inl hk)).trans (r2.mono (fun _ hk => .inl hk)))⟩
end Go.Proofs.YtpgcklpcohcchaaDoor
