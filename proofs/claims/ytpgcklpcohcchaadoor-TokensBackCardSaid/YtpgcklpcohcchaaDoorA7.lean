/- Closing an indentation of the layout. -/
import Derived.Test.YtpgcklpcohcchaaDoorA5
import Derived.Test.YtpgcklpcohcchaaDoorA6
namespace Go.Proofs.YtpgcklpcohcchaaDoor
open Go Go.RowKit

/-- Behind a store of a shorter list of regions. -/
theorem LR.pop_close {X : Nat → Prop} {yb g cap : Nat} {lv vo : Value} {s : LS} {r : Reg} {rs : List Reg} {w1 : World} (h1 : Bl w1 yb 72 [lv, vo, .slice (some ⟨g, 0, none⟩) (rs.length + 1) cap, .int .i64 s.first])
    (h2 : w1.ownsRow 0 32 5 vo s.out.length (tcs s.out)) (h3 : w1.ownsRow 0 75 3 (.slice (some ⟨g, 0, none⟩) (rs.length + 1) cap) (rs.length + 1) (rcs (r :: rs)))
    (h4 : ∀ b, X b → b < w1.heap.size ∧ b ≠ yb ∧ vo.ownBlock ≠ some b ∧ (Value.slice (some ⟨g, 0, none⟩) (rs.length + 1) cap).ownBlock ≠ some b) :
    LR X (w1.setCell ⟨yb, 2, none⟩ (.slice (some ⟨g, 0, none⟩) rs.length cap)).drew yb lv { s with regs := rs } ∧ KX X w1 (w1.setCell ⟨yb, 2, none⟩ (.slice (some ⟨g, 0, none⟩) rs.length cap)).drew := by
  rw [rcs_cons] at h3
  have h3' := ownsRow_pop (rcs_length rs) h3
  have og : Og yb w1 (w1.setCell ⟨yb, 2, none⟩ (.slice (some ⟨g, 0, none⟩) rs.length cap)).drew := ((Og.refl yb w1).set 2 _).drew
  refine ⟨⟨_, _, (h1.set 2 _).drew, og.row h2 (Bl.row_apart h2 h1 (by decide)), og.row h3' (Bl.row_apart h3' h1 (by decide)), fun b hX => ?_⟩, ?_⟩
  · obtain ⟨k1, k2, k3, k4⟩ := h4 b hX
    exact ⟨Nat.lt_of_lt_of_le k1 og.size, k2, k3, k4⟩
  · refine ⟨og.os, og.tape, og.output, og.size, fun k hk => ?_⟩
    obtain ⟨k1, k2, k3, k4⟩ := h4 k hk
    exact og.block k k1 (by intro e; injection e with e; exact k2 e)

set_option maxRecDepth 100000 in
set_option maxHeartbeats 3200000 in
theorem outdent_any (X : Nat → Prop) (w : World) (yb : Nat) (lv : Value) (s : LS) (t : Tok) (r : Reg) (rs : List Reg) (h : LR X w yb lv s) (hr : s.regs = r :: rs) (hm : rs.length < 4000000) (hn : s.out.length < 4000000) :
    Calls Tryd.prog 66 #[.pointer (some ⟨yb, 0, none⟩), .agg t.cs.toArray] w fun e w' => e = .returned (.tuple #[]) ∧ LR X w' yb lv { s with out := s.out ++ [t.as 13], regs := rs } ∧ KX X w w' := by
  have hb0 := (Below.refl w.heap.size w).alloc (Nat.le_refl _) (.cells t.cs.toArray 32)
  have c := put_any X _ yb lv s 13 t (h.keep hb0) hn
  have HL := Lib.hid h.lt
  obtain ⟨tk, ts, ta, tl, tc⟩ := t
  simp only [Tok.cs] at c
  have C := Lib.hid c
  clear c
  unfold Tok.cs
  go_enter Tryd.func66, Tryd.ntmps66
  go_wp2_with (go_at_call 60; refine C.out.mono ?_; rintro e w1 ⟨rfl, hL, hB⟩)
  clear C h
  obtain ⟨vo, vr, h1, h2, h3, h4⟩ := hL
  simp only [hr, List.length_cons] at h3
  obtain ⟨g, cap, rfl, _, _⟩ := h3.form (by omega)
  have c2 : w1.cell? ⟨yb, 2, none⟩ = some (.slice (some ⟨g, 0, none⟩) (rs.length + 1) cap) := h1.cell 2
  have f2 : w1.frozen? ⟨yb, 2, none⟩ = false := h1.froz 2
  have hcap : rs.length + 1 ≤ cap := by
    rcases h3.2 with ⟨hv, _⟩ | ⟨g', cap', cur, hv, _, _, hc, _⟩
    · cases hv
    · injection hv with _ _ hv; omega
  have hcl := LR.pop_close (s := { s with out := s.out ++ [Tok.as ⟨tk, ts, ta, tl, tc⟩ 13] }) h1 h2 h3 h4
  have HC := Lib.hid hcl
  have HB := Lib.hid hB
  clear hcl hB h1 h2 h3 hr
  generalize rs.length = n at *
  have q1 : IntKind.i64.wrap (n : Int) = (n : Int) := by rw [IntKind.wrap_i64]; omega
  have q4 : IntKind.i64.wrap ((n : Int) + 1 - 1) = (n : Int) := by rw [IntKind.wrap_i64]; omega
  have q2 : (0 : Int) ≤ (n : Int) := by omega
  have q3 : (n : Int) ≤ (cap : Int) := by omega
  go_wp2_with fail
  have hS : (fun w' : World => w'.cell? ⟨yb, 2, none⟩ = some (.slice (some ⟨g, 0, none⟩) (n + 1) cap)) w1.drew := c2
  refine anyC_region (c := 14) (S := fun w' : World => w'.cell? ⟨yb, 2, none⟩ = some (.slice (some ⟨g, 0, none⟩) (n + 1) cap)) (by kernel_rfl) ?_
  refine anyC_take0 (i := 0) (v := ?_) (some 7) (by rfl) rfl (by kernel_rfl) (by kernel_rfl) (by kernel_rfl) (fun _ _ _ h => h) (Or.inl ⟨by rfl, ?_⟩) (by decide) (Or.inr (by assumption)) ?_
  rotate_left
  · (intro w; go_simp; try with_reducible rfl)
  (try simp only [Act.put, List.setIfInBounds_toArray, List.set_cons_zero, List.set_cons_succ])
  refine anyC_take0 (i := 1) (v := ?_) (some 8) (by rfl) rfl (by kernel_rfl) (by kernel_rfl) (by kernel_rfl) (fun _ _ _ h => h) (Or.inl ⟨by rfl, ?_⟩) (by decide) (Or.inr (by assumption)) ?_
  rotate_left
  · (intro w; go_simp; try with_reducible rfl)
  (try simp only [Act.put, List.setIfInBounds_toArray, List.set_cons_zero, List.set_cons_succ])
  refine anyC_take0 (i := 2) (v := ?_) (some 9) (by rfl) rfl (by kernel_rfl) (by kernel_rfl) (by kernel_rfl) (fun _ _ _ h => h) (Or.inl ⟨by rfl, ?_⟩) (by decide) (Or.inr (by assumption)) ?_
  rotate_left
  · (intro w; go_simp; try with_reducible rfl)
  (try simp only [Act.put, List.setIfInBounds_toArray, List.set_cons_zero, List.set_cons_succ])
  refine anyC_take0 (i := 3) (v := ?_) (some 10) (by rfl) rfl (by kernel_rfl) (by kernel_rfl) (by kernel_rfl) (fun _ _ _ h => h) (Or.inl ⟨by rfl, ?_⟩) (by decide) (Or.inr (by assumption)) ?_
  rotate_left
  · (intro w; go_simp; try with_reducible rfl)
  (try simp only [Act.put, List.setIfInBounds_toArray, List.set_cons_zero, List.set_cons_succ])
  refine anyC_take (i := 4) (v := ?_) (some 11) (by rfl) rfl (by kernel_rfl) (by kernel_rfl) (by kernel_rfl) (by kernel_rfl) (by kernel_rfl) (fun _ _ _ h => h) (Or.inl ⟨by rfl, ?_⟩) (by assumption) ?_
  rotate_left
  · (intro w hSw; (try dsimp only at hSw); go_simp; try with_reducible rfl)
  (try simp only [Act.put, List.setIfInBounds_toArray, List.set_cons_zero, List.set_cons_succ])
  refine anyC_take0 (i := 5) (v := ?_) (some 12) (by rfl) rfl (by kernel_rfl) (by kernel_rfl) (by kernel_rfl) (fun _ _ _ h => h) (Or.inl ⟨by rfl, ?_⟩) (by decide) (Or.inr (by assumption)) ?_
  rotate_left
  · (intro w; go_simp; try with_reducible rfl)
  (try simp only [Act.put, List.setIfInBounds_toArray, List.set_cons_zero, List.set_cons_succ])
  refine anyC_take0 (i := 6) (v := ?_) (some 13) (by rfl) rfl (by kernel_rfl) (by kernel_rfl) (by kernel_rfl) (fun _ _ _ h => h) (Or.inl ⟨by rfl, ?_⟩) (by decide) (Or.inr (by assumption)) ?_
  rotate_left
  · (intro w; go_simp; try with_reducible rfl)
  (try simp only [Act.put, List.setIfInBounds_toArray, List.set_cons_zero, List.set_cons_succ])
  refine anyC_take0 (i := 7) (v := ?_) (some 14) (by rfl) rfl (by kernel_rfl) (by kernel_rfl) (by kernel_rfl) (fun _ _ _ h => h) (Or.inl ⟨by rfl, ?_⟩) (by decide) (Or.inr (by assumption)) ?_
  rotate_left
  · (intro w; go_simp; try with_reducible rfl)
  (try simp only [Act.put, List.setIfInBounds_toArray, List.set_cons_zero, List.set_cons_succ])
  refine anyC_take (i := 8) (v := ?_) (some 15) (by rfl) rfl (by kernel_rfl) (by kernel_rfl) (by kernel_rfl) (by kernel_rfl) (by kernel_rfl) (fun _ _ _ h => h) (Or.inl ⟨by rfl, ?_⟩) (by assumption) ?_
  rotate_left
  · (intro w hSw; (try dsimp only at hSw); go_simp; try with_reducible rfl)
  (try simp only [Act.put, List.setIfInBounds_toArray, List.set_cons_zero, List.set_cons_succ])
  refine anyC_take0 (i := 9) (v := ?_) (some 16) (by rfl) rfl (by kernel_rfl) (by kernel_rfl) (by kernel_rfl) (fun _ _ _ h => h) (Or.inl ⟨by rfl, ?_⟩) (by decide) (Or.inr (by assumption)) ?_
  rotate_left
  · (intro w; go_simp; try with_reducible rfl)
  (try simp only [Act.put, List.setIfInBounds_toArray, List.set_cons_zero, List.set_cons_succ])
  refine anyC_take0 (i := 10) (v := ?_) (some 17) (by rfl) rfl (by kernel_rfl) (by kernel_rfl) (by kernel_rfl) (fun _ _ _ h => h) (Or.inl ⟨by rfl, ?_⟩) (by decide) (Or.inr (by assumption)) ?_
  rotate_left
  · (intro w; go_simp; try with_reducible rfl)
  (try simp only [Act.put, List.setIfInBounds_toArray, List.set_cons_zero, List.set_cons_succ])
  refine anyC_take0 (i := 11) (v := ?_) (some 18) (by rfl) rfl (by kernel_rfl) (by kernel_rfl) (by kernel_rfl) (fun _ _ _ h => h) (Or.inl ⟨by rfl, ?_⟩) (by decide) (Or.inr (by assumption)) ?_
  rotate_left
  · (intro w; go_simp; try with_reducible rfl)
  (try simp only [Act.put, List.setIfInBounds_toArray, List.set_cons_zero, List.set_cons_succ])
  refine anyC_take0 (i := 12) (v := ?_) (some 19) (by rfl) rfl (by kernel_rfl) (by kernel_rfl) (by kernel_rfl) (fun _ _ _ h => h) (Or.inl ⟨by rfl, ?_⟩) (by decide) (Or.inr (by assumption)) ?_
  rotate_left
  · (intro w; go_simp; try with_reducible rfl)
  (try simp only [Act.put, List.setIfInBounds_toArray, List.set_cons_zero, List.set_cons_succ])
  refine anyC_take0 (i := 13) (v := ?_) (some 20) (by rfl) rfl (by kernel_rfl) (by kernel_rfl) (by kernel_rfl) (fun _ _ _ h => h) (Or.inl ⟨by rfl, ?_⟩) (by decide) (Or.inr (by assumption)) ?_
  rotate_left
  · (intro w; go_simp; try with_reducible rfl)
  (try simp only [Act.put, List.setIfInBounds_toArray, List.set_cons_zero, List.set_cons_succ])
  refine anyC_one (i := 14) (by kernel_rfl) rfl rfl (fun K hK => ?_)
  go_simp
  refine hK.out _ _ (.inl rfl) ?_
  refine anyC_done (by kernel_rfl) ?_ _
  go_wp2
  go_end0
  exact ⟨rfl, HC.out.1, ((KX.below ((Below.refl w.heap.size w).alloc (Nat.le_refl _) _) HL.out).trans HB.out).trans HC.out.2⟩
end Go.Proofs.YtpgcklpcohcchaaDoor
