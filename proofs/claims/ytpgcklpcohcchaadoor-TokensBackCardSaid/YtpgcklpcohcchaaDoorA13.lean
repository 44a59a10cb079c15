/- What a token does to the layout. -/
import Derived.Test.YtpgcklpcohcchaaDoorA12
namespace Go.Proofs.YtpgcklpcohcchaaDoor
open Go Go.RowKit

theorem heap1 (w : World) (p : Obj) : (w.alloc p).drew.heap[w.heap.size]? = some p := Go.heap_alloc_new w p

/-- The marks that open a bracket, and those that close one. -/
def opB (l : List UInt8) : Bool := l == [40] || l == [91] || l == [123] || l == [39, 123] || l == [36, 123]
def clB (l : List UInt8) : Bool := l == [41] || l == [93] || l == [125]

def tokF1 (i : Nat) (t : Tok) (s : LS) : Except (Nat × Nat) LS :=
  if t.kind = 3 then
    if opB t.text.toList then (if s.regs.length = 64 then .error (i, 8) else .ok { s with regs := ⟨t.text, s.first, i⟩ :: s.regs })
    else if clB t.text.toList then closeF i t s
    else .ok s
  else .ok s
/-- What a token does to the layout. -/
def tokF (i : Nat) (t : Tok) (s : LS) : Except (Nat × Nat) LS :=
  match tokF1 i t s with
  | .error f => .error f
  | .ok s => .ok { s with out := s.out ++ [t] }

set_option maxRecDepth 100000 in
set_option maxHeartbeats 6400000 in
theorem token_plain (X : Nat → Prop) (w : World) (yb : Nat) (lv : Value) (s : LS) (ts : List Tok) (i : Nat) (t : Tok) (h : LR X w yb lv s) (hl : LL X w lv ts) (hi : ts[i]? = some t) (hn' : ts.length ≤ 1000000) (hn : s.out.length < 4000000)
    (hp : tokF1 i t s = .ok s) (hp' : t.kind = 3 → opB t.text.toList = false ∧ clB t.text.toList = false) :
    Calls Tryd.prog 41 #[.pointer (some ⟨yb, 0, none⟩), .int .i64 i] w (Res X w yb lv (tokF i t s)) := by
  have hlt : i < ts.length := (List.getElem?_eq_some_iff.1 hi).1
  have hx : tokF i t s = .ok { s with out := s.out ++ [t] } := by unfold tokF; rw [hp]
  rw [hx]
  obtain ⟨g, cap, hlv, hg, k0, k1, k2, k3, k4⟩ := hl.tok hi
  have hb0 := (Below.refl w.heap.size w).alloc (Nat.le_refl _) (.cells t.cs.toArray 32)
  have hL0 := h.more hb0 w.heap.size (Nat.le_refl _) (by simp)
  have hbl : Bl (w.alloc (.cells t.cs.toArray 32)) w.heap.size 32 t.cs := by simpa using Bl.new w 32 t.cs
  have c0 : w.cell? ⟨yb, 0, none⟩ = some lv := by
    obtain ⟨vo, vr, h1, _⟩ := h
    exact h1.cell 0
  have HX := Lib.hid h.lt
  obtain ⟨tk, tx, ta, tl, tc⟩ := t
  simp only [Tok.cs] at k0 k1 k2 k3 k4 hb0 hL0 hbl hp' ⊢
  subst hlv
  have q2 : (0 : Int) ≤ (i : Int) := by omega
  have q3 : (i : Int) < (ts.length : Int) := by omega
  have HP := Lib.hid hp'
  have HL0 := Lib.hid hL0
  have HBL := Lib.hid hbl
  have HKW := Lib.hid (KX.below hb0 HX.out)
  clear hp hp' hx h hl hi hlt hL0 hbl hb0
  generalize ts.length = len at *
  go_enter Tryd.func41, Tryd.ntmps41
  go_wp2_with fail
  all_goals first
    | (exfalso
       have hP := HP.out
       simp_all [opB, clB, ik3]
       done)
    | skip
  all_goals
    have hbx := HBL.out
    have hL := HL0.out
    generalize hs1 : s = s1 at *
    generalize hbxe : w.heap.size = bx at *
    generalize (w.alloc (.cells #[.int .i64 tk, .string tx, .int .i64 ta, .int .i64 tl, .int .i64 tc] 32)) = W at *
    obtain ⟨vo, vr, h1, h2, h3, h4⟩ := hL
    obtain ⟨i0, hi0, hz0, hz1, hz2⟩ := info_parts Tryd.info32
    have c1 : W.cell? ⟨yb, 1, none⟩ = some vo := h1.cell 1
    have f2 : ∀ o : Obj, (W.alloc o).frozen? ⟨yb, 1, none⟩ = false := fun o => (h1.alloc o).froz 1
    have b0 : W.cell? ⟨bx, 0, none⟩ = some (.int .i64 tk) := hbx.cell 0
    have b1 : W.cell? ⟨bx, 1, none⟩ = some (.string tx) := hbx.cell 1
    have b2 : W.cell? ⟨bx, 2, none⟩ = some (.int .i64 ta) := hbx.cell 2
    have b3 : W.cell? ⟨bx, 3, none⟩ = some (.int .i64 tl) := hbx.cell 3
    have b4 : W.cell? ⟨bx, 4, none⟩ = some (.int .i64 tc) := hbx.cell 4
    have ly := h1.lt
    have lb := hbx.lt
    have ao := Bl.row_apart h2 h1 (by decide)
    have ab : vo.ownBlock ≠ some bx := (h4 bx (.inr rfl)).2.2.1
    have HBX := Lib.hid hbx
    clear hbx
    have hS : (fun w' : World => w'.cell? ⟨yb, 1, none⟩ = some vo ∧ w'.cell? ⟨bx, 0, none⟩ = some (.int .i64 tk) ∧ w'.cell? ⟨bx, 1, none⟩ = some (.string tx) ∧ w'.cell? ⟨bx, 2, none⟩ = some (.int .i64 ta) ∧ w'.cell? ⟨bx, 3, none⟩ = some (.int .i64 tl) ∧ w'.cell? ⟨bx, 4, none⟩ = some (.int .i64 tc)) W.drew := ⟨c1, b0, b1, b2, b3, b4⟩
    refine anyC_region (c := 10) (S := fun w' : World => w'.cell? ⟨yb, 1, none⟩ = some vo ∧ w'.cell? ⟨bx, 0, none⟩ = some (.int .i64 tk) ∧ w'.cell? ⟨bx, 1, none⟩ = some (.string tx) ∧ w'.cell? ⟨bx, 2, none⟩ = some (.int .i64 ta) ∧ w'.cell? ⟨bx, 3, none⟩ = some (.int .i64 tl) ∧ w'.cell? ⟨bx, 4, none⟩ = some (.int .i64 tc)) (by kernel_rfl) ?_
    refine anyC_take0 (i := 0) (v := ?_) (some 40) (by rfl) rfl (by kernel_rfl) (by kernel_rfl) (by kernel_rfl) (fun _ _ _ h => h) (Or.inl ⟨by rfl, ?_⟩) (by decide) (Or.inr (by assumption)) ?_
    rotate_left
    · (intro w; go_simp; try with_reducible rfl)
    (try simp only [Act.put, List.setIfInBounds_toArray, List.set_cons_zero, List.set_cons_succ])
    refine anyC_take0 (i := 1) (v := ?_) (some 41) (by rfl) rfl (by kernel_rfl) (by kernel_rfl) (by kernel_rfl) (fun _ _ _ h => h) (Or.inl ⟨by rfl, ?_⟩) (by decide) (Or.inr (by assumption)) ?_
    rotate_left
    · (intro w; go_simp; try with_reducible rfl)
    (try simp only [Act.put, List.setIfInBounds_toArray, List.set_cons_zero, List.set_cons_succ])
    refine anyC_take0 (i := 2) (v := ?_) (some 42) (by rfl) rfl (by kernel_rfl) (by kernel_rfl) (by kernel_rfl) (fun _ _ _ h => h) (Or.inl ⟨by rfl, ?_⟩) (by decide) (Or.inr (by assumption)) ?_
    rotate_left
    · (intro w; go_simp; try with_reducible rfl)
    (try simp only [Act.put, List.setIfInBounds_toArray, List.set_cons_zero, List.set_cons_succ])
    refine anyC_take0 (i := 3) (v := ?_) (some 43) (by rfl) rfl (by kernel_rfl) (by kernel_rfl) (by kernel_rfl) (fun _ _ _ h => h) (Or.inl ⟨by rfl, ?_⟩) (by decide) (Or.inr (by assumption)) ?_
    rotate_left
    · (intro w; go_simp; try with_reducible rfl)
    (try simp only [Act.put, List.setIfInBounds_toArray, List.set_cons_zero, List.set_cons_succ])
    refine anyC_take (i := 4) (v := ?_) (some 44) (by rfl) rfl (by kernel_rfl) (by kernel_rfl) (by kernel_rfl) (by kernel_rfl) (by kernel_rfl) (fun _ _ _ h => h) (Or.inl ⟨by rfl, ?_⟩) (by assumption) ?_
    rotate_left
    · (intro w hSw; (try dsimp only at hSw); go_simp; try with_reducible rfl)
    (try simp only [Act.put, List.setIfInBounds_toArray, List.set_cons_zero, List.set_cons_succ])
    refine anyC_take (i := 5) (v := ?_) (some 45) (by rfl) rfl (by kernel_rfl) (by kernel_rfl) (by kernel_rfl) (by kernel_rfl) (by kernel_rfl) (fun _ _ _ h => h) (Or.inl ⟨by rfl, ?_⟩) (by assumption) ?_
    rotate_left
    · (intro w hSw; (try dsimp only at hSw); go_simp; try with_reducible rfl)
    (try simp only [Act.put, List.setIfInBounds_toArray, List.set_cons_zero, List.set_cons_succ])
    refine anyC_one (i := 6) (by kernel_rfl) rfl (by rfl) (fun K hK => ?_)
    go_simp
    refine hK.out _ _ (.inr (.inr ?_)) ?_
    · exact ⟨cell_alloc1 c1 _, cell_alloc1 b0 _, cell_alloc1 b1 _, cell_alloc1 b2 _, cell_alloc1 b3 _, cell_alloc1 b4 _⟩
    clear hK K hS
    refine anyC_one (i := 7) (by kernel_rfl) rfl (by rfl) (fun K hK => ?_)
    refine wp_append_lies _ _ _ _ (by rfl) 0 32 i0 _ 5 48 Tryd.underlying23 hi0 hz0 hz1 hz2 rfl (by omega) vo s1.out.length (tcs s1.out) (by rfl) ((h2.alloc _).drew) ⟨W.heap.size, 0, none⟩ 1 1 (Tok.cs ⟨tk, tx, ta, tl, tc⟩) (by rfl) (by rfl) (World.news_of_block (cs := (Tok.cs ⟨tk, tx, ta, tl, tc⟩).toArray) (t := 32) (fr := (0, 0)) (heap1 _ _)) (Tok.one _) (by omega) (by unfold maxLen; omega) (by omega) (Nat.zero_le _) (W.heap.size + 1) (by simp) ?_
    intro gg cap w1 hown1 hgrow hat hlt'
    have hS1 : (fun w' : World => w'.cell? ⟨yb, 1, none⟩ = some vo ∧ w'.cell? ⟨bx, 0, none⟩ = some (.int .i64 tk) ∧ w'.cell? ⟨bx, 1, none⟩ = some (.string tx) ∧ w'.cell? ⟨bx, 2, none⟩ = some (.int .i64 ta) ∧ w'.cell? ⟨bx, 3, none⟩ = some (.int .i64 tl) ∧ w'.cell? ⟨bx, 4, none⟩ = some (.int .i64 tc)) w1 := by
      refine ⟨?_, ?_, ?_, ?_, ?_, ?_⟩
      · rw [hgrow.cell_far _ (by simp; omega) (Ne.symm ao)]; exact cell_alloc1 c1 _
      · rw [hgrow.cell_far _ (by simp; omega) (Ne.symm ab)]; exact cell_alloc1 b0 _
      · rw [hgrow.cell_far _ (by simp; omega) (Ne.symm ab)]; exact cell_alloc1 b1 _
      · rw [hgrow.cell_far _ (by simp; omega) (Ne.symm ab)]; exact cell_alloc1 b2 _
      · rw [hgrow.cell_far _ (by simp; omega) (Ne.symm ab)]; exact cell_alloc1 b3 _
      · rw [hgrow.cell_far _ (by simp; omega) (Ne.symm ab)]; exact cell_alloc1 b4 _
    have k1 : w1.cell? ⟨yb, 1, none⟩ = some vo := hS1.1
    have e1 : w1.frozen? ⟨yb, 1, none⟩ = false := by
      rw [hgrow.frozen_far _ (by simp; omega) (Ne.symm ao)]; exact f2 _
    refine hK.out _ _ (.inr (.inr hS1)) ?_
    clear hK K
    (try simp only [Act.put, List.setIfInBounds_toArray, List.set_cons_zero, List.set_cons_succ])
    refine anyC_take0 (i := 8) (v := ?_) (some 48) (by rfl) rfl (by kernel_rfl) (by kernel_rfl) (by kernel_rfl) (fun _ _ _ h => h) (Or.inl ⟨by rfl, ?_⟩) (by decide) (Or.inr (by assumption)) ?_
    rotate_left
    · (intro w; go_simp; try with_reducible rfl)
    (try simp only [Act.put, List.setIfInBounds_toArray, List.set_cons_zero, List.set_cons_succ])
    refine anyC_take0 (i := 9) (v := ?_) (some 49) (by rfl) rfl (by kernel_rfl) (by kernel_rfl) (by kernel_rfl) (fun _ _ _ h => h) (Or.inl ⟨by rfl, ?_⟩) (by decide) (Or.inr (by assumption)) ?_
    rotate_left
    · (intro w; go_simp; try with_reducible rfl)
    (try simp only [Act.put, List.setIfInBounds_toArray, List.set_cons_zero, List.set_cons_succ])
    refine anyC_one (i := 10) (by kernel_rfl) rfl (by rfl) (fun K hK => ?_)
    go_simp
    refine hK.out _ _ (.inl rfl) ?_
    apply anyC_end
    rotate_left
    · kernel_rfl
    go_wp2
    go_end0
    obtain ⟨r1, r2⟩ := LR.put_close (X := fun b => X b ∨ b = bx) (t := ⟨tk, tx, ta, tl, tc⟩) (H := W.heap.size + 1) h1 h2 h3 h4 ((Below.refl W.heap.size W).alloc (Nat.le_refl _) (.cells (Tok.cs ⟨tk, tx, ta, tl, tc⟩).toArray 32)).drew hgrow hown1 hat (by omega)
    exact ⟨rfl, r1.mono (fun _ hk => .inl hk), HKW.out.trans (r2.mono (fun _ hk => .inl hk))⟩
end Go.Proofs.YtpgcklpcohcchaaDoor
