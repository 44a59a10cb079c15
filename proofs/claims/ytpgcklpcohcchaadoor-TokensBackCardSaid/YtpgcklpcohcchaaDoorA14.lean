/- What a bracket does to the layout. -/
import Derived.Test.YtpgcklpcohcchaaDoorA13
namespace Go.Proofs.YtpgcklpcohcchaaDoor
open Go Go.RowKit

set_option maxRecDepth 100000 in
set_option maxHeartbeats 6400000 in
theorem token_open_fail (X : Nat → Prop) (w : World) (yb : Nat) (lv : Value) (s : LS) (ts : List Tok) (i : Nat) (t : Tok) (h : LR X w yb lv s) (hl : LL X w lv ts) (hi : ts[i]? = some t) (hn' : ts.length ≤ 1000000) (hn : s.out.length < 4000000)
    (hk : t.kind = 3) (hop : opB t.text.toList = true) (hr : s.regs.length = 64) :
    Calls Tryd.prog 41 #[.pointer (some ⟨yb, 0, none⟩), .int .i64 i] w (Res X w yb lv (tokF i t s)) := by
  have hx : tokF i t s = .error (i, 8) := by unfold tokF tokF1; rw [if_pos hk, if_pos hop, if_pos hr]
  rw [hx]
  have hlt : i < ts.length := (List.getElem?_eq_some_iff.1 hi).1
  obtain ⟨g, cap, hlv, hg, k0, k1, k2, k3, k4⟩ := hl.tok hi
  have hb0 := (Below.refl w.heap.size w).alloc (Nat.le_refl _) (.cells t.cs.toArray 32)
  have hL0 := h.more hb0 w.heap.size (Nat.le_refl _) (by simp)
  have hbl : Bl (w.alloc (.cells t.cs.toArray 32)) w.heap.size 32 t.cs := by simpa using Bl.new w 32 t.cs
  have c0 : w.cell? ⟨yb, 0, none⟩ = some lv := by
    obtain ⟨vo, vr, h1, _⟩ := h
    exact h1.cell 0
  have c3 : w.cell? ⟨yb, 3, none⟩ = some (.int .i64 s.first) := by
    obtain ⟨vo, vr, h1, _⟩ := h
    exact h1.cell 3
  have c3' := cell_alloc1 c3
  have HX := Lib.hid h.lt
  have co := open_fail _ _ yb lv s ⟨t.text, s.first, i⟩ (hL0.keep (Below.refl _ _).drew) hr
  clear hx hr
  obtain ⟨tk, tx, ta, tl, tc⟩ := t
  simp only [Tok.cs, Reg.cs] at k0 k1 k2 k3 k4 hb0 hL0 hbl hk hop co ⊢
  subst hlv
  have q2 : (0 : Int) ≤ (i : Int) := by omega
  have q3 : (i : Int) < (ts.length : Int) := by omega
  have HOP := Lib.hid hop
  have HL0 := Lib.hid hL0
  have HBL := Lib.hid hbl
  have HKW := Lib.hid (KX.below hb0 HX.out)
  have CO := Lib.hid co
  have hk3 : ((tk : Int) == 3) = true := by simp; omega
  clear hk co hop h hl hi hlt hL0 hbl hb0
  generalize ts.length = len at *
  go_enter Tryd.func41, Tryd.ntmps41
  go_wp2_with fail
  all_goals first
    | (exfalso
       have hP := HOP.out
       simp_all [opB, clB]
       done)
    | skip
  all_goals
    have hS : (fun w' : World => w'.cell? ⟨w.heap.size, 1, none⟩ = some (.string tx) ∧ w'.cell? ⟨yb, 3, none⟩ = some (.int .i64 s.first)) (w.alloc (.cells #[.int .i64 tk, .string tx, .int .i64 ta, .int .i64 tl, .int .i64 tc] 32)).drew := ⟨HBL.out.cell 1, c3' _⟩
    refine anyC_region (c := 8) (S := fun w' : World => w'.cell? ⟨w.heap.size, 1, none⟩ = some (.string tx) ∧ w'.cell? ⟨yb, 3, none⟩ = some (.int .i64 s.first)) (by kernel_rfl) ?_
    refine anyC_take0 (i := 0) (v := ?_) (some 23) (by rfl) rfl (by kernel_rfl) (by kernel_rfl) (by kernel_rfl) (fun _ _ _ h => h) (Or.inl ⟨by rfl, ?_⟩) (by decide) (Or.inr (by assumption)) ?_
    rotate_left
    · (intro w; go_simp; try with_reducible rfl)
    (try simp only [Act.put, List.setIfInBounds_toArray, List.set_cons_zero, List.set_cons_succ])
    refine anyC_take0 (i := 1) (v := ?_) (some 24) (by rfl) rfl (by kernel_rfl) (by kernel_rfl) (by kernel_rfl) (fun _ _ _ h => h) (Or.inl ⟨by rfl, ?_⟩) (by decide) (Or.inr (by assumption)) ?_
    rotate_left
    · (intro w; go_simp; try with_reducible rfl)
    (try simp only [Act.put, List.setIfInBounds_toArray, List.set_cons_zero, List.set_cons_succ])
    refine anyC_take (i := 2) (v := ?_) (some 25) (by rfl) rfl (by kernel_rfl) (by kernel_rfl) (by kernel_rfl) (by kernel_rfl) (by kernel_rfl) (fun _ _ _ h => h) (Or.inl ⟨by rfl, ?_⟩) (by assumption) ?_
    rotate_left
    · (intro w hSw; (try dsimp only at hSw); go_simp; try with_reducible rfl)
    (try simp only [Act.put, List.setIfInBounds_toArray, List.set_cons_zero, List.set_cons_succ])
    refine anyC_take0 (i := 3) (v := ?_) (some 26) (by rfl) rfl (by kernel_rfl) (by kernel_rfl) (by kernel_rfl) (fun _ _ _ h => h) (Or.inl ⟨by rfl, ?_⟩) (by decide) (Or.inr (by assumption)) ?_
    rotate_left
    · (intro w; go_simp; try with_reducible rfl)
    (try simp only [Act.put, List.setIfInBounds_toArray, List.set_cons_zero, List.set_cons_succ])
    refine anyC_take0 (i := 4) (v := ?_) (some 27) (by rfl) rfl (by kernel_rfl) (by kernel_rfl) (by kernel_rfl) (fun _ _ _ h => h) (Or.inl ⟨by rfl, ?_⟩) (by decide) (Or.inr (by assumption)) ?_
    rotate_left
    · (intro w; go_simp; try with_reducible rfl)
    (try simp only [Act.put, List.setIfInBounds_toArray, List.set_cons_zero, List.set_cons_succ])
    refine anyC_take0 (i := 5) (v := ?_) (some 28) (by rfl) rfl (by kernel_rfl) (by kernel_rfl) (by kernel_rfl) (fun _ _ _ h => h) (Or.inl ⟨by rfl, ?_⟩) (by decide) (Or.inr (by assumption)) ?_
    rotate_left
    · (intro w; go_simp; try with_reducible rfl)
    (try simp only [Act.put, List.setIfInBounds_toArray, List.set_cons_zero, List.set_cons_succ])
    refine anyC_take (i := 6) (v := ?_) (some 29) (by rfl) rfl (by kernel_rfl) (by kernel_rfl) (by kernel_rfl) (by kernel_rfl) (by kernel_rfl) (fun _ _ _ h => h) (Or.inl ⟨by rfl, ?_⟩) (by assumption) ?_
    rotate_left
    · (intro w hSw; (try dsimp only at hSw); go_simp; try with_reducible rfl)
    (try simp only [Act.put, List.setIfInBounds_toArray, List.set_cons_zero, List.set_cons_succ])
    refine anyC_take0 (i := 7) (v := ?_) (some 30) (by rfl) rfl (by kernel_rfl) (by kernel_rfl) (by kernel_rfl) (fun _ _ _ h => h) (Or.inl ⟨by rfl, ?_⟩) (by decide) (Or.inr (by assumption)) ?_
    rotate_left
    · (intro w; go_simp; try with_reducible rfl)
    (try simp only [Act.put, List.setIfInBounds_toArray, List.set_cons_zero, List.set_cons_succ])
    refine anyC_one (i := 8) (by kernel_rfl) rfl (by rfl) (fun K hK => ?_)
    go_simp
    refine hK.out _ _ (.inl rfl) ?_
    clear hK K
    refine anyC_one (i := 9) (by kernel_rfl) rfl (by rfl) (fun K hK => ?_)
    go_simp
    refine CO.out.mono ?_
    rintro e W ⟨rfl, rfl⟩
    exact ⟨rfl, rfl, HKW.out.trans ((KX.refl _ _).drew.trans (KX.below ((Below.refl _ _).alloc (Nat.le_refl _) _) (fun k hk => Nat.lt_of_lt_of_le (HX.out k hk) (by simp))))⟩

set_option maxRecDepth 100000 in
set_option maxHeartbeats 12800000 in
theorem token_open (X : Nat → Prop) (w : World) (yb : Nat) (lv : Value) (s : LS) (ts : List Tok) (i : Nat) (t : Tok) (h : LR X w yb lv s) (hl : LL X w lv ts) (hi : ts[i]? = some t) (hn' : ts.length ≤ 1000000) (hn : s.out.length < 4000000)
    (hk : t.kind = 3) (hop : opB t.text.toList = true) (hr : s.regs.length < 64) :
    Calls Tryd.prog 41 #[.pointer (some ⟨yb, 0, none⟩), .int .i64 i] w (Res X w yb lv (tokF i t s)) := by
  have hx : tokF i t s = .ok { s with regs := ⟨t.text, s.first, i⟩ :: s.regs, out := s.out ++ [t] } := by unfold tokF tokF1; rw [if_pos hk, if_pos hop, if_neg (by omega)]
  rw [hx]
  have hlt : i < ts.length := (List.getElem?_eq_some_iff.1 hi).1
  obtain ⟨g, cap, hlv, hg, k0, k1, k2, k3, k4⟩ := hl.tok hi
  have hb0 := (Below.refl w.heap.size w).alloc (Nat.le_refl _) (.cells t.cs.toArray 32)
  have hL0 := h.more hb0 w.heap.size (Nat.le_refl _) (by simp)
  have hbl : Bl (w.alloc (.cells t.cs.toArray 32)) w.heap.size 32 t.cs := by simpa using Bl.new w 32 t.cs
  have c0 : w.cell? ⟨yb, 0, none⟩ = some lv := by
    obtain ⟨vo, vr, h1, _⟩ := h
    exact h1.cell 0
  have c3 : w.cell? ⟨yb, 3, none⟩ = some (.int .i64 s.first) := by
    obtain ⟨vo, vr, h1, _⟩ := h
    exact h1.cell 3
  have c3' := cell_alloc1 c3
  have HX := Lib.hid h.lt
  have co := open_ok _ _ yb lv s ⟨t.text, s.first, i⟩ (hL0.keep (Below.refl _ _).drew) hr
  clear hx hr
  obtain ⟨tk, tx, ta, tl, tc⟩ := t
  simp only [Tok.cs, Reg.cs] at k0 k1 k2 k3 k4 hb0 hL0 hbl hk hop co ⊢
  subst hlv
  have q2 : (0 : Int) ≤ (i : Int) := by omega
  have q3 : (i : Int) < (ts.length : Int) := by omega
  have HOP := Lib.hid hop
  have HL0 := Lib.hid hL0
  have HBL := Lib.hid hbl
  have HKW := Lib.hid (KX.below hb0 HX.out)
  have CO := Lib.hid co
  have hk3 : ((tk : Int) == 3) = true := by simp; omega
  clear hk co hop h hl hi hlt hL0 hbl hb0
  generalize ts.length = len at *
  go_enter Tryd.func41, Tryd.ntmps41
  go_wp2_with fail
  all_goals first
    | (exfalso
       have hP := HOP.out
       simp_all [opB, clB]
       done)
    | skip
  all_goals
    have hS : (fun w' : World => w'.cell? ⟨w.heap.size, 1, none⟩ = some (.string tx) ∧ w'.cell? ⟨yb, 3, none⟩ = some (.int .i64 s.first)) (w.alloc (.cells #[.int .i64 tk, .string tx, .int .i64 ta, .int .i64 tl, .int .i64 tc] 32)).drew := ⟨HBL.out.cell 1, c3' _⟩
    refine anyC_region (c := 8) (S := fun w' : World => w'.cell? ⟨w.heap.size, 1, none⟩ = some (.string tx) ∧ w'.cell? ⟨yb, 3, none⟩ = some (.int .i64 s.first)) (by kernel_rfl) ?_
    refine anyC_take0 (i := 0) (v := ?_) (some 23) (by rfl) rfl (by kernel_rfl) (by kernel_rfl) (by kernel_rfl) (fun _ _ _ h => h) (Or.inl ⟨by rfl, ?_⟩) (by decide) (Or.inr (by assumption)) ?_
    rotate_left
    · (intro w; go_simp; try with_reducible rfl)
    (try simp only [Act.put, List.setIfInBounds_toArray, List.set_cons_zero, List.set_cons_succ])
    refine anyC_take0 (i := 1) (v := ?_) (some 24) (by rfl) rfl (by kernel_rfl) (by kernel_rfl) (by kernel_rfl) (fun _ _ _ h => h) (Or.inl ⟨by rfl, ?_⟩) (by decide) (Or.inr (by assumption)) ?_
    rotate_left
    · (intro w; go_simp; try with_reducible rfl)
    (try simp only [Act.put, List.setIfInBounds_toArray, List.set_cons_zero, List.set_cons_succ])
    refine anyC_take (i := 2) (v := ?_) (some 25) (by rfl) rfl (by kernel_rfl) (by kernel_rfl) (by kernel_rfl) (by kernel_rfl) (by kernel_rfl) (fun _ _ _ h => h) (Or.inl ⟨by rfl, ?_⟩) (by assumption) ?_
    rotate_left
    · (intro w hSw; (try dsimp only at hSw); go_simp; try with_reducible rfl)
    (try simp only [Act.put, List.setIfInBounds_toArray, List.set_cons_zero, List.set_cons_succ])
    refine anyC_take0 (i := 3) (v := ?_) (some 26) (by rfl) rfl (by kernel_rfl) (by kernel_rfl) (by kernel_rfl) (fun _ _ _ h => h) (Or.inl ⟨by rfl, ?_⟩) (by decide) (Or.inr (by assumption)) ?_
    rotate_left
    · (intro w; go_simp; try with_reducible rfl)
    (try simp only [Act.put, List.setIfInBounds_toArray, List.set_cons_zero, List.set_cons_succ])
    refine anyC_take0 (i := 4) (v := ?_) (some 27) (by rfl) rfl (by kernel_rfl) (by kernel_rfl) (by kernel_rfl) (fun _ _ _ h => h) (Or.inl ⟨by rfl, ?_⟩) (by decide) (Or.inr (by assumption)) ?_
    rotate_left
    · (intro w; go_simp; try with_reducible rfl)
    (try simp only [Act.put, List.setIfInBounds_toArray, List.set_cons_zero, List.set_cons_succ])
    refine anyC_take0 (i := 5) (v := ?_) (some 28) (by rfl) rfl (by kernel_rfl) (by kernel_rfl) (by kernel_rfl) (fun _ _ _ h => h) (Or.inl ⟨by rfl, ?_⟩) (by decide) (Or.inr (by assumption)) ?_
    rotate_left
    · (intro w; go_simp; try with_reducible rfl)
    (try simp only [Act.put, List.setIfInBounds_toArray, List.set_cons_zero, List.set_cons_succ])
    refine anyC_take (i := 6) (v := ?_) (some 29) (by rfl) rfl (by kernel_rfl) (by kernel_rfl) (by kernel_rfl) (by kernel_rfl) (by kernel_rfl) (fun _ _ _ h => h) (Or.inl ⟨by rfl, ?_⟩) (by assumption) ?_
    rotate_left
    · (intro w hSw; (try dsimp only at hSw); go_simp; try with_reducible rfl)
    (try simp only [Act.put, List.setIfInBounds_toArray, List.set_cons_zero, List.set_cons_succ])
    refine anyC_take0 (i := 7) (v := ?_) (some 30) (by rfl) rfl (by kernel_rfl) (by kernel_rfl) (by kernel_rfl) (fun _ _ _ h => h) (Or.inl ⟨by rfl, ?_⟩) (by decide) (Or.inr (by assumption)) ?_
    rotate_left
    · (intro w; go_simp; try with_reducible rfl)
    (try simp only [Act.put, List.setIfInBounds_toArray, List.set_cons_zero, List.set_cons_succ])
    refine anyC_one (i := 8) (by kernel_rfl) rfl (by rfl) (fun K hK => ?_)
    go_simp
    refine hK.out _ _ (.inl rfl) ?_
    clear hK K
    refine anyC_one (i := 9) (by kernel_rfl) rfl (by rfl) (fun K hK => ?_)
    go_simp
    refine CO.out.mono ?_
    rintro e W ⟨rfl, hL, hKK⟩
    have hbx := hKK.bl (.inr rfl) HBL.out
    have HKK := Lib.hid hKK
    clear hKK CO
    refine hK.out _ _ (.inr (.inl (by kernel_rfl))) ?_
    apply anyC_end
    rotate_left
    · kernel_rfl
    clear hK K hS
    go_wp2_with fail
    obtain ⟨s1, hs1⟩ : ∃ s1 : LS, s1 = { s with regs := ⟨tx, s.first, i⟩ :: s.regs } := ⟨_, rfl⟩
    rw [← hs1] at hL
    have HS1 := Lib.hid hs1
    have hl1 : s1.out.length < 4000000 := by rw [hs1]; exact hn
    clear hs1
    generalize hbxe : w.heap.size = bx at *
    obtain ⟨vo, vr, h1, h2, h3, h4⟩ := hL
    obtain ⟨i0, hi0, hz0, hz1, hz2⟩ := info_parts Tryd.info32
    have c1 : W.cell? ⟨yb, 1, none⟩ = some vo := h1.cell 1
    have f2 : ∀ o : Obj, (W.alloc o).frozen? ⟨yb, 1, none⟩ = false := fun o => (h1.alloc o).froz 1
    have b0 : W.cell? ⟨bx, 0, none⟩ = some (.int .i64 tk) := hbx.cell 0
    have b1 : W.cell? ⟨bx, 1, none⟩ = some (.string tx) := hbx.cell 1
    have b2 : W.cell? ⟨bx, 2, none⟩ = some (.int .i64 ta) := hbx.cell 2
    have b3 : W.cell? ⟨bx, 3, none⟩ = some (.int .i64 tl) := hbx.cell 3
    have b4 : W.cell? ⟨bx, 4, none⟩ = some (.int .i64 tc) := hbx.cell 4
    have ly := h1.lt
    have lb := hbx.lt
    have ao := Bl.row_apart h2 h1 (by decide)
    have ab : vo.ownBlock ≠ some bx := (h4 bx (.inr rfl)).2.2.1
    have HBX := Lib.hid hbx
    clear hbx
    have hS : (fun w' : World => w'.cell? ⟨yb, 1, none⟩ = some vo ∧ w'.cell? ⟨bx, 0, none⟩ = some (.int .i64 tk) ∧ w'.cell? ⟨bx, 1, none⟩ = some (.string tx) ∧ w'.cell? ⟨bx, 2, none⟩ = some (.int .i64 ta) ∧ w'.cell? ⟨bx, 3, none⟩ = some (.int .i64 tl) ∧ w'.cell? ⟨bx, 4, none⟩ = some (.int .i64 tc)) W.drew := ⟨c1, b0, b1, b2, b3, b4⟩
    refine anyC_region (c := 10) (S := fun w' : World => w'.cell? ⟨yb, 1, none⟩ = some vo ∧ w'.cell? ⟨bx, 0, none⟩ = some (.int .i64 tk) ∧ w'.cell? ⟨bx, 1, none⟩ = some (.string tx) ∧ w'.cell? ⟨bx, 2, none⟩ = some (.int .i64 ta) ∧ w'.cell? ⟨bx, 3, none⟩ = some (.int .i64 tl) ∧ w'.cell? ⟨bx, 4, none⟩ = some (.int .i64 tc)) (by kernel_rfl) ?_
    refine anyC_take0 (i := 0) (v := ?_) (some 40) (by rfl) rfl (by kernel_rfl) (by kernel_rfl) (by kernel_rfl) (fun _ _ _ h => h) (Or.inl ⟨by rfl, ?_⟩) (by decide) (Or.inr (by assumption)) ?_
    rotate_left
    · (intro w; go_simp; try with_reducible rfl)
    (try simp only [Act.put, List.setIfInBounds_toArray, List.set_cons_zero, List.set_cons_succ])
    refine anyC_take0 (i := 1) (v := ?_) (some 41) (by rfl) rfl (by kernel_rfl) (by kernel_rfl) (by kernel_rfl) (fun _ _ _ h => h) (Or.inl ⟨by rfl, ?_⟩) (by decide) (Or.inr (by assumption)) ?_
    rotate_left
    · (intro w; go_simp; try with_reducible rfl)
    (try simp only [Act.put, List.setIfInBounds_toArray, List.set_cons_zero, List.set_cons_succ])
    refine anyC_take0 (i := 2) (v := ?_) (some 42) (by rfl) rfl (by kernel_rfl) (by kernel_rfl) (by kernel_rfl) (fun _ _ _ h => h) (Or.inl ⟨by rfl, ?_⟩) (by decide) (Or.inr (by assumption)) ?_
    rotate_left
    · (intro w; go_simp; try with_reducible rfl)
    (try simp only [Act.put, List.setIfInBounds_toArray, List.set_cons_zero, List.set_cons_succ])
    refine anyC_take0 (i := 3) (v := ?_) (some 43) (by rfl) rfl (by kernel_rfl) (by kernel_rfl) (by kernel_rfl) (fun _ _ _ h => h) (Or.inl ⟨by rfl, ?_⟩) (by decide) (Or.inr (by assumption)) ?_
    rotate_left
    · (intro w; go_simp; try with_reducible rfl)
    (try simp only [Act.put, List.setIfInBounds_toArray, List.set_cons_zero, List.set_cons_succ])
    refine anyC_take (i := 4) (v := ?_) (some 44) (by rfl) rfl (by kernel_rfl) (by kernel_rfl) (by kernel_rfl) (by kernel_rfl) (by kernel_rfl) (fun _ _ _ h => h) (Or.inl ⟨by rfl, ?_⟩) (by assumption) ?_
    rotate_left
    · (intro w hSw; (try dsimp only at hSw); go_simp; try with_reducible rfl)
    (try simp only [Act.put, List.setIfInBounds_toArray, List.set_cons_zero, List.set_cons_succ])
    refine anyC_take (i := 5) (v := ?_) (some 45) (by rfl) rfl (by kernel_rfl) (by kernel_rfl) (by kernel_rfl) (by kernel_rfl) (by kernel_rfl) (fun _ _ _ h => h) (Or.inl ⟨by rfl, ?_⟩) (by assumption) ?_
    rotate_left
    · (intro w hSw; (try dsimp only at hSw); go_simp; try with_reducible rfl)
    (try simp only [Act.put, List.setIfInBounds_toArray, List.set_cons_zero, List.set_cons_succ])
    refine anyC_one (i := 6) (by kernel_rfl) rfl (by rfl) (fun K hK => ?_)
    go_simp
    refine hK.out _ _ (.inr (.inr ?_)) ?_
    · exact ⟨cell_alloc1 c1 _, cell_alloc1 b0 _, cell_alloc1 b1 _, cell_alloc1 b2 _, cell_alloc1 b3 _, cell_alloc1 b4 _⟩
    clear hK K hS
    refine anyC_one (i := 7) (by kernel_rfl) rfl (by rfl) (fun K hK => ?_)
    refine wp_append_lies _ _ _ _ (by rfl) 0 32 i0 _ 5 48 Tryd.underlying23 hi0 hz0 hz1 hz2 rfl (by omega) vo s1.out.length (tcs s1.out) (by rfl) ((h2.alloc _).drew) ⟨W.heap.size, 0, none⟩ 1 1 (Tok.cs ⟨tk, tx, ta, tl, tc⟩) (by rfl) (by rfl) (World.news_of_block (cs := (Tok.cs ⟨tk, tx, ta, tl, tc⟩).toArray) (t := 32) (fr := (0, 0)) (heap1 _ _)) (Tok.one _) (by omega) (by unfold maxLen; omega) (by omega) (Nat.zero_le _) (W.heap.size + 1) (by simp) ?_
    intro gg cap w1 hown1 hgrow hat hlt'
    have hS1 : (fun w' : World => w'.cell? ⟨yb, 1, none⟩ = some vo ∧ w'.cell? ⟨bx, 0, none⟩ = some (.int .i64 tk) ∧ w'.cell? ⟨bx, 1, none⟩ = some (.string tx) ∧ w'.cell? ⟨bx, 2, none⟩ = some (.int .i64 ta) ∧ w'.cell? ⟨bx, 3, none⟩ = some (.int .i64 tl) ∧ w'.cell? ⟨bx, 4, none⟩ = some (.int .i64 tc)) w1 := by
      refine ⟨?_, ?_, ?_, ?_, ?_, ?_⟩
      · rw [hgrow.cell_far _ (by simp; omega) (Ne.symm ao)]; exact cell_alloc1 c1 _
      · rw [hgrow.cell_far _ (by simp; omega) (Ne.symm ab)]; exact cell_alloc1 b0 _
      · rw [hgrow.cell_far _ (by simp; omega) (Ne.symm ab)]; exact cell_alloc1 b1 _
      · rw [hgrow.cell_far _ (by simp; omega) (Ne.symm ab)]; exact cell_alloc1 b2 _
      · rw [hgrow.cell_far _ (by simp; omega) (Ne.symm ab)]; exact cell_alloc1 b3 _
      · rw [hgrow.cell_far _ (by simp; omega) (Ne.symm ab)]; exact cell_alloc1 b4 _
    have k1 : w1.cell? ⟨yb, 1, none⟩ = some vo := hS1.1
    have e1 : w1.frozen? ⟨yb, 1, none⟩ = false := by
      rw [hgrow.frozen_far _ (by simp; omega) (Ne.symm ao)]; exact f2 _
    refine hK.out _ _ (.inr (.inr hS1)) ?_
    clear hK K
    (try simp only [Act.put, List.setIfInBounds_toArray, List.set_cons_zero, List.set_cons_succ])
    refine anyC_take0 (i := 8) (v := ?_) (some 48) (by rfl) rfl (by kernel_rfl) (by kernel_rfl) (by kernel_rfl) (fun _ _ _ h => h) (Or.inl ⟨by rfl, ?_⟩) (by decide) (Or.inr (by assumption)) ?_
    rotate_left
    · (intro w; go_simp; try with_reducible rfl)
    (try simp only [Act.put, List.setIfInBounds_toArray, List.set_cons_zero, List.set_cons_succ])
    refine anyC_take0 (i := 9) (v := ?_) (some 49) (by rfl) rfl (by kernel_rfl) (by kernel_rfl) (by kernel_rfl) (fun _ _ _ h => h) (Or.inl ⟨by rfl, ?_⟩) (by decide) (Or.inr (by assumption)) ?_
    rotate_left
    · (intro w; go_simp; try with_reducible rfl)
    (try simp only [Act.put, List.setIfInBounds_toArray, List.set_cons_zero, List.set_cons_succ])
    refine anyC_one (i := 10) (by kernel_rfl) rfl (by rfl) (fun K hK => ?_)
    go_simp
    refine hK.out _ _ (.inl rfl) ?_
    apply anyC_end
    rotate_left
    · kernel_rfl
    go_wp2
    go_end0
    obtain ⟨r1, r2⟩ := LR.put_close (X := fun b => X b ∨ b = bx) (t := ⟨tk, tx, ta, tl, tc⟩) (H := W.heap.size + 1) h1 h2 h3 h4 ((Below.refl W.heap.size W).alloc (Nat.le_refl _) (.cells (Tok.cs ⟨tk, tx, ta, tl, tc⟩).toArray 32)).drew hgrow hown1 hat (by omega)
    have e1 := HS1.out
    subst e1
    exact ⟨rfl, r1.mono (fun _ hk => .inl hk), HKW.out.trans ((((KX.refl _ _).drew.trans HKK.out).mono (fun _ hk => .inl hk)).trans (r2.mono (fun _ hk => .inl hk)))⟩
end Go.Proofs.YtpgcklpcohcchaaDoor
