/- Full names: of a class inside of an object. -/
import Derived.Test.YtkjjieloncdjhaaGreatDoorC1
namespace Go.Proofs.YtkjjieloncdjhaaGreatDoor
open Go Go.RowKit Go.Shelf
attribute [local go_sem] Oper.semAt_some

theorem Bl.own {β : Type} (g t : Nat) (l : List Value) : Own (fun (_ : β) W => Bl W g t l) := fun s A B row hs hg hr => hs.grown hg (fun e => by
  obtain ⟨o, ho, hc⟩ := hr _ e.symm
  rw [show A.heap[g]? = _ from hs] at ho
  cases ho
  cases hc)
theorem infoStr : (Tryz.prog.info? 9).map (fun i => (i.zero, i.size, i.bytes)) = some (some (.string ⟨#[]⟩), 1, 16) := by kernel_rfl

abbrev Around1 : Type := { x : Int // x ∈ chain [-1, -1, 1] 3 2 }
theorem Around1.one (x : Around1) : x.1 = 1 := by
  have e : ∀ y : Int, y ∈ chain [-1, -1, 1] 3 2 → y = 1 := by
    intro y hy
    have e1 : chain [-1, -1, 1] 3 2 = [1] := by decide
    rw [e1] at hy
    simpa using hy
  exact e x.1 x.2

theorem str_one (s : ByteArray) : ∀ u ∈ [Value.string s], u.oneCell' = true := by
  intro u hu
  simp at hu
  subst hu
  rfl

theorem join_two : Lib.join ([nmBh, nmC].map (·.data.toList)) [46] = [66, 35, 46, 67] := by decide +kernel

/-- The two names, turned round. -/
theorem reverse_two (g c : Nat) (w : World) (base : Nat) (h : w.ownsRow base 9 1 (.slice (some ⟨g, 0, none⟩) 2 c) 2 [.string nmC, .string nmBh]) :
    Calls Tryz.prog 54 #[.slice (some ⟨g, 0, none⟩) 2 c] w fun e w' => e = .returned (.tuple #[]) ∧ ∃ q, w' = ((w.drewN q).setCell ⟨g, 0, none⟩ (.string nmBh)).setCell ⟨g, 1, none⟩ (.string nmC) := by
  have c0 : w.cell? ⟨g, 0, none⟩ = some (.string nmC) := h.cellAt 0 (by omega)
  have c1 : w.cell? ⟨g, 1, none⟩ = some (.string nmBh) := h.cellAt 1 (by omega)
  refine (Tryz.slices_Reverse_string_cells g 0 2 c (fun i => if i = 0 then nmC else nmBh) w (by omega) ?_ ?_).mono ?_
  · intro i hi
    match i, hi with
    | 0, _ => exact c0
    | 1, _ => exact c1
  · intro j _
    exact h.frozenAt _
  · rintro e w' ⟨rfl, q, rfl⟩
    exact ⟨rfl, q, rfl⟩

/-- The names so far. -/
def namesL (n : Nat) : List Value := .string nmC :: List.replicate n (.string nmBh)

set_option maxRecDepth 100000 in
set_option maxHeartbeats 8000000 in
theorem fullName_in (n : Nat) (hn : 4 ≤ n) (b c pa pb pc : Nat) (nm : ByteArray) (w : World) (h : PW w b nm pa pb pc) :
    CallsIn Fence.wide n Tryz.prog 26 #[prgV b c, i64 2] w fun e W' => e = .returned (.tuple #[.string ⟨#[66, 35, 46, 67]⟩, i64 0]) ∧ Below w.heap.size w W' := by
  have h1 : 1 ≤ n := by omega
  obtain ⟨i0, hi0, hz0, hz1, hz2⟩ := info_parts infoStr
  have H := Lib.hid h
  obtain ⟨h0, h1', h2, h3, h4, h5, h6, h7, h8, h9, h10, h11, h12⟩ := h.c2
  have hb := h.hb
  have hne : ¬ b = w.heap.size := by omega
  clear h
  refine callsIn_of_wp_marks Tryz.func26 rfl trivial ?_ rfl
  simp only [Tryz.ntmps26, List.size_toArray, List.length_cons, List.length_nil, Nat.reduceAdd, Nat.reduceSub, Array.replicate_succ, Array.replicate_zero, List.push_toArray, List.append_toArray, List.nil_append, List.cons_append]
  gi_wp2_with fail
  refine ⟨trivial, (exists_in _ _ _ _ _ true (by decide) _).mono ?_⟩
  rintro e w' ⟨rfl, rfl⟩
  gi_wp2_with fail
  refine ⟨trivial, (callsIn_wide.2 (nameOf_C _ _ _)).mono ?_⟩
  rintro e w1 ⟨rfl, hB⟩
  have F1 := Lib.hid (((Frs.nil w).snoc (by simp) 30 (prgL b c)).below hB)
  have hsz : w.heap.size + 1 ≤ w1.heap.size := F1.out.size
  obtain ⟨p0, p1, p2, p3, p4, p5⟩ := (Frs.c0 F1.out).six
  have hlt : w.heap.size < w1.heap.size := by omega
  have hlt1 : w.heap.size < w1.heap.size + 1 := by omega
  have hne1 : ¬ w.heap.size = w1.heap.size := by omega
  have hne2 : ¬ w.heap.size = w1.heap.size + 1 := by omega
  clear hB h0 h1' h2 h3 h4 h5 h6 h7 h8 h9 h10 h11 h12 hb hne
  gi_wp2_with fail
  refine ⟨trivial, (around_in _ _ _ _).mono ?_⟩
  rintro e w' ⟨rfl, rfl⟩
  gi_wp2_with fail
  obtain ⟨A1, hA1⟩ : ∃ A1 : World, A1 = w1.alloc (.cells #[.string nmC] 9) := ⟨_, rfl⟩
  obtain ⟨A2, hA2⟩ : ∃ A2 : World, A2 = A1.alloc (.cells #[.slice (some ⟨w1.heap.size, 0, none⟩) 1 1] 96) := ⟨_, rfl⟩
  obtain ⟨A3, hA3⟩ : ∃ A3 : World, A3 = A2.alloc (.cells #[.slice (some ⟨b, 0, none⟩) 3 c, nilS, nilS, nilS, nilS, i64 (-1)] 30) := ⟨_, rfl⟩
  obtain ⟨A4, hA4⟩ : ∃ A4 : World, A4 = A3.alloc (.cells #[.int .i64 2] 3) := ⟨_, rfl⟩
  have z1 : A1.heap.size = w1.heap.size + 1 := by rw [hA1]; simp
  have z2 : A2.heap.size = w1.heap.size + 1 + 1 := by rw [hA2]; simp [z1]
  have z3 : A3.heap.size = w1.heap.size + 1 + 1 + 1 := by rw [hA3]; simp [z2]
  have z4 : A4.heap.size = w1.heap.size + 1 + 1 + 1 + 1 := by rw [hA4]; simp [z3]
  have ro : A4.ownsRow w.heap.size 9 1 (.slice (some ⟨w1.heap.size, 0, none⟩) 1 1) 1 (namesL 0) := by
    have := World.ownsRow_lit (base := w.heap.size) (e := 9) (size := 1) w1 #[.string nmC] 1 (by omega) (by unfold maxLen; omega) rfl
    rw [← hA1] at this
    rw [hA4, hA3, hA2]
    exact ((this.alloc _).alloc _).alloc _
  have bx : Boxed A4 (w1.heap.size + 1) 96 (.slice (some ⟨w1.heap.size, 0, none⟩) 1 1) := by
    have := Boxed.new A1 96 (.slice (some ⟨w1.heap.size, 0, none⟩) 1 1)
    rw [z1, ← hA2] at this
    rw [hA4, hA3]
    exact (this.alloc _).alloc _
  have bp : Bl A4 (w1.heap.size + 1 + 1) 30 (prgL b c) := by
    have := Bl.new A2 30 (prgL b c)
    change Bl (A2.alloc (.cells #[.slice (some ⟨b, 0, none⟩) 3 c, nilS, nilS, nilS, nilS, i64 (-1)] 30)) _ _ _ at this
    rw [z2, ← hA3] at this
    rw [hA4]
    exact this.alloc _
  have ba : A4.cell? ⟨w1.heap.size + 1 + 1 + 1, 0, none⟩ = some (.int .i64 2) := by
    have := cell_new_l A3 (.int .i64 2) 3
    rw [z3, ← hA4] at this
    exact this.1
  have FA : Frs w A4 [(30, prgL b c)] := by
    rw [hA4, hA3, hA2, hA1]
    exact (((F1.out.alloc _).alloc _).alloc _).alloc _
  rw [← hA1, ← hA2, ← hA3, ← hA4]
  clear hA1 hA2 hA3 hA4 z1 z2 z3 F1 p0 p1 p2 p3 p4 p5
  refine wpIn_rangeFunc_ownF (F := Fence.wide) (w := A4) (w0 := A4) rfl h1 (gf := 77) (lb := #[.pointer (some ⟨w1.heap.size + 1 + 1 + 1, 0, none⟩), .pointer (some ⟨w1.heap.size + 1 + 1, 0, none⟩)]) rfl trivial (enters_of Tryz.func77 (by kernel_rfl) rfl)
    (around_sub (n - 1) (by omega) (w1.heap.size + 1 + 1 + 1) (w1.heap.size + 1 + 1) w.heap.size b c [-1, -1, 1] 2 nilS nilS nilS nilS (i64 (-1)) (by decide) A4 (by omega) (by omega) (by omega) ba bp (H.out.ows.below FA.be)) (fun h k => h.t k) (Kp.b (by omega) (by omega)) (Below.refl _ _) (fun _ => rfl)
    (fun pre W => ((∃ v, Boxed W (w1.heap.size + 1) 96 v ∧ W.ownsRow w.heap.size 9 1 v (1 + pre.length) (namesL pre.length) ∧ True) ∧ Bl W w.heap.size 30 (prgL b c) ∧ Bl W (w1.heap.size + 1 + 1) 30 (prgL b c)) ∧ Below w.heap.size w W)
    (fun _ _ _ => False)
    (OwnFrom.and (OwnFrom.and (Own.from (holdsRow_own w.heap.size (w1.heap.size + 1) 96 9 1 (fun pre : List Around1 => 1 + pre.length) (fun pre => namesL pre.length) (fun _ _ => True)) _) (OwnFrom.and (Own.from (Bl.own _ _ _) _) (Own.from (Bl.own _ _ _) _))) (ownFrom_below (Nat.le_refl _) (by omega)))
    (fun _ _ _ _ _ hs _ _ => hs)
    ⟨⟨⟨_, bx, ro, trivial⟩, FA.c0, bp⟩, FA.be⟩
    (fun x => { tmps := #[prgV b c, i64 2, .pointer (some ⟨w.heap.size, 0, none⟩), undef, .string ⟨#[]⟩, .int .i64 0, .pointer (some ⟨w1.heap.size + 1, 0, none⟩), .int .i64 x.1, .pointer (some ⟨w.heap.size, 0, none⟩), .slice (some ⟨b, 0, none⟩) 3 c, i64 2, .bool true, .bool false, .pointer (some ⟨w.heap.size, 0, none⟩), .slice (some ⟨b, 0, none⟩) 3 c, i64 2, .pointer (some ⟨b, 26, none⟩), .agg #[.string nmC, i64 0, i64 0, i64 1, nilS, sl pc 1, nilS, nilS, nilS, nilS, nilS, nilS, i64 0], .string nmC, .slice (some ⟨w1.heap.size, 0, none⟩) 1 1, .agg #[.slice (some ⟨b, 0, none⟩) 3 c, nilS, nilS, nilS, nilS, i64 (-1)], i64 2, .func (.func 77) #[] #[.pointer (some ⟨w1.heap.size + 1 + 1 + 1, 0, none⟩), .pointer (some ⟨w1.heap.size + 1 + 1, 0, none⟩)], .int .i64 x.1, undef, undef, undef, undef, undef, undef, undef, undef, undef, undef, undef, undef, undef, undef, undef, undef, undef, undef, undef], defers := [] }) ?assign ?body ?done ?stop
  case assign =>
    intro l x W K hK
    gi_wp2
    exact hK
  case body =>
    rintro l pre ⟨x, hx⟩ W ⟨⟨⟨v, hv, hrow, _⟩, hbl, hbq⟩, hB⟩ hlen
    have hp0 : pre.length = 0 := by
      have e1 : (chain [-1, -1, 1] 3 2).length = 1 := by decide
      have h2' : pre.length < (chain [-1, -1, 1] 3 2).length := hlen
      omega
    obtain rfl : pre = [] := List.eq_nil_of_length_eq_zero hp0
    clear hp0 hlen
    change W.ownsRow w.heap.size 9 1 v 1 (namesL 0) at hrow
    obtain rfl : x = 1 := Around1.one ⟨x, hx⟩
    have hmx : Tryz.prog.follows .mixedOrders = true := by kernel_rfl
    have hd : 1 ≤ n - 1 - 1 := by omega
    obtain ⟨h0, h1', h2, h3, h4, h5, h6, h7, h8, h9, h10, h11, h12⟩ := (H.out.below hB).c1
    obtain ⟨p0, p1, p2, p3, p4, p5⟩ := hbl.six
    have hc := hv.cell
    gi_wp2_with fail
    refine wpIn_region_any hmx (wpAnyIn_of l _ (fun ⟨_, _, k⟩ => k) (by kernel_rfl) _ _ _ _ (anyC.all (c := 8) (S := fun w' => w'.cell? ⟨w1.heap.size + 1, 0, none⟩ = some v) ?_))
    change anyC _ _ _ _ _ _ _ _ W.drew
    have hS0 : (fun w' : World => w'.cell? ⟨w1.heap.size + 1, 0, none⟩ = some v) W.drew := hc
    refine anyC_take (i := 0) (v := ?_) (some 24) (by rfl) rfl (by kernel_rfl) (by kernel_rfl) (by kernel_rfl) (by kernel_rfl) (by kernel_rfl) (fun _ _ _ h => h) (Or.inl ⟨by rfl, ?_⟩) (by assumption) ?_
    rotate_left
    · (intro w hSw; (try dsimp only at hSw); go_simp; try with_reducible rfl)
    (try simp only [Act.put, List.setIfInBounds_toArray, List.set_cons_zero, List.set_cons_succ])
    refine anyC_take0 (i := 1) (v := ?_) (some 25) (by rfl) rfl (by kernel_rfl) (by kernel_rfl) (by kernel_rfl) (fun _ _ _ h => h) (Or.inl ⟨by rfl, ?_⟩) (by decide) (Or.inr (by assumption)) ?_
    rotate_left
    · (intro w; go_simp; try with_reducible rfl)
    (try simp only [Act.put, List.setIfInBounds_toArray, List.set_cons_zero, List.set_cons_succ])
    refine anyC_take0 (i := 3) (v := ?_) (some 27) (by rfl) rfl (by kernel_rfl) (by kernel_rfl) (by kernel_rfl) (fun _ _ _ h => h) (Or.inl ⟨by rfl, ?_⟩) (by decide) (Or.inr (by assumption)) ?_
    rotate_left
    · (intro w; go_simp; try with_reducible rfl)
    (try simp only [Act.put, List.setIfInBounds_toArray, List.set_cons_zero, List.set_cons_succ])
    refine anyC_one (i := 2) (by kernel_rfl) rfl (by rfl) (fun K hK => ?_)
    go_simp
    refine hK.out _ _ (.inr (.inr hS0)) ?_
    clear hK K
    (try simp only [Act.put, List.setIfInBounds_toArray, List.set_cons_zero, List.set_cons_succ])
    refine anyC_one (i := 4) (by kernel_rfl) rfl (by rfl) (fun K hK => ?_)
    go_simp
    refine hK.out _ _ (.inr (.inr hS0)) ?_
    clear hK K
    (try simp only [Act.put, List.setIfInBounds_toArray, List.set_cons_zero, List.set_cons_succ])
    refine anyC_one (i := 5) (by kernel_rfl) rfl (by rfl) (fun K hK => ?_)
    go_simp
    refine hK.out _ _ (.inr (.inr hS0)) ?_
    clear hK K
    (try simp only [Act.put, List.setIfInBounds_toArray, List.set_cons_zero, List.set_cons_succ])
    refine anyC_one (i := 6) (by kernel_rfl) rfl (by rfl) (fun K hK => ?_)
    go_simp
    refine (nameOf_B _ _ _).mono ?_
    rintro e w2 ⟨rfl, hB2⟩
    have hS2 : (fun w' : World => w'.cell? ⟨w1.heap.size + 1, 0, none⟩ = some v) w2 := (hB2.cell (p := ⟨w1.heap.size + 1, 0, none⟩) hv.lt).trans hc
    have hv2 : Boxed w2 (w1.heap.size + 1) 96 v := (hB2.block _ hv.lt).trans hv
    have hr2 : w2.ownsRow w.heap.size 9 1 v 1 (namesL 0) := hrow.kept (row := none) ⟨hB2.os, hB2.tape, hB2.output, hB2.size, fun k hk _ => hB2.block k hk⟩ (by cases hq : v.ownBlock <;> simp)
    refine hK.out _ _ (.inr (.inr hS2)) ?_
    clear hK K
    (try simp only [Act.put, List.setIfInBounds_toArray, List.set_cons_zero, List.set_cons_succ])
    refine anyC_one (i := 7) (by kernel_rfl) rfl (by rfl) (fun K hK => ?_)
    go_simp
    refine hK.out _ _ (.inr (.inr (cell_alloc_l _ hS2))) ?_
    clear hK K
    (try simp only [Act.put, List.setIfInBounds_toArray, List.set_cons_zero, List.set_cons_succ])
    refine anyC_one (i := 8) (by kernel_rfl) rfl (by rfl) (fun K hK => ?_)
    have hsz2 : w.heap.size ≤ w2.heap.size := Nat.le_trans hB.size hB2.size
    refine wp_append_own _ _ _ _ (by rfl) w.heap.size 9 i0 _ 1 16 Tryz.underlying96 hi0 hz0 hz1 hz2 rfl (by omega) v 1 (namesL 0) (by rfl) (hr2.alloc _) ⟨w2.heap.size, 0, none⟩ 1 1 [.string nmBh] (by rfl) (by rfl) (World.news_of_block (cs := #[.string nmBh]) (t := 9) (fr := (0, 0)) (Go.heap_alloc_new w2 _)) (str_one nmBh) (by unfold maxLen; omega) (by omega) (by simp; omega) ?_
    intro v' w3 hown3 hgrow3 _
    obtain ⟨hv3, hv4, hr4, hk4, hb4⟩ := hv2.appended (by decide) hr2 hsz2 (by omega) hown3 hgrow3
    have hc3 := hv3.cell
    have hf3 := hv3.frozen
    obtain ⟨g', cap', rfl⟩ := ownsRow_succ hown3
    refine hK.out _ _ (.inl rfl) ?_
    clear hK K
    (try simp only [Act.put, List.setIfInBounds_toArray])
    refine anyC_one (i := 9) (by kernel_rfl) rfl (by rfl) (fun K hK => ?_)
    go_simp
    refine hK.out _ _ (.inr (.inl (by rfl))) ?_
    apply anyC_end
    rotate_left
    · kernel_rfl
    have hbl2 : Bl w2 w.heap.size 30 (prgL b c) := hbl.drew.below hB2 hbl.lt
    have hbq2 : Bl w2 (w1.heap.size + 1 + 1) 30 (prgL b c) := hbq.drew.below hB2 hbq.lt
    have hbl3 := ((hbl2.alloc (.cells #[.string nmBh] 9)).grown hgrow3 (Ne.symm (Bl.row_apart (hr2.alloc (.cells #[.string nmBh] 9)) (hbl2.alloc _) (by decide)))).far (p := ⟨w1.heap.size + 1, 0, none⟩) (by simp; omega) (.slice (some ⟨g', 0, none⟩) 2 cap')
    have hbq3 := ((hbq2.alloc (.cells #[.string nmBh] 9)).grown hgrow3 (Ne.symm (Bl.row_apart (hr2.alloc (.cells #[.string nmBh] 9)) (hbq2.alloc _) (by decide)))).far (p := ⟨w1.heap.size + 1, 0, none⟩) (by simp) (.slice (some ⟨g', 0, none⟩) 2 cap')
    have hW2 : Below w.heap.size W w2 := ((Below.refl w.heap.size W).drew).trans (hB2.mono hB.size)
    have ko : KeepsOthers W w2 := ⟨hB2.size, fun k o hk _ => (hB2.block k (Array.getElem?_eq_some_iff.1 hk).1).trans hk⟩
    exact ⟨ko.trans hk4, ⟨hW2.trans hb4, hbq3.trans hbq.symm⟩, ⟨⟨_, hv4, hr4, trivial⟩, hbl3, hbq3⟩, hB.trans (hW2.trans hb4)⟩
  case done =>
    rintro D ys W hD hys ⟨⟨⟨v, hv, hrow, _⟩, hbl, hbq⟩, hB⟩ hK
    have hy1 : ys.length = 1 := by
      have e1 : (chain [-1, -1, 1] 3 2).length = 1 := by decide
      have h2' : (ys.map Subtype.val).length = (chain [-1, -1, 1] 3 2).length := congrArg List.length hys
      simpa [e1] using h2'
    rw [hy1] at hrow
    change W.ownsRow w.heap.size 9 1 v 2 [.string nmC, .string nmBh] at hrow
    obtain ⟨g, cap, rfl⟩ := ownsRow_succ hrow
    have hg := hrow.lt g rfl
    have hcapl : 2 ≤ cap := by
      rcases hrow.2 with ⟨h', _⟩ | ⟨g', cap', cur, h', _, _, hcc, _⟩
      · simp at h'
      · simp at h'
        omega
    have hc := hv.cell
    have hneg : w1.heap.size + 1 ≠ g := by
      intro e
      have := hv.not_row (by decide) hrow
      simp [Value.ownBlock, e] at this
    have hnp : w.heap.size ≠ g := by
      intro e
      have := Bl.row_apart hrow hbl (by decide)
      simp [Value.ownBlock] at this
      omega
    have hnD : D ≠ g := by
      intro e
      subst e
      have c0 : W.cell? ⟨D, 0, none⟩ = some (.string nmC) := hrow.cellAt 0 (by omega)
      simp [World.cell?, hK] at c0
    obtain ⟨p0, p1, p2, p3, p4, p5⟩ := hbl.six
    have HRow := Lib.hid hrow
    have HK := Lib.hid hK
    have HB := Lib.hid hB
    have HV := Lib.hid hv
    clear hrow hK hB hbq hys hy1
    gi_wp2_with fail
    refine ⟨trivial, (callsIn_wide.2 (reverse_two g cap _ _ HRow.out)).mono ?_⟩
    rintro e w2 ⟨rfl, q, rfl⟩
    have hv2 : Boxed (((W.drewN q).setCell ⟨g, 0, none⟩ (.string nmBh)).setCell ⟨g, 1, none⟩ (.string nmC)) (w1.heap.size + 1) 96 (.slice (some ⟨g, 0, none⟩) 2 cap) :=
      (Below.heap_setCell _ ⟨g, 1, none⟩ _ _ hneg).trans ((Below.heap_setCell _ ⟨g, 0, none⟩ _ _ hneg).trans HV.out)
    have hk2 : (((W.drewN q).setCell ⟨g, 0, none⟩ (.string nmBh)).setCell ⟨g, 1, none⟩ (.string nmC)).heap[D]? = some (.deferred (some [])) :=
      (Below.heap_setCell _ ⟨g, 1, none⟩ _ _ hnD).trans ((Below.heap_setCell _ ⟨g, 0, none⟩ _ _ hnD).trans HK.out)
    have hb2 : Below w.heap.size w (((W.drewN q).setCell ⟨g, 0, none⟩ (.string nmBh)).setCell ⟨g, 1, none⟩ (.string nmC)) :=
      ((show Below w.heap.size w (W.drewN q) from ⟨HB.out.os, HB.out.tape, HB.out.output, HB.out.size, HB.out.block⟩).setCell (p := ⟨g, 0, none⟩) hg.1 _).setCell (p := ⟨g, 1, none⟩) hg.1 _
    have x0 : (((W.drewN q).setCell ⟨g, 0, none⟩ (.string nmBh)).setCell ⟨g, 1, none⟩ (.string nmC)).cell? ⟨g, 0, none⟩ = some (.string nmBh) := by
      rw [World.cell?_setCell_other _ _ _ _ (by simp)]
      exact World.cell?_setCell_same' _ _ _ (by rw [show (W.drewN q).cell? ⟨g, 0, none⟩ = some (.string nmC) from HRow.out.cellAt 0 (by omega)]; rfl)
    have x1 : (((W.drewN q).setCell ⟨g, 0, none⟩ (.string nmBh)).setCell ⟨g, 1, none⟩ (.string nmC)).cell? ⟨g, 1, none⟩ = some (.string nmC) := by
      refine World.cell?_setCell_same' _ _ _ ?_
      rw [World.cell?_setCell_other _ _ _ _ (by simp), show (W.drewN q).cell? ⟨g, 1, none⟩ = some (.string nmBh) from HRow.out.cellAt 1 (by omega)]
      rfl
    have hgs : g < (((W.drewN q).setCell ⟨g, 0, none⟩ (.string nmBh)).setCell ⟨g, 1, none⟩ (.string nmC)).heap.size := by simpa [World.setCell] using hg.2
    have hDs : D < (((W.drewN q).setCell ⟨g, 0, none⟩ (.string nmBh)).setCell ⟨g, 1, none⟩ (.string nmC)).heap.size := (Array.getElem?_eq_some_iff.1 hk2).1
    generalize (((W.drewN q).setCell ⟨g, 0, none⟩ (.string nmBh)).setCell ⟨g, 1, none⟩ (.string nmC)) = w3 at *
    have hc3 := hv2.cell
    have X0 := Lib.hid x0
    have X1 := Lib.hid x1
    clear x0 x1 hc p0 p1 p2 p3 p4 p5
    gi_wp2_with fail
    refine ⟨trivial, (callsIn_wide.2 (Tryz.strings_Join g 0 cap [nmBh, nmC] ⟨#[46]⟩ _ ?hcells hgs (by decide) hcapl (by rw [show (⟨#[46]⟩ : ByteArray).data.toList = [46] from rfl, join_two]; decide))).mono ?_⟩
    case hcells =>
      intro j x hx
      match j, hx with
      | 0, hx =>
        simp at hx
        subst hx
        exact X0.out
      | 1, hx =>
        simp at hx
        subst hx
        exact X1.out
    rintro e w4 ⟨rfl, hB4⟩
    rw [show (⟨#[46]⟩ : ByteArray).data.toList = [46] from rfl, join_two]
    have hk4 : w4.heap[D]? = some (.deferred (some [])) := (hB4.block D hDs).trans hk2
    have hb4 := hb2.trans (hB4.mono hb2.size)
    clear hB4
    gi_wp2_with fail
    refine ⟨by simp, .inl ⟨_, _, rfl, run_takeDeferred hk4, ?_⟩⟩
    exact ⟨_, by simp [results, Tryz.f26, go_sem], rfl, hb4.trans (belowK_b (w := w) (Nat.le_refl _) _ D _ _ (by omega) hk4 rfl rfl)⟩
  case stop =>
    rintro D c pre W _ _ h _
    exact h.elim

theorem fullName_any (b c pa pb pc : Nat) (nm : ByteArray) (w : World) (h : PW w b nm pa pb pc) :
    Calls Tryz.prog 26 #[prgV b c, i64 2] w fun e W' => e = .returned (.tuple #[.string ⟨#[66, 35, 46, 67]⟩, i64 0]) ∧ Below w.heap.size w W' :=
  (callsIn_wide (n := 4)).1 (fullName_in 4 (by omega) b c pa pb pc nm w h)
end Go.Proofs.YtkjjieloncdjhaaGreatDoor
