/- The example of the statements. -/
import Derived.Test.YtkjjieloncdjhaaGreatDoorL19
import Derived.Test.YtkjjieloncdjhaaGreatDoorL20
import Derived.Test.YtkjjieloncdjhaaGreatDoorG5
namespace Go.Proofs.YtkjjieloncdjhaaGreatDoor
open Go Go.RowKit

/-- The blocks of the example. -/
abbrev awkL (n : Nat) : List (TypeId × List Value) := [(59, tyL), (59, tyL2), (59, tyL), (37, cl3 nmA n (n + 1) (n + 1 + 1)), (30, prgL (n + 1 + 1 + 1) 3)]

theorem Frs.awk {w0 w : World} (h : Frs w0 w (awkL w0.heap.size)) : PW w (w0.heap.size + 1 + 1 + 1) nmA w0.heap.size (w0.heap.size + 1) (w0.heap.size + 1 + 1) := by
  have h0 := h.bl 0 _ _ rfl
  have h1 := h.bl 1 _ _ rfl
  have h2 := h.bl 2 _ _ rfl
  have h3 := h.bl 3 _ _ rfl
  exact PW.of_cells h3.lt (fun j v e => (h3.cell j).trans e) h0 h1 h2
theorem Frs.awkP {w0 w : World} (h : Frs w0 w (awkL w0.heap.size)) : Bl w (w0.heap.size + 1 + 1 + 1 + 1) 30 (prgL (w0.heap.size + 1 + 1 + 1) 3) := h.bl 4 _ _ rfl
theorem Frs.awkC {w0 w : World} (h : Frs w0 w (awkL w0.heap.size)) : Bl w (w0.heap.size + 1 + 1 + 1) 37 (cl3 nmA w0.heap.size (w0.heap.size + 1) (w0.heap.size + 1 + 1)) := h.bl 3 _ _ rfl

theorem own_three {W : World} {base : Nat} {e : TypeId} {size : Nat} {v : Value} {xs : List Value} (h : W.ownsRow base e size v 3 xs) : ∃ g cap, v = .slice (some ⟨g, 0, none⟩) 3 cap ∧ base ≤ g ∧ g < W.heap.size := by
  rcases h.2 with ⟨_, h0⟩ | ⟨g, cap, _, rfl, hb, hg, _⟩
  · omega
  · exact ⟨g, cap, rfl, hb, (Array.getElem?_eq_some_iff.1 hg).1⟩

theorem fld2 (w : World) : (Instr.field 55 (.agg #[i64 1, i64 0, i64 21]) 2).run Tryz.prog w = .ok (i64 21) w := by kernel_rfl

theorem eq_x (W : World) (g : Nat) (h : W.cell? ⟨g, 0, none⟩ = some (i64 0)) : ∀ j, j < [(0 : Int)].length → (W.alloc (.cells #[i64 0] 3)).cell? ⟨g, 0 + j, none⟩ = some (.int .i64 ([(0 : Int)].getD j 0)) := by
  intro j hj
  have hj0 : j = 0 := by simpa using hj
  subst hj0
  have hg : g < W.heap.size := by
    by_cases hlt : g < W.heap.size
    · exact hlt
    · have hn : W.heap[g]? = none := Array.getElem?_eq_none (by omega)
      unfold World.cell? at h
      simp [hn] at h
  exact (((Below.refl W.heap.size W).alloc (Nat.le_refl _) _).cell (p := ⟨g, 0, none⟩) hg).trans h
theorem eq_y (W : World) : ∀ j, j < [(0 : Int)].length → (W.alloc (.cells #[i64 0] 3)).cell? ⟨W.heap.size, 0 + j, none⟩ = some (.int .i64 ([(0 : Int)].getD j 0)) := by
  intro j hj
  have hj0 : j = 0 := by simpa using hj
  subst hj0
  exact (Bl.new W 3 [i64 0]).cell 0

/-- What the world before the last expression holds. -/
structure AwkW (w w1 W : World) (g cap : Nat) : Prop where
  fr : Frs w W (awkL w.heap.size)
  be : Below w.heap.size w W
  sz : w1.heap.size < W.heap.size
  q : Bl W w1.heap.size 30 (prgL g cap)
  pw : PW W g ⟨#[]⟩ w.heap.size (w.heap.size + 1) (w.heap.size + 1 + 1)

theorem AwkW.below {w w1 W W' : World} {g cap : Nat} (h : AwkW w w1 W g cap) (hB : Below W.heap.size W W') : AwkW w w1 W' g cap :=
  ⟨h.fr.below hB, h.be.trans (hB.mono h.be.size), Nat.lt_of_lt_of_le h.sz hB.size, h.q.below hB h.q.lt, h.pw.below hB⟩
theorem AwkW.alloc {w w1 W : World} {g cap : Nat} (h : AwkW w w1 W g cap) (o : Obj) : AwkW w w1 (W.alloc o) g cap := h.below ((Below.refl _ _).alloc (Nat.le_refl _) _)

abbrev awkEnd (w1 w2 : World) (g cap : Nat) : World := (w2.setCell ⟨w1.heap.size, 0, none⟩ (.slice (some ⟨g, 0, none⟩) 3 cap)).setCell ⟨g, 0, none⟩ (.string ⟨#[]⟩)

theorem awk_world (w w1 w2 : World) (g cap : Nat) (F2 : Frs w w2 (awkL w.heap.size)) (_ : Below w1.heap.size w1 w2) (hw1 : w.heap.size + 1 + 1 + 1 + 1 < w1.heap.size)
    (hq : Bl w2 w1.heap.size 30 (prgL (w.heap.size + 1 + 1 + 1) 3)) (hown : w2.ownsRow (w1.heap.size + 1) 37 13 (.slice (some ⟨g, 0, none⟩) 3 cap) 3 (cl3 nmA w.heap.size (w.heap.size + 1) (w.heap.size + 1 + 1)))
    (hg : w1.heap.size + 1 ≤ g) (hgl : g < w2.heap.size) : AwkW w w1 (awkEnd w1 w2 g cap) g cap := by
  have hne : ((⟨w1.heap.size, 0, none⟩ : Addr).block) < w1.heap.size + 1 := by simp
  have o1 := (ownsRow_setCell_below hown hne (.slice (some ⟨g, 0, none⟩) 3 cap)).stored 0 (.string ⟨#[]⟩)
  have hBe : Below (w.heap.size + 1 + 1 + 1 + 1 + 1) w2 (awkEnd w1 w2 g cap) :=
    ((Below.refl _ _).setCell (p := ⟨w1.heap.size, 0, none⟩) (by simp; omega) _).setCell (p := ⟨g, 0, none⟩) (by simp; omega) _
  have hbl : ∀ i t l, (awkL w.heap.size)[i]? = some (t, l) → Bl (awkEnd w1 w2 g cap) (w.heap.size + i) t l := fun i t l hi => (F2.bl i t l hi).below hBe (by
    have := (List.getElem?_eq_some_iff.1 hi).1
    simp at this
    omega)
  have hsz : (awkEnd w1 w2 g cap).heap.size = w2.heap.size := by simp
  refine ⟨⟨by rw [hsz]; exact F2.size, hbl, F2.be.trans (hBe.mono (by omega))⟩, F2.be.trans (hBe.mono (by omega)), by rw [hsz]; omega, (hq.set 0 _).far (by simp; omega) _, ?_⟩
  refine PW.of_cells (by rw [hsz]; exact hgl) (fun j v e => ?_) (hbl 0 _ _ rfl) (hbl 1 _ _ rfl) (hbl 2 _ _ rfl)
  have hj : j < 3 * 13 := (List.getElem?_eq_some_iff.1 e).1
  exact (o1.1.cellAt j hj).trans e

set_option maxRecDepth 100000 in
set_option maxHeartbeats 8000000 in
theorem awake_any (w : World) : Calls Tryz.prog 10 #[] w fun e w' => e = .returned (.bool true) ∧ Below w.heap.size w w' := by
  have F := Lib.hid (((((((Frs.nil w).snoc (by simp) 59 tyL).snoc (by simp) 59 tyL2).snoc (by simp) 59 tyL)).snoc (by simp) 37 (cl3 nmA w.heap.size (w.heap.size + 1) (w.heap.size + 1 + 1))).snoc (by simp) 30 (prgL (w.heap.size + 1 + 1 + 1) 3))
  have hf2 := fld2
  go_enter Tryz.func10, Tryz.ntmps10
  go_wp2_with fail
  refine (fullName_any _ _ _ _ _ nmA _ F.out.awk).mono ?_
  rintro e w1 ⟨rfl, hB⟩
  have F1 := Lib.hid (F.out.below hB)
  clear hB F
  obtain ⟨p0, p1, p2, p3, p4, p5⟩ := F1.out.awkP.six
  have hp : w.heap.size + 1 + 1 + 1 + 1 < w1.heap.size := F1.out.awkP.lt
  go_wp2_with fail
  refine (clone_any _ _ _ _ nmA _ (F1.out.awkC.alloc _)).mono ?_
  rintro e w2 ⟨⟨v, rfl, hown⟩, hB⟩
  have hs2 := hB.size
  have hq : Bl w2 w1.heap.size 30 (prgL (w.heap.size + 1 + 1 + 1) 3) := (Bl.new w1 30 _).below hB (by simp)
  have F2 : Frs w w2 (awkL w.heap.size) := (F1.out.alloc _).below hB
  have hBz : Below w1.heap.size w1 w2 := ((Below.refl _ _).alloc (Nat.le_refl _) _).trans (hB.mono (by simp))
  have esz : (w1.alloc (.cells (prgL (w.heap.size + 1 + 1 + 1) 3).toArray 30)).heap.size = w1.heap.size + 1 := by simp
  rw [esz] at hown hs2
  obtain ⟨g, cap, rfl, hg, hgl⟩ := own_three hown
  have c0 : w2.cell? ⟨g, 0, none⟩ = some (Value.string nmA) := hown.cellAt 0 (by decide)
  have z0 : w2.frozen? ⟨g, 0, none⟩ = false := hown.frozenAt 0
  have hgq : ¬ g = w1.heap.size := by omega
  have q0 := hq.cell 0
  have y0 := hq.froz 0
  have W : Hid (AwkW w w1 ((w2.setCell ⟨w1.heap.size, 0, none⟩ (.slice (some ⟨g, 0, none⟩) 3 cap)).setCell ⟨g, 0, none⟩ (.string ⟨#[]⟩)) g cap) := Lib.hid (awk_world w w1 w2 g cap F2 hBz hp hq hown hg hgl)
  clear hB hown F2 hBz hq hg hs2 p1 p2 p3 p4 p5
  go_upto_region 6 with fail
  clear c0 z0 q0 y0 p0 F1 esz
  generalize (w2.setCell ⟨w1.heap.size, 0, none⟩ (.slice (some ⟨g, 0, none⟩) 3 cap)).setCell ⟨g, 0, none⟩ (.string ⟨#[]⟩) = W3 at *
  obtain ⟨p0, p1, p2, p3, p4, p5⟩ := W.out.fr.awkP.six
  go_wp2_with fail
  refine (check_good _ _ _ _ _ _ W.out.fr.awk).mono ?_
  rintro e W4 ⟨rfl, hB⟩
  have W' := Lib.hid (W.out.below hB)
  clear hB W
  clear p0 p1 p2 p3 p4 p5
  obtain ⟨p0, p1, p2, p3, p4, p5⟩ := W'.out.fr.awkP.six
  obtain ⟨q0, q1, q2, q3, q4, q5⟩ := W'.out.q.six
  go_wp2_with fail
  refine (check_bad _ _ _ _ _ _ W'.out.pw).mono ?_
  rintro e W5 ⟨rfl, hB⟩
  have W'' := Lib.hid (W'.out.below hB)
  clear hB W'
  clear p0 p1 p2 p3 p4 p5 q0 q1 q2 q3 q4 q5
  obtain ⟨p0, p1, p2, p3, p4, p5⟩ := W''.out.fr.awkP.six
  go_wp2_with fail
  refine (ancestors_1 _ _ _ _ _ _ _ W''.out.fr.awk).mono ?_
  rintro e W6 ⟨⟨g', c', rfl, hc⟩, hB⟩
  have WF := Lib.hid (W''.out.below hB)
  clear hB W''
  clear p0 p1 p2 p3 p4 p5
  go_wp2_with fail
  refine (Tryz.slices_Equal_int g' 0 1 c' W6.heap.size 0 1 1 [0] [0] _ (by decide) (by decide) (by decide) (by decide) (eq_x W6 g' hc) (eq_y W6)).mono ?_
  rintro e W7 ⟨rfl, q, rfl⟩
  go_wp2_with fail
  go_ret
  have hb := (WF.out.alloc (.cells #[i64 0] 3)).be
  exact ⟨rfl, ⟨hb.os, hb.tape, hb.output, hb.size, hb.block⟩⟩
end Go.Proofs.YtkjjieloncdjhaaGreatDoor
