/- Whether a class is inside of another one. -/
import Derived.Test.YtjhedehhanaokaaGreatDoorG1
import Derived.RangeFuncFrom
namespace Go.Proofs.YtjhedehhanaokaaGreatDoor
open Go Go.RowKit Go.Shelf
attribute [local go_sem] Oper.semAt_some

set_option maxRecDepth 100000 in
set_option maxHeartbeats 4000000 in
theorem Inside_in (n : Nat) (hn : 3 ≤ n) (b c : Nat) (ows : List Int) (a0 want : Int) (m1 m2 m3 m4 m5 : Value) (hlen : ows.length ≤ 100000) (w : World) (hO : Ows w w.heap.size b ows) :
    CallsIn Fence.wide n Tryz.prog 24 #[.agg #[.slice (some ⟨b, 0, none⟩) ows.length c, m1, m2, m3, m4, m5], .int .i64 a0, .int .i64 want] w fun e W' => e = .returned (.bool (decide (want ∈ chain ows ows.length a0))) ∧ Below w.heap.size w W' := by
  have h1 : 1 ≤ n := by omega
  have HO := Lib.hid hO
  clear hO
  refine callsIn_of_wp_marks Tryz.func24 rfl trivial ?_ rfl
  simp only [Tryz.ntmps24, List.size_toArray, List.length_cons, List.length_nil, Nat.reduceAdd, Nat.reduceSub, Array.replicate_succ, Array.replicate_zero, List.push_toArray, List.append_toArray, List.nil_append, List.cons_append]
  gi_wp2_with fail
  refine ⟨trivial, (around_in _ _ _ _).mono ?_⟩
  rintro e w' ⟨rfl, rfl⟩
  gi_wp2_with fail
  obtain ⟨A1, hA1⟩ : ∃ A1 : World, A1 = w.alloc (.cells #[.slice (some ⟨b, 0, none⟩) ows.length c, m1, m2, m3, m4, m5] 30) := ⟨_, rfl⟩
  obtain ⟨A2, hA2⟩ : ∃ A2 : World, A2 = A1.alloc (.cells #[.int .i64 want] 3) := ⟨_, rfl⟩
  obtain ⟨A3, hA3⟩ : ∃ A3 : World, A3 = A2.alloc (.cells #[.bool false] 4) := ⟨_, rfl⟩
  obtain ⟨A4, hA4⟩ : ∃ A4 : World, A4 = A3.alloc (.cells #[.slice (some ⟨b, 0, none⟩) ows.length c, m1, m2, m3, m4, m5] 30) := ⟨_, rfl⟩
  obtain ⟨A5, hA5⟩ : ∃ A5 : World, A5 = A4.alloc (.cells #[.int .i64 a0] 3) := ⟨_, rfl⟩
  have z1 : A1.heap.size = w.heap.size + 1 := by rw [hA1]; simp
  have z2 : A2.heap.size = w.heap.size + 1 + 1 := by rw [hA2]; simp [z1]
  have z3 : A3.heap.size = w.heap.size + 1 + 1 + 1 := by rw [hA3]; simp [z2]
  have z4 : A4.heap.size = w.heap.size + 1 + 1 + 1 + 1 := by rw [hA4]; simp [z3]
  have z5 : A5.heap.size = w.heap.size + 1 + 1 + 1 + 1 + 1 := by rw [hA5]; simp [z4]
  have c1 := cell_new_l A1 (.int .i64 want) 3
  have c2 := cell_new_l A2 (.bool false) 4
  have c4 := cell_new_l A4 (.int .i64 a0) 3
  have bp := Bl.new A3 30 [.slice (some ⟨b, 0, none⟩) ows.length c, m1, m2, m3, m4, m5]
  rw [z1, ← hA2] at c1
  rw [z2, ← hA3] at c2
  rw [z4, ← hA5] at c4
  change Bl (A3.alloc (.cells #[.slice (some ⟨b, 0, none⟩) ows.length c, m1, m2, m3, m4, m5] 30)) _ _ _ at bp
  rw [z3, ← hA4] at bp
  have bp5 : Bl A5 (w.heap.size + 1 + 1 + 1) 30 [.slice (some ⟨b, 0, none⟩) ows.length c, m1, m2, m3, m4, m5] := by rw [hA5]; exact bp.alloc _
  have e15 : A5.cell? ⟨w.heap.size + 1, 0, none⟩ = some (.int .i64 want) := by rw [hA5, hA4, hA3]; exact cell_alloc_l _ (cell_alloc_l _ (cell_alloc_l _ c1.1))
  have e25 : A5.cell? ⟨w.heap.size + 1 + 1, 0, none⟩ = some (.bool false) ∧ A5.frozen? ⟨w.heap.size + 1 + 1, 0, none⟩ = false := by
    rw [hA5, hA4]; exact ⟨cell_alloc_l _ (cell_alloc_l _ c2.1), frozen_alloc_l _ (cell_alloc_l _ c2.1) (frozen_alloc_l _ c2.1 c2.2)⟩
  have hB0 : Below w.heap.size w A5 := by
    rw [hA5, hA4, hA3, hA2, hA1]
    exact (((((Below.refl _ w).alloc (Nat.le_refl _) _).alloc (by simp) _).alloc (by simp; omega) _).alloc (by simp; omega) _).alloc (by simp; omega) _
  rw [← hA1, ← hA2, ← hA3, ← hA4, ← hA5]
  clear hA1 hA2 hA3 hA4 hA5 z1 z2 z3 z4 c1 c2 bp
  refine wpIn_rangeFunc_ownF (F := Fence.wide) (w := A5) (w0 := A5) rfl h1 (gf := 77) (lb := #[.pointer (some ⟨w.heap.size + 1 + 1 + 1 + 1, 0, none⟩), .pointer (some ⟨w.heap.size + 1 + 1 + 1, 0, none⟩)]) rfl trivial (enters_of Tryz.func77 (by kernel_rfl) rfl)
    (around_stops (n - 1) (by omega) (w.heap.size + 1 + 1 + 1 + 1) (w.heap.size + 1 + 1 + 1) w.heap.size b c ows a0 m1 m2 m3 m4 m5 hlen A5 (by omega) (by omega) (by omega) c4.1 bp5 (HO.out.below hB0)) (fun h k => h.t k) (Kp.b (by omega) (by omega)) (Below.refl _ _) (fun _ => rfl)
    (fun pre W => ((∀ y ∈ pre, y ≠ want) ∧ W.cell? ⟨w.heap.size + 1, 0, none⟩ = some (.int .i64 want) ∧ W.cell? ⟨w.heap.size + 1 + 1, 0, none⟩ = some (.bool false) ∧ W.frozen? ⟨w.heap.size + 1 + 1, 0, none⟩ = false) ∧ Below w.heap.size w W)
    (fun c pre W => (c = .ret ∧ want ∈ pre ∧ W.cell? ⟨w.heap.size + 1 + 1, 0, none⟩ = some (.bool true)) ∧ Below w.heap.size w W)
    (OwnFrom.and (Own.from (fun s A B row hs hg hr => ⟨hs.1, cell_kept hs.2.1 hg hr, cell_kept hs.2.2.1 hg hr, (frozen_kept hs.2.2.1 hg hr).trans hs.2.2.2⟩) _) (ownFrom_below (Nat.le_refl _) (by omega)))
    (fun c => OwnFrom.and (Own.from (fun s A B row hs hg hr => ⟨hs.1, hs.2.1, cell_kept hs.2.2 hg hr⟩) _) (ownFrom_below (Nat.le_refl _) (by omega)))
    ⟨⟨by simp, e15, e25.1, e25.2⟩, hB0⟩
    (fun x => { tmps := #[.agg #[.slice (some ⟨b, 0, none⟩) ows.length c, m1, m2, m3, m4, m5], .int .i64 a0, .int .i64 want, .pointer (some ⟨w.heap.size, 0, none⟩), undef, .pointer (some ⟨w.heap.size + 1, 0, none⟩), .pointer (some ⟨w.heap.size + 1 + 1, 0, none⟩), .int .i64 x, .agg #[.slice (some ⟨b, 0, none⟩) ows.length c, m1, m2, m3, m4, m5], .int .i64 a0, .func (.func 77) #[] #[.pointer (some ⟨w.heap.size + 1 + 1 + 1 + 1, 0, none⟩), .pointer (some ⟨w.heap.size + 1 + 1 + 1, 0, none⟩)], .int .i64 x, undef, undef, undef], defers := [] }) ?assign ?body ?done ?stop
  case assign =>
    intro l x W K hK
    gi_wp2
    exact hK
  case body =>
    rintro l pre x W ⟨⟨hp, hcw, hcr, hfr⟩, hB⟩ _
    gi_wp2
    · rename_i hx
      obtain rfl : x = want := eq_of_beq hx
      exact ⟨KeepsOthers.setCell _ _ _, ⟨rfl, List.mem_append.2 (.inr (by simp)), World.cell?_setCell_same' _ _ _ (by rw [hcr]; rfl)⟩, hB.setCell (p := ⟨w.heap.size + 1 + 1, 0, none⟩) (by simp; omega) _⟩
    · rename_i hx
      exact ⟨KeepsOthers.refl _, ⟨Below.refl _ _, rfl⟩, ⟨fun y hy => (List.mem_append.1 hy).elim (hp y) (fun e e' => by simp at e; subst e; subst e'; simp at hx), hcw, hcr, hfr⟩, hB⟩
  case done =>
    rintro D ys W hD rfl ⟨⟨hne, _, hcr, hfr⟩, hB⟩ hK
    gi_wp2
    have hK' := (KeepsOthers.setCell W ⟨w.heap.size + 1 + 1, 0, none⟩ (.bool false)).same D _ hK rfl
    refine ⟨by simp, .inl ⟨_, _, rfl, run_takeDeferred hK', ?_⟩⟩
    have hc5 := cell_kept (World.cell?_setCell_same' W ⟨w.heap.size + 1 + 1, 0, none⟩ (.bool false) (by rw [hcr]; rfl)) (grownBy_putObj' _ D (.deferred none)) (fun r e => by cases e; exact ⟨_, hK', rfl⟩)
    refine ⟨.bool false, ?_, by rw [decide_eq_false (fun h => hne want h rfl)], (hB.setCell (p := ⟨w.heap.size + 1 + 1, 0, none⟩) (by simp; omega) _).trans (belowK_b (w := w) (Nat.le_refl _) _ D _ _ (by omega) hK' rfl rfl)⟩
    simp [results, Tryz.f24, go_sem, hc5]
  case stop =>
    rintro D c pre W hD hpre ⟨⟨rfl, hin, hcr⟩, hB⟩ hK
    gi_wp2
    refine ⟨by simp, .inl ⟨_, _, rfl, run_takeDeferred hK, ?_⟩⟩
    have hc5 := cell_kept hcr (grownBy_putObj' _ D (.deferred none)) (fun r e => by cases e; exact ⟨_, hK, rfl⟩)
    refine ⟨.bool true, ?_, by rw [decide_eq_true (hpre.subset hin)], hB.trans (belowK_b (w := w) (Nat.le_refl _) W D _ _ (by omega) hK rfl rfl)⟩
    simp [results, Tryz.f24, go_sem, hc5]

theorem Inside_any (b c : Nat) (ows : List Int) (a0 want : Int) (m1 m2 m3 m4 m5 : Value) (hlen : ows.length ≤ 100000) (w : World) (hO : Ows w w.heap.size b ows) :
    Calls Tryz.prog 24 #[.agg #[.slice (some ⟨b, 0, none⟩) ows.length c, m1, m2, m3, m4, m5], .int .i64 a0, .int .i64 want] w fun e W' => e = .returned (.bool (decide (want ∈ chain ows ows.length a0))) ∧ Below w.heap.size w W' :=
  (callsIn_wide (n := 3)).1 (Inside_in 3 (by omega) b c ows a0 want m1 m2 m3 m4 m5 hlen w hO)
end Go.Proofs.YtjhedehhanaokaaGreatDoor
