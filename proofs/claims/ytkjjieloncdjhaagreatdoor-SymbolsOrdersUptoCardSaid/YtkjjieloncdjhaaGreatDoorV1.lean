/- The classes around a class, for a list of classes at any place. -/
import Derived.Test.YtkjjieloncdjhaaGreatDoorG2
import Derived.Test.YtkjjieloncdjhaaGreatDoorL9
import Derived.ArgAppend
import Derived.Test.YtkjjieloncdjhaaGreatDoorF13
namespace Go.Proofs.YtkjjieloncdjhaaGreatDoor
open Go Go.RowKit Go.Shelf
attribute [local go_sem] Oper.semAt_some

/-- The owners of classes in memory, at any place. -/
structure OwA (w : World) (n₀ : Nat) (A : Option Addr) (ows : List Int) : Prop where
  at_ : ∀ i : Nat, i < ows.length → ∃ b o : Nat, A = some ⟨b, o, none⟩ ∧ b < n₀ ∧ w.cell? ⟨b, o + i * 13 + 3, none⟩ = some (.int .i64 (ows.getD i 0))
theorem OwA.below {w w' : World} {n₀ : Nat} {A : Option Addr} {ows : List Int} (h : OwA w n₀ A ows) (hB : Below n₀ w w') : OwA w' n₀ A ows :=
  ⟨fun i hi => by
    obtain ⟨b, o, e, hb, hc⟩ := h.at_ i hi
    exact ⟨b, o, e, hb, (hB.cell (p := ⟨b, _, none⟩) hb).trans hc⟩⟩
theorem OwA.mono {w : World} {n₀ n₁ : Nat} {A : Option Addr} {ows : List Int} (h : OwA w n₀ A ows) (hn : n₀ ≤ n₁) : OwA w n₁ A ows :=
  ⟨fun i hi => by
    obtain ⟨b, o, e, hb, hc⟩ := h.at_ i hi
    exact ⟨b, o, e, Nat.lt_of_lt_of_le hb hn, hc⟩⟩

set_option maxRecDepth 100000 in
set_option maxHeartbeats 4000000 in
theorem around1A_in (n : Nat) (hn : 1 ≤ n) (l Ba Bp n₀ c : Nat) (A : Option Addr) (ows : List Int) (a0 : Int) (m1 m2 m3 m4 m5 : Value) (J Jx : List Int → World → Prop)
    (hY : ∀ pre x W, J pre W → pre.length < ows.length → YieldAt Fence.wide (n - 1) Tryz.prog l #[.int .i64 x] W fun e W' =>
      (e = .returned (.bool true) ∧ J (pre ++ [x]) W' ∧ Kp n₀ Bp W W') ∨ (e = .returned (.bool false) ∧ Jx (pre ++ [x]) W'))
    (hlen : ows.length ≤ 1048576)
    (W : World) (hBa : W.cell? ⟨Ba, 0, none⟩ = some (.int .i64 a0)) (hBp : Bl W Bp 30 [.slice A ows.length c, m1, m2, m3, m4, m5]) (hO : OwA W n₀ A ows) (h0 : J [] W) :
    CallsIn Fence.wide n Tryz.prog 77 #[.func (.yield l) #[] #[], .pointer (some ⟨Ba, 0, none⟩), .pointer (some ⟨Bp, 0, none⟩)] W fun e W' => (∃ v, e = .returned v) ∧
      ((∃ ys, ys = chain ows ows.length a0 ∧ J ys W') ∨ (∃ pre, pre <+: chain ows ows.length a0 ∧ Jx pre W')) := by
  have HY := Lib.hid hY
  have HP := Lib.hid hBp
  have hp0 : W.cell? ⟨Bp, 0, none⟩ = some (.slice A ows.length c) := hBp.cell 0
  have HO := Lib.hid hO
  have HJ := Lib.hid h0
  clear hY hBp hO h0
  refine callsIn_of_wp Tryz.func77 rfl trivial ?_ rfl
  simp only [Tryz.ntmps77, List.size_toArray, List.length_cons, List.length_nil, Nat.reduceAdd, Nat.reduceSub, Array.replicate_succ, Array.replicate_zero, List.push_toArray, List.append_toArray, List.nil_append, List.cons_append]
  gi_wp2
  gi_loopw [4, 9] (fun s4 s9 wr => ∃ (pre : List Int) (k : Nat) (a : Int), k ≤ ows.length ∧ s9 = .int .i64 k ∧ s4 = .int .i64 a ∧ chain ows ows.length a0 = pre ++ chain ows (ows.length - k) a ∧ pre.length ≤ k ∧ J pre wr ∧ OwA wr n₀ A ows ∧ Bl wr Bp 30 [.slice A ows.length c, m1, m2, m3, m4, m5])
    (fun _ s9 _ => ows.length - (intOf s9).toNat)
  case atStart =>
    exact ⟨[], 0, a0, by omega, rfl, rfl, rfl, by simp, HJ.out, HO.out, HP.out⟩
  case round =>
    obtain ⟨pre, k, a, hk, rfl, rfl, hx, hpl, hJs, hOs, hPs⟩ := hrel
    have hp0r : wr.cell? ⟨Bp, 0, none⟩ = some (.slice A ows.length c) := hPs.cell 0
    have HX := Lib.hid hx
    have HOs := Lib.hid hOs
    have HPs := Lib.hid hPs
    have HJs := Lib.hid hJs
    clear hx hOs hPs hJs hp0 hBa
    by_cases hlt : k < ows.length
    · have hm : ows.length - k = (ows.length - (k + 1)) + 1 := by omega
      have HM := Lib.hid hm
      clear hm
      by_cases hin : 0 ≤ a ∧ a < ows.length
      · obtain ⟨j, rfl⟩ : ∃ j : Nat, a = (j : Int) := ⟨a.toNat, by omega⟩
        have hj : j < ows.length := by omega
        obtain ⟨b, o', rfl, hb, hc⟩ := HOs.out.at_ j hj
        have HC := Lib.hid (show chain ows (ows.length - k) (j : Int) = (if 0 ≤ ows.getD j 0 ∧ ows.getD j 0 < ows.length then ows.getD j 0 :: chain ows (ows.length - (k + 1)) (ows.getD j 0) else []) from by
          rw [HM.out, chain, if_pos hin]
          rfl)
        have HIN := Lib.hid (show decide (0 ≤ (j : Int) ∧ (j : Int) < (ows.length : Int)) = true from by simpa using hin)
        clear hin
        generalize ows.getD j 0 = o at *
        gi_wp2_with fail
        refine ⟨trivial, (exists_in _ _ _ _ _ true HIN.out _).mono ?_⟩
        rintro e w' ⟨rfl, rfl⟩
        gi_wp2_with fail
        by_cases ho : 0 ≤ o ∧ o < ows.length
        · have HT := Lib.hid (show decide (0 ≤ o ∧ o < (ows.length : Int)) = true from by simpa using ho)
          have HC2 := Lib.hid (show chain ows (ows.length - k) (j : Int) = o :: chain ows (ows.length - (k + 1)) o from by rw [HC.out, if_pos ho])
          clear HC ho
          obtain ⟨fn, tmps, assign, body, hy, hR⟩ := HY.out pre o wr HJs.out (by omega)
          refine ⟨trivial, (exists_in _ _ _ _ _ true HT.out _).mono ?_⟩
          rintro e w' ⟨rfl, rfl⟩
          gi_wp2_with fail
          refine hR.mono ?_
          rintro e W3 (⟨rfl, hJ3, hk3⟩ | ⟨rfl, hJx3⟩)
          · have HJ3 := Lib.hid hJ3
            have HK3 := Lib.hid hk3
            clear hJ3 hk3
            gi_wp2_with fail
            go_roundw
            case rel => exact ⟨pre ++ [o], k + 1, o, by omega, by go_num, rfl, by rw [HX.out, HC2.out]; simp, by simp; omega, HJ3.out, HOs.out.below HK3.out.1, HK3.out.2.trans HPs.out⟩
            case measure => simp [intOf]; omega
          · have HJ3 := Lib.hid hJx3
            clear hJx3
            gi_wp2_with fail
            refine bodyPost_ret (results_none rfl _ _ _) rfl ?_
            exact ⟨⟨_, rfl⟩, .inr ⟨pre ++ [o], ⟨chain ows (ows.length - (k + 1)) o, by rw [HX.out, HC2.out]; simp⟩, HJ3.out⟩⟩
        · have HT := Lib.hid (show decide (0 ≤ o ∧ o < (ows.length : Int)) = false from by simpa using ho)
          have HC2 := Lib.hid (show chain ows (ows.length - k) (j : Int) = [] from by rw [HC.out, if_neg ho])
          clear HC ho
          refine ⟨trivial, (exists_in _ _ _ _ _ false HT.out _).mono ?_⟩
          rintro e w' ⟨rfl, rfl⟩
          gi_wp2_with fail
          refine ⟨fun _ h => (by cases h), ?_⟩
          gi_wp2_with fail
          refine bodyPost_ret (results_none rfl _ _ _) rfl ?_
          exact ⟨⟨_, rfl⟩, .inl ⟨pre, by rw [HX.out, HC2.out, List.append_nil], HJs.out⟩⟩
      · have HIN := Lib.hid (show decide (0 ≤ a ∧ a < (ows.length : Int)) = false from by simpa using hin)
        have HC2 := Lib.hid (show chain ows (ows.length - k) a = [] from by rw [HM.out, chain, if_neg hin])
        clear hin
        gi_wp2_with fail
        refine ⟨trivial, (exists_in _ _ _ _ _ false HIN.out _).mono ?_⟩
        rintro e w' ⟨rfl, rfl⟩
        gi_wp2_with fail
        refine bodyPost_ret (results_none rfl _ _ _) rfl ?_
        exact ⟨⟨_, rfl⟩, .inl ⟨pre, by rw [HX.out, HC2.out, List.append_nil], HJs.out⟩⟩
    · have hm : ows.length - k = 0 := by omega
      have HM := Lib.hid hm
      clear hm
      gi_wp2_with fail
      go_end0
      exact ⟨⟨_, rfl⟩, .inl ⟨pre, by rw [HX.out, HM.out, chain, List.append_nil], HJs.out⟩⟩

/-- The iterator over the classes around a class. -/
theorem aroundA_stops (n : Nat) (hn : 1 ≤ n) (Ba Bp n₀ c : Nat) (A : Option Addr) (ows : List Int) (a0 : Int) (m1 m2 m3 m4 m5 : Value) (hlen : ows.length ≤ 1048576) (w : World) (ha : Ba < w.heap.size) (hp : Bp < w.heap.size) (hn₀ : n₀ ≤ w.heap.size)
    (hBa : w.cell? ⟨Ba, 0, none⟩ = some (.int .i64 a0)) (hBp : Bl w Bp 30 [.slice A ows.length c, m1, m2, m3, m4, m5]) (hO : OwA w n₀ A ows) :
    SeqStopsK Fence.wide n Tryz.prog 77 #[.pointer (some ⟨Ba, 0, none⟩), .pointer (some ⟨Bp, 0, none⟩)] (fun x : Int => #[Value.int .i64 x]) (Kp n₀ Bp) (fun ys => ys = chain ows ows.length a0) (fun pre => pre <+: chain ows ows.length a0) ows.length w := fun l J Jx W hW _ _ hY h0 =>
  around1A_in n hn l Ba Bp n₀ c A ows a0 m1 m2 m3 m4 m5 J Jx hY hlen W ((hW.cell (p := ⟨Ba, 0, none⟩) ha).trans hBa) (hBp.below hW hp) (hO.below (hW.mono hn₀)) h0

end Go.Proofs.YtkjjieloncdjhaaGreatDoor
namespace Go.Proofs.YtkjjieloncdjhaaGreatDoor
open Go Go.RowKit Go.Shelf
attribute [local go_sem] Oper.semAt_some

set_option maxRecDepth 100000 in
set_option maxHeartbeats 4000000 in
theorem InsideA_in (n : Nat) (hn : 3 ≤ n) (c : Nat) (A : Option Addr) (ows : List Int) (a0 want : Int) (m1 m2 m3 m4 m5 : Value) (hlen : ows.length ≤ 1048576) (w : World) (hO : OwA w w.heap.size A ows) :
    CallsIn Fence.wide n Tryz.prog 24 #[.agg #[.slice A ows.length c, m1, m2, m3, m4, m5], .int .i64 a0, .int .i64 want] w fun e W' => e = .returned (.bool (decide (want ∈ chain ows ows.length a0))) ∧ Below w.heap.size w W' := by
  have h1 : 1 ≤ n := by omega
  have HO := Lib.hid hO
  clear hO
  refine callsIn_of_wp_marks Tryz.func24 rfl trivial ?_ rfl
  simp only [Tryz.ntmps24, List.size_toArray, List.length_cons, List.length_nil, Nat.reduceAdd, Nat.reduceSub, Array.replicate_succ, Array.replicate_zero, List.push_toArray, List.append_toArray, List.nil_append, List.cons_append]
  gi_wp2_with fail
  refine ⟨trivial, (around_in _ _ _ _).mono ?_⟩
  rintro e w' ⟨rfl, rfl⟩
  gi_wp2_with fail
  obtain ⟨A1, hA1⟩ : ∃ A1 : World, A1 = w.alloc (.cells #[.slice A ows.length c, m1, m2, m3, m4, m5] 30) := ⟨_, rfl⟩
  obtain ⟨A2, hA2⟩ : ∃ A2 : World, A2 = A1.alloc (.cells #[.int .i64 want] 3) := ⟨_, rfl⟩
  obtain ⟨A3, hA3⟩ : ∃ A3 : World, A3 = A2.alloc (.cells #[.bool false] 4) := ⟨_, rfl⟩
  obtain ⟨A4, hA4⟩ : ∃ A4 : World, A4 = A3.alloc (.cells #[.slice A ows.length c, m1, m2, m3, m4, m5] 30) := ⟨_, rfl⟩
  obtain ⟨A5, hA5⟩ : ∃ A5 : World, A5 = A4.alloc (.cells #[.int .i64 a0] 3) := ⟨_, rfl⟩
  have z1 : A1.heap.size = w.heap.size + 1 := by rw [hA1]; simp
  have z2 : A2.heap.size = w.heap.size + 1 + 1 := by rw [hA2]; simp [z1]
  have z3 : A3.heap.size = w.heap.size + 1 + 1 + 1 := by rw [hA3]; simp [z2]
  have z4 : A4.heap.size = w.heap.size + 1 + 1 + 1 + 1 := by rw [hA4]; simp [z3]
  have z5 : A5.heap.size = w.heap.size + 1 + 1 + 1 + 1 + 1 := by rw [hA5]; simp [z4]
  have c1 := cell_new_l A1 (.int .i64 want) 3
  have c2 := cell_new_l A2 (.bool false) 4
  have c4 := cell_new_l A4 (.int .i64 a0) 3
  have bp := Bl.new A3 30 [.slice A ows.length c, m1, m2, m3, m4, m5]
  rw [z1, ← hA2] at c1
  rw [z2, ← hA3] at c2
  rw [z4, ← hA5] at c4
  change Bl (A3.alloc (.cells #[.slice A ows.length c, m1, m2, m3, m4, m5] 30)) _ _ _ at bp
  rw [z3, ← hA4] at bp
  have bp5 : Bl A5 (w.heap.size + 1 + 1 + 1) 30 [.slice A ows.length c, m1, m2, m3, m4, m5] := by rw [hA5]; exact bp.alloc _
  have e15 : A5.cell? ⟨w.heap.size + 1, 0, none⟩ = some (.int .i64 want) := by rw [hA5, hA4, hA3]; exact cell_alloc_l _ (cell_alloc_l _ (cell_alloc_l _ c1.1))
  have e25 : A5.cell? ⟨w.heap.size + 1 + 1, 0, none⟩ = some (.bool false) ∧ A5.frozen? ⟨w.heap.size + 1 + 1, 0, none⟩ = false := by
    rw [hA5, hA4]; exact ⟨cell_alloc_l _ (cell_alloc_l _ c2.1), frozen_alloc_l _ (cell_alloc_l _ c2.1) (frozen_alloc_l _ c2.1 c2.2)⟩
  have hB0 : Below w.heap.size w A5 := by
    rw [hA5, hA4, hA3, hA2, hA1]
    exact (((((Below.refl _ w).alloc (Nat.le_refl _) _).alloc (by simp) _).alloc (by simp; omega) _).alloc (by simp; omega) _).alloc (by simp; omega) _
  rw [← hA1, ← hA2, ← hA3, ← hA4, ← hA5]
  clear hA1 hA2 hA3 hA4 hA5 z1 z2 z3 z4 c1 c2 bp
  refine wpIn_rangeFunc_ownF (F := Fence.wide) (w := A5) (w0 := A5) rfl h1 (gf := 77) (lb := #[.pointer (some ⟨w.heap.size + 1 + 1 + 1 + 1, 0, none⟩), .pointer (some ⟨w.heap.size + 1 + 1 + 1, 0, none⟩)]) rfl trivial (enters_of Tryz.func77 (by kernel_rfl) rfl)
    (aroundA_stops (n - 1) (by omega) (w.heap.size + 1 + 1 + 1 + 1) (w.heap.size + 1 + 1 + 1) w.heap.size c A ows a0 m1 m2 m3 m4 m5 hlen A5 (by omega) (by omega) (by omega) c4.1 bp5 (HO.out.below hB0)) (fun h k => h.t k) (Kp.b (by omega) (by omega)) (Below.refl _ _) (fun _ => rfl)
    (fun pre W => ((∀ y ∈ pre, y ≠ want) ∧ W.cell? ⟨w.heap.size + 1, 0, none⟩ = some (.int .i64 want) ∧ W.cell? ⟨w.heap.size + 1 + 1, 0, none⟩ = some (.bool false) ∧ W.frozen? ⟨w.heap.size + 1 + 1, 0, none⟩ = false) ∧ Below w.heap.size w W)
    (fun c pre W => (c = .ret ∧ want ∈ pre ∧ W.cell? ⟨w.heap.size + 1 + 1, 0, none⟩ = some (.bool true)) ∧ Below w.heap.size w W)
    (OwnFrom.and (Own.from (fun s A B row hs hg hr => ⟨hs.1, cell_kept hs.2.1 hg hr, cell_kept hs.2.2.1 hg hr, (frozen_kept hs.2.2.1 hg hr).trans hs.2.2.2⟩) _) (ownFrom_below (Nat.le_refl _) (by omega)))
    (fun c => OwnFrom.and (Own.from (fun s A B row hs hg hr => ⟨hs.1, hs.2.1, cell_kept hs.2.2 hg hr⟩) _) (ownFrom_below (Nat.le_refl _) (by omega)))
    ⟨⟨by simp, e15, e25.1, e25.2⟩, hB0⟩
    (fun x => { tmps := #[.agg #[.slice A ows.length c, m1, m2, m3, m4, m5], .int .i64 a0, .int .i64 want, .pointer (some ⟨w.heap.size, 0, none⟩), undef, .pointer (some ⟨w.heap.size + 1, 0, none⟩), .pointer (some ⟨w.heap.size + 1 + 1, 0, none⟩), .int .i64 x, .agg #[.slice A ows.length c, m1, m2, m3, m4, m5], .int .i64 a0, .func (.func 77) #[] #[.pointer (some ⟨w.heap.size + 1 + 1 + 1 + 1, 0, none⟩), .pointer (some ⟨w.heap.size + 1 + 1 + 1, 0, none⟩)], .int .i64 x, undef, undef, undef], defers := [] }) ?assign ?body ?done ?stop
  case assign =>
    intro l x W K hK
    gi_wp2
    exact hK
  case body =>
    rintro l pre x W ⟨⟨hp, hcw, hcr, hfr⟩, hB⟩ _
    gi_wp2
    · rename_i hx
      obtain rfl : x = want := eq_of_beq hx
      exact ⟨KeepsOthers.setCell _ _ _, ⟨rfl, List.mem_append.2 (.inr (by simp)), World.cell?_setCell_same' _ _ _ (by rw [hcr]; rfl)⟩, hB.setCell (p := ⟨w.heap.size + 1 + 1, 0, none⟩) (by simp; omega) _⟩
    · rename_i hx
      exact ⟨KeepsOthers.refl _, ⟨Below.refl _ _, rfl⟩, ⟨fun y hy => (List.mem_append.1 hy).elim (hp y) (fun e e' => by simp at e; subst e; subst e'; simp at hx), hcw, hcr, hfr⟩, hB⟩
  case done =>
    rintro D ys W hD rfl ⟨⟨hne, _, hcr, hfr⟩, hB⟩ hK
    gi_wp2
    have hK' := (KeepsOthers.setCell W ⟨w.heap.size + 1 + 1, 0, none⟩ (.bool false)).same D _ hK rfl
    refine ⟨by simp, .inl ⟨_, _, rfl, run_takeDeferred hK', ?_⟩⟩
    have hc5 := cell_kept (World.cell?_setCell_same' W ⟨w.heap.size + 1 + 1, 0, none⟩ (.bool false) (by rw [hcr]; rfl)) (grownBy_putObj' _ D (.deferred none)) (fun r e => by cases e; exact ⟨_, hK', rfl⟩)
    refine ⟨.bool false, ?_, by rw [decide_eq_false (fun h => hne want h rfl)], (hB.setCell (p := ⟨w.heap.size + 1 + 1, 0, none⟩) (by simp; omega) _).trans (belowK_b (w := w) (Nat.le_refl _) _ D _ _ (by omega) hK' rfl rfl)⟩
    simp [results, Tryz.f24, go_sem, hc5]
  case stop =>
    rintro D c pre W hD hpre ⟨⟨rfl, hin, hcr⟩, hB⟩ hK
    gi_wp2
    refine ⟨by simp, .inl ⟨_, _, rfl, run_takeDeferred hK, ?_⟩⟩
    have hc5 := cell_kept hcr (grownBy_putObj' _ D (.deferred none)) (fun r e => by cases e; exact ⟨_, hK, rfl⟩)
    refine ⟨.bool true, ?_, by rw [decide_eq_true (hpre.subset hin)], hB.trans (belowK_b (w := w) (Nat.le_refl _) W D _ _ (by omega) hK rfl rfl)⟩
    simp [results, Tryz.f24, go_sem, hc5]

theorem InsideA_any (c : Nat) (A : Option Addr) (ows : List Int) (a0 want : Int) (m1 m2 m3 m4 m5 : Value) (hlen : ows.length ≤ 1048576) (w : World) (hO : OwA w w.heap.size A ows) :
    Calls Tryz.prog 24 #[.agg #[.slice A ows.length c, m1, m2, m3, m4, m5], .int .i64 a0, .int .i64 want] w fun e W' => e = .returned (.bool (decide (want ∈ chain ows ows.length a0))) ∧ Below w.heap.size w W' :=
  (callsIn_wide (n := 3)).1 (InsideA_in 3 (by omega) c A ows a0 want m1 m2 m3 m4 m5 hlen w hO)
end Go.Proofs.YtkjjieloncdjhaaGreatDoor
namespace Go.Proofs.YtkjjieloncdjhaaGreatDoor
open Go

/-- A number of a class. -/
def inR (n : Nat) (x : Int) : Bool := decide (0 ≤ x ∧ x < (n : Int))
theorem inR_iff {n : Nat} {x : Int} : inR n x = true ↔ 0 ≤ x ∧ x < (n : Int) := by simp [inR]

/-- Parents that are new, behind a list. -/
def addF (n : Nat) (l : List Int) : List Int → List Int
  | [] => l
  | s :: r => addF n (if inR n s = true ∧ s ∉ l then l ++ [s] else l) r

/-- The classes of the parents of a class. -/
def par (ss : List (List Int)) (c : Int) : List Int := if inR ss.length c = true then ss.getD c.toNat [] else []

theorem addF_snoc (n : Nat) : ∀ (r : List Int) (l : List Int) (s : Int), addF n l (r ++ [s]) = (if inR n s = true ∧ s ∉ addF n l r then addF n l r ++ [s] else addF n l r)
  | [], l, s => rfl
  | x :: r, l, s => by
    simp only [List.cons_append, addF]
    exact addF_snoc n r _ s

theorem addF_prefix (n : Nat) : ∀ (r l : List Int), l <+: addF n l r
  | [], l => List.prefix_refl l
  | s :: r, l => by
    simp only [addF]
    split
    · exact (List.prefix_append l [s]).trans (addF_prefix n r _)
    · exact addF_prefix n r l

theorem addF_mem (n : Nat) : ∀ (r l : List Int) (x : Int), x ∈ addF n l r ↔ x ∈ l ∨ (x ∈ r ∧ inR n x = true)
  | [], l, x => by simp [addF]
  | s :: r, l, x => by
    simp only [addF]
    rw [addF_mem n r _ x]
    by_cases h : inR n s = true ∧ s ∉ l
    · rw [if_pos h]
      simp only [List.mem_append, List.mem_cons, List.not_mem_nil, or_false]
      constructor
      · rintro ((h1 | rfl) | h1)
        · exact .inl h1
        · exact .inr ⟨.inl rfl, h.1⟩
        · exact .inr ⟨.inr h1.1, h1.2⟩
      · rintro (h1 | ⟨rfl | h1, h2⟩)
        · exact .inl (.inl h1)
        · exact .inl (.inr rfl)
        · exact .inr ⟨h1, h2⟩
    · rw [if_neg h]
      simp only [List.mem_cons]
      constructor
      · rintro (h1 | h1)
        · exact .inl h1
        · exact .inr ⟨.inr h1.1, h1.2⟩
      · rintro (h1 | ⟨rfl | h1, h2⟩)
        · exact .inl h1
        · by_cases hx : x ∈ l
          · exact .inl hx
          · exact absurd ⟨h2, hx⟩ h
        · exact .inr ⟨h1, h2⟩

theorem addF_nodup (n : Nat) : ∀ (r l : List Int), l.Nodup → (addF n l r).Nodup
  | [], l, h => h
  | s :: r, l, h => by
    simp only [addF]
    split
    · rename_i hs
      refine addF_nodup n r _ ?_
      rw [List.nodup_append]
      refine ⟨h, by simp, ?_⟩
      intro a ha b hb
      simp at hb
      subst hb
      intro e
      subst e
      exact hs.2 ha
    · exact addF_nodup n r l h

theorem nodup_map_toNat : ∀ (l : List Int), l.Nodup → (∀ x ∈ l, 0 ≤ x) → (l.map Int.toNat).Nodup
  | [], _, _ => by simp
  | x :: r, h, h0 => by
    simp only [List.map_cons, List.nodup_cons] at h ⊢
    refine ⟨?_, nodup_map_toNat r h.2 (fun y hy => h0 y (by simp [hy]))⟩
    intro hx
    obtain ⟨y, hy, e⟩ := List.mem_map.1 hx
    have h1 := h0 x (by simp)
    have h2 := h0 y (by simp [hy])
    have : y = x := by omega
    subst this
    exact h.1 hy

theorem nodup_sub_le : ∀ {l l' : List Nat}, l.Nodup → l ⊆ l' → l.length ≤ l'.length
  | [], _, _, _ => by simp
  | x :: r, l', h, hs => by
    rw [List.nodup_cons] at h
    have hx : x ∈ l' := hs (by simp)
    have h2 : r ⊆ l'.erase x := fun y hy => by
      have hy' : y ∈ l' := hs (by simp [hy])
      have hne : y ≠ x := fun e => h.1 (e ▸ hy)
      exact (List.mem_erase_of_ne hne).2 hy'
    have h3 := nodup_sub_le h.2 h2
    have h4 := List.length_erase_of_mem hx
    have h5 := List.length_pos_of_mem hx
    simp only [List.length_cons]
    omega

/-- Numbers without a second time, all of classes, are at most as many as the classes. -/
theorem nodup_le {n : Nat} {l : List Int} (h : l.Nodup) (hr : ∀ x ∈ l, inR n x = true) : l.length ≤ n := by
  have h1 := nodup_map_toNat l h (fun x hx => (inR_iff.1 (hr x hx)).1)
  have h2 : (l.map Int.toNat) ⊆ List.range n := by
    intro y hy
    obtain ⟨x, hx, rfl⟩ := List.mem_map.1 hy
    have := inR_iff.1 (hr x hx)
    rw [List.mem_range]
    omega
  have h3 := nodup_sub_le h1 h2
  simpa using h3

/-- A class is reached by parents. -/
inductive Rch (ss : List (List Int)) : Int → Int → Prop
  | one {a b : Int} : b ∈ par ss a → inR ss.length b = true → Rch ss a b
  | snoc {a b c : Int} : Rch ss a b → c ∈ par ss b → inR ss.length c = true → Rch ss a c

theorem Rch.inR {ss : List (List Int)} {a b : Int} (h : Rch ss a b) : inR ss.length b = true := by cases h <;> assumption
theorem Rch.trans {ss : List (List Int)} {a b c : Int} (h : Rch ss a b) (k : Rch ss b c) : Rch ss a c := by
  induction k with
  | one h1 h2 => exact .snoc h h1 h2
  | snoc _ h1 h2 ih => exact .snoc ih h1 h2

/-- What is found of a class's ancestors when the parents of the class, and of the first i found, have been looked at. -/
structure Fnd (ss : List (List Int)) (c : Int) (i : Nat) (l : List Int) : Prop where
  nd : l.Nodup
  rc : ∀ x ∈ l, Rch ss c x
  own : ∀ x ∈ par ss c, inR ss.length x = true → x ∈ l
  cl : ∀ (j : Nat) (y : Int), j < i → l[j]? = some y → ∀ x ∈ par ss y, inR ss.length x = true → x ∈ l
  le : i ≤ l.length

theorem Fnd.rng {ss : List (List Int)} {c : Int} {i : Nat} {l : List Int} (h : Fnd ss c i l) : l.length ≤ ss.length := nodup_le h.nd (fun x hx => (h.rc x hx).inR)
theorem Fnd.start (ss : List (List Int)) (c : Int) : Fnd ss c 0 (addF ss.length [] (par ss c)) := by
  refine ⟨addF_nodup _ _ _ (by simp), ?_, ?_, by omega, by omega⟩
  · intro x hx
    rw [addF_mem] at hx
    rcases hx with h | ⟨h1, h2⟩
    · cases h
    · exact .one h1 h2
  · intro x hx hr
    rw [addF_mem]
    exact .inr ⟨hx, hr⟩
theorem Fnd.step {ss : List (List Int)} {c : Int} {i : Nat} {l : List Int} (h : Fnd ss c i l) {y : Int} (hy : l[i]? = some y) : Fnd ss c (i + 1) (addF ss.length l (par ss y)) := by
  have hp := addF_prefix ss.length (par ss y) l
  have hm : y ∈ l := List.mem_of_getElem? hy
  have hlt : i < l.length := (List.getElem?_eq_some_iff.1 hy).1
  refine ⟨addF_nodup _ _ _ h.nd, ?_, ?_, ?_, Nat.le_trans (by omega) hp.length_le⟩
  · intro x hx
    rw [addF_mem] at hx
    rcases hx with hx | ⟨h1, h2⟩
    · exact h.rc x hx
    · exact .snoc (h.rc y hm) h1 h2
  · intro x hx hr
    exact hp.subset (h.own x hx hr)
  · intro j z hj hz x hx hr
    have hjl : j < l.length := by omega
    have hz' : l[j]? = some z := by
      obtain ⟨t, ht⟩ := hp
      rw [← ht, List.getElem?_append_left hjl] at hz
      exact hz
    by_cases he : j = i
    · subst he
      rw [hy] at hz'
      cases hz'
      rw [addF_mem]
      exact .inr ⟨hx, hr⟩
    · exact hp.subset (h.cl j z (by omega) hz' x hx hr)
theorem Fnd.all {ss : List (List Int)} {c : Int} {l : List Int} (h : Fnd ss c l.length l) (x : Int) : x ∈ l ↔ Rch ss c x := by
  refine ⟨h.rc x, fun hx => ?_⟩
  induction hx with
  | one h1 h2 => exact h.own _ h1 h2
  | snoc _ h1 h2 ih =>
    obtain ⟨j, hj, e⟩ := List.mem_iff_getElem.1 ih
    exact h.cl j _ hj (by rw [List.getElem?_eq_getElem hj, e]) _ h1 h2

/-- The ancestors of a class, in increasing order: there is one such list. -/
structure Anc (ss : List (List Int)) (c : Int) (l : List Int) : Prop where
  so : l.Pairwise (· < ·)
  me : ∀ x, x ∈ l ↔ Rch ss c x

theorem sorted_unique : ∀ {l l' : List Int}, l.Pairwise (· < ·) → l'.Pairwise (· < ·) → (∀ x, x ∈ l ↔ x ∈ l') → l = l'
  | [], [], _, _, _ => rfl
  | [], y :: r, _, _, h => absurd ((h y).2 (by simp)) (by simp)
  | x :: r, [], _, _, h => absurd ((h x).1 (by simp)) (by simp)
  | x :: r, y :: s, h1, h2, h => by
    rw [List.pairwise_cons] at h1 h2
    have e : x = y := by
      rcases List.mem_cons.1 ((h x).1 (by simp)) with e | hx
      · exact e
      · rcases List.mem_cons.1 ((h y).2 (by simp)) with e | hy
        · exact e.symm
        · have := h1.1 y hy
          have := h2.1 x hx
          omega
    subst e
    congr 1
    refine sorted_unique h1.2 h2.2 (fun z => ?_)
    constructor
    · intro hz
      rcases List.mem_cons.1 ((h z).1 (by simp [hz])) with e | hz'
      · subst e
        have := h1.1 z hz
        omega
      · exact hz'
    · intro hz
      rcases List.mem_cons.1 ((h z).2 (by simp [hz])) with e | hz'
      · subst e
        have := h2.1 z hz
        omega
      · exact hz'
theorem Anc.unique {ss : List (List Int)} {c : Int} {l l' : List Int} (h : Anc ss c l) (h' : Anc ss c l') : l = l' :=
  sorted_unique h.so h'.so (fun x => (h.me x).trans (h'.me x).symm)

theorem pairwise_lt_of_le : ∀ {l : List Int}, l.Pairwise (· ≤ ·) → l.Nodup → l.Pairwise (· < ·)
  | [], _, _ => .nil
  | x :: r, h, hn => by
    rw [List.pairwise_cons] at h ⊢
    rw [List.nodup_cons] at hn
    refine ⟨fun y hy => ?_, pairwise_lt_of_le h.2 hn.2⟩
    have := h.1 y hy
    have : x ≠ y := fun e => hn.1 (e ▸ hy)
    omega

/-- Sorted. -/
theorem Anc.sorted {ss : List (List Int)} {c : Int} {l : List Int} (h : Fnd ss c l.length l) : Anc ss c (l.mergeSort fun x y => decide (x ≤ y)) := by
  have hp := List.mergeSort_perm l (fun x y => decide (x ≤ y))
  have hs : (l.mergeSort fun x y => decide (x ≤ y)).Pairwise (· ≤ ·) := by
    have := List.pairwise_mergeSort (le := fun (x y : Int) => decide (x ≤ y)) (by intro a b c; simp; omega) (by intro a b; simp; omega) l
    simpa using this
  refine ⟨pairwise_lt_of_le hs (hp.nodup_iff.2 h.nd), fun x => ?_⟩
  rw [hp.mem_iff]
  exact h.all x

/-- .. and picked in order. -/
def pickP (p : Int → Bool) (n : Nat) : List Int := ((List.range n).map (fun (i : Nat) => (i : Int))).filter p
theorem pickP_succ (p : Int → Bool) (n : Nat) : pickP p (n + 1) = pickP p n ++ (if p (n : Int) = true then [(n : Int)] else []) := by
  unfold pickP
  rw [List.range_succ, List.map_append, List.filter_append]
  congr 1
  by_cases h : p (n : Int) = true
  · simp [h]
  · simp [h]
theorem pickP_length (p : Int → Bool) (n : Nat) : (pickP p n).length ≤ n := by
  unfold pickP
  refine Nat.le_trans (List.length_filter_le _ _) ?_
  simp
theorem pickP_lt {p : Int → Bool} {n : Nat} {x : Int} (h : x ∈ pickP p n) : x < n := by
  unfold pickP at h
  simp only [List.mem_filter, List.mem_map, List.mem_range] at h
  obtain ⟨⟨a, ha, rfl⟩, _⟩ := h
  omega
def pick (l : List Int) (n : Nat) : List Int := pickP (fun x => decide (x ∈ l)) n

/-- The children of a class. -/
def childF (ss : List (List Int)) (c : Int) : List Int := if inR ss.length c = true then pickP (fun x => decide (c ∈ par ss x)) ss.length else []
theorem Anc.pick {ss : List (List Int)} {c : Int} {l : List Int} (h : Fnd ss c l.length l) : Anc ss c (pick l ss.length) := by
  refine ⟨?_, fun x => ?_⟩
  · unfold Go.Proofs.YtkjjieloncdjhaaGreatDoor.pick pickP
    refine List.Pairwise.filter _ ?_
    rw [List.pairwise_map]
    have := List.pairwise_lt_range (n := ss.length)
    exact this.imp (fun h => by omega)
  · unfold Go.Proofs.YtkjjieloncdjhaaGreatDoor.pick pickP
    simp only [List.mem_filter, List.mem_map, List.mem_range, decide_eq_true_eq]
    rw [← h.all x]
    constructor
    · exact fun h => h.2
    · intro hx
      have := inR_iff.1 (h.rc x hx).inR
      exact ⟨⟨x.toNat, by omega, by omega⟩, hx⟩
end Go.Proofs.YtkjjieloncdjhaaGreatDoor
namespace Go.Proofs.YtkjjieloncdjhaaGreatDoor
open Go Go.RowKit

abbrev ints (xs : List Int) : List Value := xs.map (Value.int .i64)
theorem ints_one (xs : List Int) : ∀ u ∈ ints xs, u.oneCell' = true := by
  intro u hu
  obtain ⟨x, _, rfl⟩ := List.mem_map.1 hu
  rfl

/-- A row of numbers that the call has made, at a place of its block. -/
def QRow (w : World) (base : Nat) (v : Value) (xs : List Int) : Prop :=
  (v = .slice none 0 0 ∧ xs = []) ∨ ∃ (g o cap : Nat) (cur : Array Value), v = .slice (some ⟨g, o, none⟩) xs.length cap ∧ base ≤ g ∧ w.heap[g]? = some (.cells cur 3 (0, 0)) ∧ xs.length ≤ cap ∧ o + cap ≤ maxLen ∧ o + cap ≤ cur.size ∧ (cur.toList.drop o).take xs.length = ints xs

theorem QRow.of {w : World} {base : Nat} {v : Value} {n : Nat} {xs : List Int} (h : w.ownsRow base 3 1 v n (ints xs)) : QRow w base v xs := by
  have hl := h.1
  simp at hl
  subst hl
  rcases h.2 with ⟨rfl, h0⟩ | ⟨g, cap, cur, rfl, hb, hg, hn, hm, hs, ht⟩
  · exact .inl ⟨rfl, List.eq_nil_of_length_eq_zero h0⟩
  · exact .inr ⟨g, 0, cap, cur, rfl, hb, hg, hn, by omega, by omega, by simpa using ht⟩

section
variable {w w' : World} {base : Nat} {v : Value} {xs : List Int}
theorem QRow.kept {row : Option Nat} (h : QRow w base v xs) (hg : w.grownBy w' row) (hne : v.ownBlock = none ∨ v.ownBlock ≠ row) : QRow w' base v xs := by
  rcases h with h | ⟨g, o, cap, cur, rfl, hb, hh, rest⟩
  · exact .inl h
  · refine .inr ⟨g, o, cap, cur, rfl, hb, ?_, rest⟩
    rw [hg.block g (Array.getElem?_eq_some_iff.1 hh).1 (by simpa [Value.ownBlock] using hne)]
    exact hh
theorem QRow.alloc (h : QRow w base v xs) (o : Obj) : QRow (w.alloc o) base v xs := h.kept (World.grownBy_alloc w o none) (by cases hv : v.ownBlock <;> simp)
theorem QRow.lt (h : QRow w base v xs) : ∀ k, v.ownBlock = some k → base ≤ k ∧ k < w.heap.size := by
  intro k hk
  rcases h with ⟨rfl, _⟩ | ⟨g, o, cap, cur, rfl, hb, hh, _⟩
  · simp [Value.ownBlock] at hk
  · simp [Value.ownBlock] at hk
    subst hk
    exact ⟨hb, (Array.getElem?_eq_some_iff.1 hh).1⟩
theorem QRow.below {B : Nat} (h : QRow w base v xs) (hB : Below B w w') (hw : w.heap.size ≤ B) : QRow w' base v xs :=
  h.kept (row := none) ⟨hB.os, hB.tape, hB.output, hB.size, fun k hk _ => hB.block k (by omega)⟩ (by cases hv : v.ownBlock <;> simp)
/-- Its words. -/
theorem QRow.slice (h : QRow w base v xs) : ∃ (A : Option Addr) (cap : Nat), v = .slice A xs.length cap := by
  rcases h with ⟨rfl, rfl⟩ | ⟨g, o, cap, cur, rfl, _⟩
  · exact ⟨none, 0, rfl⟩
  · exact ⟨_, cap, rfl⟩
theorem QRow.nums {A : Option Addr} {n cap : Nat} (h : QRow w base (.slice A n cap) xs) : Nums w A n xs := by
  rcases h with ⟨e, rfl⟩ | ⟨g, o, cap', cur, e, hb, hh, hl, hm, hs, ht⟩
  · injection e with e1 e2 e3
    subst e2
    exact ⟨rfl, fun h0 => absurd h0 (by omega)⟩
  · injection e with e1 e2 e3
    subst e1 e2 e3
    refine ⟨rfl, fun _ => ⟨g, o, rfl, fun k hk => ?_⟩⟩
    rw [cell_of_row w g (o + k) cur 3 (0, 0) hh]
    have e2 : ((cur.toList.drop o).take xs.length)[k]? = (ints xs)[k]? := by rw [ht]
    rw [List.getElem?_take, if_pos hk, List.getElem?_drop, List.getElem?_map] at e2
    rw [Array.getElem?_toList] at e2
    rw [e2]
    simp [List.getElem?_eq_getElem hk]
/-- Its first is cut off. -/
theorem QRow.tail {x : Int} {A : Option Addr} {n cap : Nat} (h : QRow w base (.slice A n cap) (x :: xs)) : ∃ g o, A = some ⟨g, o, none⟩ ∧ n = xs.length + 1 ∧ n ≤ cap ∧ w.cell? ⟨g, o, none⟩ = some (.int .i64 x) ∧
    ∃ o2 c2, ((cap = 1 ∧ o2 = o ∧ c2 = 0) ∨ (¬ cap = 1 ∧ o2 = o + 1 ∧ c2 = cap - 1)) ∧ QRow w base (.slice (some ⟨g, o2, none⟩) xs.length c2) xs := by
  have hN := h.nums
  rcases h with ⟨e, e'⟩ | ⟨g, o, cap', cur, e, hb, hh, hl, hm, hs, ht⟩
  · cases e'
  · injection e with e1 e2 e3
    subst e1 e2 e3
    simp only [List.length_cons] at hl ht
    refine ⟨g, o, rfl, rfl, by simpa using hl, ?_, ?_⟩
    · obtain ⟨g', o', e4, h4⟩ := hN.2 (by simp)
      injection e4 with e4
      injection e4 with e5 e6
      subst e5 e6
      simpa using h4 0 (by simp)
    · by_cases hc : cap = 1
      · subst hc
        have hx : xs = [] := List.eq_nil_of_length_eq_zero (by omega)
        subst hx
        exact ⟨o, 0, .inl ⟨rfl, rfl, rfl⟩, .inr ⟨g, o, 0, cur, rfl, hb, hh, by simp, by omega, by omega, by simp⟩⟩
      · refine ⟨o + 1, cap - 1, .inr ⟨hc, rfl, rfl⟩, .inr ⟨g, o + 1, cap - 1, cur, rfl, hb, hh, by omega, by omega, by omega, ?_⟩⟩
        rw [List.drop_add_one_eq_tail_drop]
        cases hd : cur.toList.drop o with
        | nil =>
          rw [hd] at ht
          simp at ht
        | cons y r =>
          rw [hd] at ht
          simp only [List.take_succ_cons, List.map_cons, List.cons.injEq] at ht
          exact ht.2

theorem take_set_drop {α : Type} (l : List α) (o n : Nat) (x : α) (h : o + n < l.length) : ((l.set (o + n) x).drop o).take (n + 1) = (l.drop o).take n ++ [x] := by
  rw [List.drop_set, if_neg (by omega), show o + n - o = n from by omega]
  rw [List.take_add_one, List.getElem?_set_self (by simp; omega), List.take_set_of_le (Nat.le_refl _)]
  rfl
theorem setCell_heap {w : World} {g i : Nat} {u : Value} {cur : Array Value} {t : TypeId} {fr : Nat × Nat} (h : w.heap[g]? = some (.cells cur t fr)) : (w.setCell ⟨g, i, none⟩ u).heap[g]? = some (.cells (cur.setIfInBounds i u) t fr) := by
  simp [World.setCell, Array.getElem?_modify, h]

/-- One number more. -/
theorem QRow.append_run (h : QRow w base v xs) (x : Int) (ad : Addr) (c : Nat) (hx : w.cell? ad = some (.int .i64 x)) (hn : xs.length ≤ 100000000) (hbase : base ≤ w.heap.size) (ty : TypeId) :
    ∃ v' w', (Builtin.append_ #[33, 33] ty #[v, .slice (some ad) 1 c]).run Tryz.prog w = .ok v' w' ∧ QRow w' base v' (xs ++ [x]) ∧ w.grownBy w' v.ownBlock ∧ (v'.ownBlock = v.ownBlock ∨ v'.ownBlock = some w.heap.size) := by
  obtain ⟨i0, hi0, hz0, hz1, hz2⟩ := info_parts infoInt
  have hnews : ∀ j u, [Value.int .i64 x][j]? = some u → w.cell? (ad.add j) = some u := by
    intro j u hu
    match j, hu with
    | 0, hu =>
      have e : u = .int .i64 x := by simpa using hu.symm
      subst e
      have e : ad.add 0 = ad := by
        obtain ⟨b, o, sp⟩ := ad
        cases sp <;> simp [Addr.add]
      rw [e]
      exact hx
  have hcz : (ints (xs ++ [x])) = ints xs ++ [Value.int .i64 x] := by simp [ints]
  rcases h with ⟨rfl, rfl⟩ | ⟨g, o, cap, cur, rfl, hb, hh, hl, hm, hs, ht⟩
  · have hr := run_append_nil (P := Tryz.prog) w 33 ty 3 i0 (.int .i64 0) Tryz.underlying33 hi0 hz0 ad 1 c [.int .i64 x] (by rw [hz1]; rfl) hnews (by omega) (by omega) (by rw [hz2]; omega)
    have hge := grownCap_ge w 1 0 3
    have hcm : grownCap w 1 0 3 ≤ maxLen := grownCap_le_maxLen w 1 0 3 (by unfold maxLen; omega)
    refine ⟨_, _, hr, .inr ⟨w.heap.size, 0, _, _, rfl, hbase, heap_alloc_new w.drew _, hge, by omega, ?_, ?_⟩, ⟨rfl, rfl, rfl, by simp, fun k hk _ => Below.heap_alloc w.drew _ k hk⟩, .inr rfl⟩
    · simp [size_zeroCells, Value.cells]
      omega
    · simp [ints]
  · by_cases hroom : xs.length + 1 ≤ cap
    · have hc0 : (w.cell? ⟨g, o + xs.length, none⟩).isSome = true := by
        rw [cell_of_row w g _ cur 3 (0, 0) hh, Array.getElem?_eq_getElem (by omega)]
        rfl
      have hf0 : w.frozen? ⟨g, o + xs.length, none⟩ = false := by simp [World.frozen?, hh]
      have hr := run_append_room_cells (P := Tryz.prog) w 33 ty 3 i0 Tryz.underlying33 hi0 g o xs.length cap ad 1 c [.int .i64 x] (by rw [hz1]; rfl) hnews (by simp [Value.oneCell']) hroom
        (by intro j hj; have : j = 0 := by simpa using hj
            subst this; rw [hz1]; simpa using hc0) (by intro j hj; have : j = 0 := by simpa using hj
                                                       subst this; rw [hz1]; simpa using hf0)
      rw [hz1, Nat.mul_one] at hr
      refine ⟨.slice (some ⟨g, o, none⟩) (xs.length + 1) cap, w.setCell ⟨g, o + xs.length, none⟩ (.int .i64 x), hr, .inr ⟨g, o, cap, cur.setIfInBounds (o + xs.length) (.int .i64 x), by simp, hb, ?_, by simpa using hroom, hm, by simpa using hs, ?_⟩, ⟨rfl, rfl, rfl, ?_, ?_⟩, .inl rfl⟩
      · exact setCell_heap (w := w) (i := o + xs.length) (u := .int .i64 x) hh
      · rw [hcz, ← ht, List.length_append, List.length_singleton]
        rw [Array.toList_setIfInBounds]
        exact take_set_drop cur.toList o xs.length (.int .i64 x) (by simp; omega)
      · simp [World.setCell]
      · intro k hk hne
        exact Below.heap_setCell w _ _ k (fun e => hne (by rw [e]; rfl))
    · have holds : ∀ j u, (ints xs)[j]? = some u → w.cell? ((⟨g, o, none⟩ : Addr).add j) = some u := by
        intro j u hu
        have e : (⟨g, o, none⟩ : Addr).add j = ⟨g, o + j, none⟩ := by unfold Addr.add; split <;> simp_all
        rw [e, cell_of_row w g (o + j) cur 3 (0, 0) hh]
        have hj : j < xs.length := by
          have := (List.getElem?_eq_some_iff.1 hu).1
          simpa [ints] using this
        rw [← ht, List.getElem?_take, if_pos hj, List.getElem?_drop, Array.getElem?_toList] at hu
        exact hu
      have hr := run_append_grow (P := Tryz.prog) w 33 ty 3 i0 (.int .i64 0) Tryz.underlying33 hi0 hz0 ⟨g, o, none⟩ xs.length cap (ints xs) (by rw [hz1]; simp [ints]) holds ad 1 c [.int .i64 x] (by rw [hz1]; rfl) hnews (by omega) (by omega)
        (by rw [hz2]; exact growslice_fits (by omega) (by omega))
      have hge := grownCap_ge w (xs.length + 1) cap 3
      have hcm : grownCap w (xs.length + 1) cap 3 ≤ maxLen := grownCap_le_maxLen w (xs.length + 1) cap 3 (by unfold maxLen; omega)
      refine ⟨_, _, hr, .inr ⟨w.heap.size, 0, grownCap w (xs.length + 1) cap 3, _, by simp, hbase, heap_alloc_new w.drew _, by simpa using hge, by omega, ?_, ?_⟩, ⟨rfl, rfl, rfl, by simp, fun k hk _ => Below.heap_alloc w.drew _ k hk⟩, .inr rfl⟩
      · simp [size_zeroCells, Value.cells, ints]
        omega
      · simp only [Array.toList_append, List.append_assoc, List.drop_zero]
        rw [← List.append_assoc]
        rw [List.take_left' (by simp [ints])]
        simp [ints]
end

/-- At the operation. -/
theorem wp_append_q {w : World} {o : Oper} {a : Act} {K : Act → World → Prop} {Q : Exit → Act → World → Prop} (s x : Operand) (ho : o.op = .call { callee := .builtin .append, args := #[s, x], argTypes := #[33, 33] })
    {base : Nat} {v : Value} {xs : List Int} (hs : a.eval s = v) (hown : QRow w base v xs) (ad : Addr) (c : Nat) (z : Int) (hx : a.eval x = .slice (some ad) 1 c) (hz : w.cell? ad = some (.int .i64 z)) (hn : xs.length ≤ 100000000) (hbase : base ≤ w.heap.size)
    (h : ∀ v' w', QRow w' base v' (xs ++ [z]) → w.grownBy w' v.ownBlock → (v'.ownBlock = v.ownBlock ∨ v'.ownBlock = some w.heap.size) → K (a.put o.dst v') w') : o.wp Tryz.prog a w K Q := by
  obtain ⟨v', w', hr, h2, h3, h4⟩ := hown.append_run z ad c hz hn hbase o.type
  unfold Oper.wp execOp
  simp only [ho, resolve, invoke, builtin, Sem.run_bind, Sem.run_pure, Result.andThen_ok, List.map_toArray, List.map_cons, List.map_nil, hs, hx, hr]
  exact h v' w' h2 h3 h4
theorem wpList_append_q {w : World} {ops : Array Oper} {rest : List Oper} {o : Oper} {a : Act} {Q : Exit → Act → World → Prop} (hgd : o.guard = none) (s x : Operand) (ho : o.op = .call { callee := .builtin .append, args := #[s, x], argTypes := #[33, 33] })
    {base : Nat} {v : Value} {xs : List Int} (hs : a.eval s = v) (hown : QRow w base v xs) (ad : Addr) (c : Nat) (z : Int) (hx : a.eval x = .slice (some ad) 1 c) (hz : w.cell? ad = some (.int .i64 z)) (hn : xs.length ≤ 100000000) (hbase : base ≤ w.heap.size)
    (h : ∀ v' w', QRow w' base v' (xs ++ [z]) → w.grownBy w' v.ownBlock → (v'.ownBlock = v.ownBlock ∨ v'.ownBlock = some w.heap.size) → wpList Tryz.prog ops Q rest (a.put o.dst v') w') : wpList Tryz.prog ops Q (o :: rest) a w :=
  wpList_plain hgd fun _ hK => wp_append_q s x ho hs hown ad c z hx hz hn hbase fun v' w' h2 h3 h4 => hK _ _ (h v' w' h2 h3 h4)
end Go.Proofs.YtkjjieloncdjhaaGreatDoor
namespace Go.Proofs.YtkjjieloncdjhaaGreatDoor
open Go Go.RowKit

def FewB (cn mn fn tn yn : Nat) : Prop := cn ≤ 25 ∧ mn ≤ 60 ∧ fn ≤ 60 ∧ tn ≤ 60 ∧ yn ≤ 60

set_option maxRecDepth 100000 in
set_option maxHeartbeats 4000000 in
theorem few_no (ca ma fa ta ya : Option Addr) (cn mn fn tn yn cc mc fc tc yc : Nat) (mi : Int) (w : World) (h1 : cn ≤ 9223372036854775807) (h2 : mn ≤ 9223372036854775807) (h3 : fn ≤ 9223372036854775807) (h4 : tn ≤ 9223372036854775807) (h5 : yn ≤ 9223372036854775807) (h : ¬ FewB cn mn fn tn yn) :
    Calls Tryz.prog 13 #[.agg #[.slice ca cn cc, .slice ma mn mc, .slice fa fn fc, .slice ta tn tc, .slice ya yn yc, .int .i64 mi]] w fun e W' => e = .returned (.bool false) ∧ Below w.heap.size w W' := by
  have hP := Lib.hid (Bl.new w 30 [.slice ca cn cc, .slice ma mn mc, .slice fa fn fc, .slice ta tn tc, .slice ya yn yc, .int .i64 mi])
  have HB := Lib.hid ((Below.refl w.heap.size w).alloc (Nat.le_refl _) (.cells #[.slice ca cn cc, .slice ma mn mc, .slice fa fn fc, .slice ta tn tc, .slice ya yn yc, .int .i64 mi] 30))
  have p0 := hP.out.cell 0
  have p1 := hP.out.cell 1
  have p2 := hP.out.cell 2
  have p3 := hP.out.cell 3
  have p4 := hP.out.cell 4
  simp only [List.getElem?_cons_zero, List.getElem?_cons_succ] at p0 p1 p2 p3 p4
  unfold FewB at h
  by_cases q1 : cn ≤ 25
  · have g1 : ¬ (25 : Int) < (cn : Int) := by omega
    by_cases q2 : mn ≤ 60
    · have g2 : ¬ (60 : Int) < (mn : Int) := by omega
      by_cases q3 : fn ≤ 60
      · have g3 : ¬ (60 : Int) < (fn : Int) := by omega
        by_cases q4 : tn ≤ 60
        · have g4 : ¬ (60 : Int) < (tn : Int) := by omega
          have g5 : (60 : Int) < (yn : Int) := by omega
          clear q1 q2 q3 q4 h
          go_enter Tryz.func13, Tryz.ntmps13
          go_wp2_with fail
          go_ret
          exact ⟨rfl, HB.out⟩
        · have g4 : (60 : Int) < (tn : Int) := by omega
          clear q1 q2 q3 q4 h
          go_enter Tryz.func13, Tryz.ntmps13
          go_wp2_with fail
          go_ret
          exact ⟨rfl, HB.out⟩
      · have g3 : (60 : Int) < (fn : Int) := by omega
        clear q1 q2 q3 h
        go_enter Tryz.func13, Tryz.ntmps13
        go_wp2_with fail
        go_ret
        exact ⟨rfl, HB.out⟩
    · have g2 : (60 : Int) < (mn : Int) := by omega
      clear q1 q2 h
      go_enter Tryz.func13, Tryz.ntmps13
      go_wp2_with fail
      go_ret
      exact ⟨rfl, HB.out⟩
  · have g1 : (25 : Int) < (cn : Int) := by omega
    clear q1 h
    go_enter Tryz.func13, Tryz.ntmps13
    go_wp2_with fail
    go_ret
    exact ⟨rfl, HB.out⟩

theorem few_lim (ca ma fa ta ya : Option Addr) (cn mn fn tn yn cc mc fc tc yc : Nat) (mi : Int) (w : World) (hc : ClRow (w.heap.size + 1) w ca cn) (hm : MeRow (w.heap.size + 1) w ma mn) (hf : FiRow (w.heap.size + 1) w fa fn) (ht : TpRow (w.heap.size + 1) w ta tn) (hy : TmRow (w.heap.size + 1) w ya yn) :
    Calls Tryz.prog 13 #[.agg #[.slice ca cn cc, .slice ma mn mc, .slice fa fn fc, .slice ta tn tc, .slice ya yn yc, .int .i64 mi]] w fun e W' => (∃ r : Bool, e = .returned (.bool r) ∧ (r = true → FewB cn mn fn tn yn)) ∧ Below w.heap.size w W' := by
  by_cases h : FewB cn mn fn tn yn
  · refine (few_any ca ma fa ta ya cn mn fn tn yn cc mc fc tc yc mi w hc hm hf ht hy).mono ?_
    rintro e W' ⟨⟨r, rfl⟩, hB⟩
    exact ⟨⟨r, rfl, fun _ => h⟩, hB⟩
  · refine (few_no ca ma fa ta ya cn mn fn tn yn cc mc fc tc yc mi w hc.1 hm.1 hf.1 ht.1 hy.1 h).mono ?_
    rintro e W' ⟨rfl, hB⟩
    exact ⟨⟨false, rfl, fun h => by cases h⟩, hB⟩

/-- A list of types, as numbers and places. -/
def TyL (w : World) (B : Nat) (s : Sl) (ts : List Ty) : Prop := s.l = ts.length ∧ (0 < ts.length → ∃ g o, s.a = some ⟨g, o, none⟩ ∧ Tys w B g o ts)
theorem TyL.below {w w' : World} {B B' : Nat} {s : Sl} {ts : List Ty} (h : TyL w B s ts) (hB : Below B w w') (hs : B ≤ B') : TyL w' B' s ts :=
  ⟨h.1, fun h0 => by
    obtain ⟨g, o, e, hT⟩ := h.2 h0
    exact ⟨g, o, e, hT.below hB hs⟩⟩

theorem TyL.of {w : World} {d L : Nat} {s : Sl} (h : TyRow (d + 1) L w s.a s.l) : ∃ ts, TyL w w.heap.size s ts := by
  have h2 := h.2
  obtain ⟨f, hf⟩ : ∃ f : Nat → Ty, ∀ i, i < s.l → ∃ b o, s.a = some ⟨b, o, none⟩ ∧ b < w.heap.size ∧ w.cell? ⟨b, o + i * 5, none⟩ = some (.int .i64 (f i).kd) ∧ w.cell? ⟨b, o + i * 5 + 1, none⟩ = some (.int .i64 (f i).sy) ∧ w.cell? ⟨b, o + i * 5 + 2, none⟩ = some (.string (f i).nm) ∧ w.cell? ⟨b, o + i * 5 + 3, none⟩ = some (.int .i64 (f i).nu) ∧ w.cell? ⟨b, o + i * 5 + 4, none⟩ = some (.slice (f i).aa (f i).an (f i).ac) := by
    have : ∀ i, ∃ t : Ty, i < s.l → ∃ b o, s.a = some ⟨b, o, none⟩ ∧ b < w.heap.size ∧ w.cell? ⟨b, o + i * 5, none⟩ = some (.int .i64 t.kd) ∧ w.cell? ⟨b, o + i * 5 + 1, none⟩ = some (.int .i64 t.sy) ∧ w.cell? ⟨b, o + i * 5 + 2, none⟩ = some (.string t.nm) ∧ w.cell? ⟨b, o + i * 5 + 3, none⟩ = some (.int .i64 t.nu) ∧ w.cell? ⟨b, o + i * 5 + 4, none⟩ = some (.slice t.aa t.an t.ac) := fun i => by
      by_cases hi : i < s.l
      · obtain ⟨b, o, kd, sy, nu, nm, a', n', c', hT, _, _⟩ := h2 i hi
        exact ⟨⟨kd, sy, nm, nu, a', n', c'⟩, fun _ => ⟨b, o, hT.ad, hT.lt, hT.k0, hT.k1, hT.k2, hT.k3, hT.k4⟩⟩
      · exact ⟨⟨0, 0, ⟨#[]⟩, 0, none, 0, 0⟩, fun h => absurd h hi⟩
    exact ⟨fun i => Classical.choose (this i), fun i => Classical.choose_spec (this i)⟩
  refine ⟨(List.range s.l).map f, by simp, fun h0 => ?_⟩
  have h0' : 0 < s.l := by simpa using h0
  obtain ⟨g, o, e, hg, _⟩ := hf 0 h0'
  refine ⟨g, o, e, hg, fun k t ht => ?_⟩
  obtain ⟨hk, et⟩ := List.getElem?_eq_some_iff.1 ht
  have hk' : k < s.l := by simpa using hk
  obtain ⟨g', o', e', _, c0, c1, c2, c3, c4⟩ := hf k hk'
  rw [e] at e'
  injection e' with e'
  injection e' with e1 e2
  subst e1 e2
  have : t = f k := by
    rw [← et]
    simp
  subst this
  exact ⟨c0, c1, c2, c3, c4⟩

/-- The classes of a program. -/
structure ClsV (w : World) (B : Nat) (A : Option Addr) (xs : List ClC) (ps : List (List Ty)) : Prop where
  len : ps.length = xs.length
  at_ : ∀ i x, xs[i]? = some x → ∃ b o, b < B ∧ ClAt w B A i b o x
  pa : ∀ (i : Nat) (x : ClC) (ts : List Ty), xs[i]? = some x → ps[i]? = some ts → ts.length ≤ 1048576 ∧ TyL w B x.pr ts
theorem ClsV.below {w w' : World} {B : Nat} {A : Option Addr} {xs : List ClC} {ps : List (List Ty)} (h : ClsV w B A xs ps) (hB : Below B w w') : ClsV w' B A xs ps :=
  ⟨h.len, fun i x hx => by
    obtain ⟨b, o, hb, hA⟩ := h.at_ i x hx
    exact ⟨b, o, hb, hA.below hB hb⟩, fun i x ts hx ht => ⟨(h.pa i x ts hx ht).1, (h.pa i x ts hx ht).2.below hB (Nat.le_refl _)⟩⟩
theorem ClAt.lessen {w : World} {L L' : Nat} {a : Option Addr} {i b o : Nat} {x : ClC} (h : ClAt w L a i b o x) (hb : b ≠ L') : ClAt w L' a i b o x :=
  ⟨h.ad, hb, h.lt, h.k0, h.k1, h.k2, h.k3, h.k4, h.k5, h.k6, h.k7, h.k8, h.k9, h.k10, h.k11, h.k12⟩
theorem ClsV.mono {w : World} {B B' : Nat} {A : Option Addr} {xs : List ClC} {ps : List (List Ty)} (h : ClsV w B A xs ps) (hB : B ≤ B') : ClsV w B' A xs ps :=
  ⟨h.len, fun i x hx => by
    obtain ⟨b, o, hb, hA⟩ := h.at_ i x hx
    exact ⟨b, o, by omega, hA.lessen (by omega)⟩, fun i x ts hx ht => ⟨(h.pa i x ts hx ht).1, by
      have h2 := (h.pa i x ts hx ht).2
      exact ⟨h2.1, fun h0 => by
        obtain ⟨g, o, e, hT⟩ := h2.2 h0
        exact ⟨g, o, e, ⟨Nat.lt_of_lt_of_le hT.1 hB, hT.2⟩⟩⟩⟩⟩

theorem ClsV.of {w : World} {A : Option Addr} {n : Nat} (h : ClRow w.heap.size w A n) : ∃ xs ps, n = xs.length ∧ ClsV w w.heap.size A xs ps := by
  have h2 := h.2
  obtain ⟨f, hf⟩ : ∃ f : Nat → ClC × List Ty, ∀ i, i < n → ∃ b o, ClAt w w.heap.size A i b o (f i).1 ∧ (f i).2.length ≤ 1048576 ∧ TyL w w.heap.size (f i).1.pr (f i).2 := by
    have : ∀ i, ∃ t : ClC × List Ty, i < n → ∃ b o, ClAt w w.heap.size A i b o t.1 ∧ t.2.length ≤ 1048576 ∧ TyL w w.heap.size t.1.pr t.2 := fun i => by
      by_cases hi : i < n
      · obtain ⟨b, o, x, hA, hO⟩ := h2 i hi
        obtain ⟨ts, hT⟩ := TyL.of hO.pr
        have := hO.prl
        exact ⟨(x, ts), fun _ => ⟨b, o, hA, by rw [← hT.1]; exact this, hT⟩⟩
      · exact ⟨(⟨⟨#[]⟩, 0, 0, 0, ⟨none, 0, 0⟩, ⟨none, 0, 0⟩, ⟨none, 0, 0⟩, ⟨none, 0, 0⟩, ⟨none, 0, 0⟩, ⟨none, 0, 0⟩, ⟨none, 0, 0⟩, ⟨none, 0, 0⟩, 0⟩, []), fun h => absurd h hi⟩
    exact ⟨fun i => Classical.choose (this i), fun i => Classical.choose_spec (this i)⟩
  refine ⟨(List.range n).map (fun i => (f i).1), (List.range n).map (fun i => (f i).2), by simp, by simp, fun i x hx => ?_, fun i x ts hx ht => ?_⟩
  · have hi : i < n := by simpa using (List.getElem?_eq_some_iff.1 hx).1
    have e : (f i).1 = x := by
      rw [List.getElem?_map, List.getElem?_range hi] at hx
      simpa using hx
    subst e
    obtain ⟨b, o, hA, _⟩ := hf i hi
    exact ⟨b, o, hA.lt, hA⟩
  · have hi : i < n := by simpa using (List.getElem?_eq_some_iff.1 hx).1
    have e : (f i).1 = x := by
      rw [List.getElem?_map, List.getElem?_range hi] at hx
      simpa using hx
    have e2 : (f i).2 = ts := by
      rw [List.getElem?_map, List.getElem?_range hi] at ht
      simpa using ht
    subst e e2
    obtain ⟨b, o, _, h3, h4⟩ := hf i hi
    exact ⟨h3, h4⟩

/-- Their owners. -/
theorem ClsV.ows {w : World} {B : Nat} {A : Option Addr} {xs : List ClC} {ps : List (List Ty)} (h : ClsV w B A xs ps) : OwA w B A (xs.map (·.ow)) :=
  ⟨fun i hi => by
    have hi' : i < xs.length := by simpa using hi
    obtain ⟨b, o, hb, hA⟩ := h.at_ i _ (List.getElem?_eq_getElem hi')
    refine ⟨b, o, hA.ad, hb, ?_⟩
    rw [hA.k3]
    simp [List.getD, List.getElem?_eq_getElem hi']⟩

/-- The classes of their parents. -/
def symL (ps : List (List Ty)) : List (List Int) := ps.map symsOf
theorem par_at {ps : List (List Ty)} {i : Nat} {ts : List Ty} (h : ps[i]? = some ts) : par (symL ps) (i : Int) = symsOf ts := by
  have hi := (List.getElem?_eq_some_iff.1 h).1
  unfold par symL
  rw [if_pos (inR_iff.2 ⟨by omega, by simp; omega⟩)]
  simp [List.getD, h]
end Go.Proofs.YtkjjieloncdjhaaGreatDoor
