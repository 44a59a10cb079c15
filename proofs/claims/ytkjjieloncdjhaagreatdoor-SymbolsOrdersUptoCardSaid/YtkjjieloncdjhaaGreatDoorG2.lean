/- The classes around a class: the iterator. -/
import Derived.Test.YtkjjieloncdjhaaGreatDoorL1
import Derived.RangeFuncNested
import Derived.RangeFuncBound
import Derived.RangeFuncCalls
import Derived.RangeFuncLeaves
import Derived.Shelf.Abstract
import Derived.Shelf.RegionOpen
import Derived.OwnWalkIn
import Derived.TacticsInMore
import Derived.LoopNIn
import Derived.LoopIn
import Derived.RangeFuncFrom
namespace Go.Proofs.YtkjjieloncdjhaaGreatDoor
open Go Go.RowKit Go.Shelf
attribute [local go_sem] Oper.semAt_some

/-- The owners of a class, at most so many. -/
def chain (ows : List Int) : Nat → Int → List Int
  | 0, _ => []
  | k + 1, a => if 0 ≤ a ∧ a < ows.length then (if 0 ≤ ows.getD a.toNat 0 ∧ ows.getD a.toNat 0 < ows.length then ows.getD a.toNat 0 :: chain ows k (ows.getD a.toNat 0) else []) else []

/-- The owners of classes in memory. -/
structure Ows (w : World) (n₀ b : Nat) (ows : List Int) : Prop where
  lt : b < n₀
  at_ : ∀ i : Nat, i < ows.length → w.cell? ⟨b, i * 13 + 3, none⟩ = some (.int .i64 (ows.getD i 0))
theorem Ows.below {w w' : World} {n₀ b : Nat} {ows : List Int} (h : Ows w n₀ b ows) (hB : Below n₀ w w') : Ows w' n₀ b ows := ⟨h.lt, fun i hi => (hB.cell (p := ⟨b, _, none⟩) h.lt).trans (h.at_ i hi)⟩
theorem Ows.mono {w : World} {n₀ n₁ b : Nat} {ows : List Int} (h : Ows w n₀ b ows) (hn : n₀ ≤ n₁) : Ows w n₁ b ows := ⟨Nat.lt_of_lt_of_le h.lt hn, h.at_⟩

/-- What a round keeps: what lies below n₀, and a block. -/
def Kp (n₀ Bp : Nat) (A B : World) : Prop := Below n₀ A B ∧ B.heap[Bp]? = A.heap[Bp]?
theorem Kp.t {n₀ Bp : Nat} {A B C : World} (h : Kp n₀ Bp A B) (k : Kp n₀ Bp B C) : Kp n₀ Bp A C := ⟨h.1.trans k.1, k.2.trans h.2⟩
theorem Kp.b {n₀ Bp : Nat} {w : World} (hn : n₀ ≤ w.heap.size) (hp : Bp < w.heap.size) (W : World) (l : Nat) (o o' : Obj) (hl : w.heap.size ≤ l) (h : W.heap[l]? = some o) (hc : o.isCells = false) (hw : o.isWalk = false) : Kp n₀ Bp W (W.putObj l o') :=
  ⟨belowK_b hn W l o o' hl h hc hw, World.putObj_heap_other (by omega)⟩

theorem exists_in (n : Nat) (A : Option Addr) (m c : Nat) (i : Int) (r : Bool) (h : decide (0 ≤ i ∧ i < (m : Int)) = r) (w : World) :
    CallsIn Fence.wide n Tryz.prog 43 #[.slice A m c, .int .i64 i] w fun e w' => e = .returned (.bool r) ∧ w = w' := by
  rw [← h]; exact callsIn_wide.2 (exists_any A m c i w)

set_option maxRecDepth 100000 in
set_option maxHeartbeats 4000000 in
theorem around1_in (n : Nat) (hn : 1 ≤ n) (l Ba Bp n₀ b c : Nat) (ows : List Int) (a0 : Int) (m1 m2 m3 m4 m5 : Value) (J Jx : List Int → World → Prop)
    (hY : ∀ pre x W, J pre W → pre.length < ows.length → YieldAt Fence.wide (n - 1) Tryz.prog l #[.int .i64 x] W fun e W' =>
      (e = .returned (.bool true) ∧ J (pre ++ [x]) W' ∧ Kp n₀ Bp W W') ∨ (e = .returned (.bool false) ∧ Jx (pre ++ [x]) W'))
    (hlen : ows.length ≤ 100000)
    (W : World) (hBa : W.cell? ⟨Ba, 0, none⟩ = some (.int .i64 a0)) (hBp : Bl W Bp 30 [.slice (some ⟨b, 0, none⟩) ows.length c, m1, m2, m3, m4, m5]) (hO : Ows W n₀ b ows) (h0 : J [] W) :
    CallsIn Fence.wide n Tryz.prog 77 #[.func (.yield l) #[] #[], .pointer (some ⟨Ba, 0, none⟩), .pointer (some ⟨Bp, 0, none⟩)] W fun e W' => (∃ v, e = .returned v) ∧
      ((∃ ys, ys = chain ows ows.length a0 ∧ J ys W') ∨ (∃ pre, pre <+: chain ows ows.length a0 ∧ Jx pre W')) := by
  have HY := Lib.hid hY
  have HP := Lib.hid hBp
  have hp0 : W.cell? ⟨Bp, 0, none⟩ = some (.slice (some ⟨b, 0, none⟩) ows.length c) := hBp.cell 0
  have HO := Lib.hid hO
  have HJ := Lib.hid h0
  clear hY hBp hO h0
  refine callsIn_of_wp Tryz.func77 rfl trivial ?_ rfl
  simp only [Tryz.ntmps77, List.size_toArray, List.length_cons, List.length_nil, Nat.reduceAdd, Nat.reduceSub, Array.replicate_succ, Array.replicate_zero, List.push_toArray, List.append_toArray, List.nil_append, List.cons_append]
  gi_wp2
  gi_loopw [4, 9] (fun s4 s9 wr => ∃ (pre : List Int) (k : Nat) (a : Int), k ≤ ows.length ∧ s9 = .int .i64 k ∧ s4 = .int .i64 a ∧ chain ows ows.length a0 = pre ++ chain ows (ows.length - k) a ∧ pre.length ≤ k ∧ J pre wr ∧ Ows wr n₀ b ows ∧ Bl wr Bp 30 [.slice (some ⟨b, 0, none⟩) ows.length c, m1, m2, m3, m4, m5])
    (fun _ s9 _ => ows.length - (intOf s9).toNat)
  case atStart =>
    exact ⟨[], 0, a0, by omega, rfl, rfl, rfl, by simp, HJ.out, HO.out, HP.out⟩
  case round =>
    obtain ⟨pre, k, a, hk, rfl, rfl, hx, hpl, hJs, hOs, hPs⟩ := hrel
    have hp0r : wr.cell? ⟨Bp, 0, none⟩ = some (.slice (some ⟨b, 0, none⟩) ows.length c) := hPs.cell 0
    have HX := Lib.hid hx
    have HOs := Lib.hid hOs
    have HPs := Lib.hid hPs
    have HJs := Lib.hid hJs
    clear hx hOs hPs hJs hp0 hBa
    by_cases hlt : k < ows.length
    · have hm : ows.length - k = (ows.length - (k + 1)) + 1 := by omega
      have HM := Lib.hid hm
      clear hm
      by_cases hin : 0 ≤ a ∧ a < ows.length
      · obtain ⟨j, rfl⟩ : ∃ j : Nat, a = (j : Int) := ⟨a.toNat, by omega⟩
        have hj : j < ows.length := by omega
        have hc := HOs.out.at_ j hj
        have HC := Lib.hid (show chain ows (ows.length - k) (j : Int) = (if 0 ≤ ows.getD j 0 ∧ ows.getD j 0 < ows.length then ows.getD j 0 :: chain ows (ows.length - (k + 1)) (ows.getD j 0) else []) from by
          rw [HM.out, chain, if_pos hin]
          rfl)
        have HIN := Lib.hid (show decide (0 ≤ (j : Int) ∧ (j : Int) < (ows.length : Int)) = true from by simpa using hin)
        clear hin
        generalize ows.getD j 0 = o at *
        gi_wp2_with fail
        refine ⟨trivial, (exists_in _ _ _ _ _ true HIN.out _).mono ?_⟩
        rintro e w' ⟨rfl, rfl⟩
        gi_wp2_with fail
        by_cases ho : 0 ≤ o ∧ o < ows.length
        · have HT := Lib.hid (show decide (0 ≤ o ∧ o < (ows.length : Int)) = true from by simpa using ho)
          have HC2 := Lib.hid (show chain ows (ows.length - k) (j : Int) = o :: chain ows (ows.length - (k + 1)) o from by rw [HC.out, if_pos ho])
          clear HC ho
          obtain ⟨fn, tmps, assign, body, hy, hR⟩ := HY.out pre o wr HJs.out (by omega)
          refine ⟨trivial, (exists_in _ _ _ _ _ true HT.out _).mono ?_⟩
          rintro e w' ⟨rfl, rfl⟩
          gi_wp2_with fail
          refine hR.mono ?_
          rintro e W3 (⟨rfl, hJ3, hk3⟩ | ⟨rfl, hJx3⟩)
          · have HJ3 := Lib.hid hJ3
            have HK3 := Lib.hid hk3
            clear hJ3 hk3
            gi_wp2_with fail
            go_roundw
            case rel => exact ⟨pre ++ [o], k + 1, o, by omega, by go_num, rfl, by rw [HX.out, HC2.out]; simp, by simp; omega, HJ3.out, HOs.out.below HK3.out.1, HK3.out.2.trans HPs.out⟩
            case measure => simp [intOf]; omega
          · have HJ3 := Lib.hid hJx3
            clear hJx3
            gi_wp2_with fail
            refine bodyPost_ret (results_none rfl _ _ _) rfl ?_
            exact ⟨⟨_, rfl⟩, .inr ⟨pre ++ [o], ⟨chain ows (ows.length - (k + 1)) o, by rw [HX.out, HC2.out]; simp⟩, HJ3.out⟩⟩
        · have HT := Lib.hid (show decide (0 ≤ o ∧ o < (ows.length : Int)) = false from by simpa using ho)
          have HC2 := Lib.hid (show chain ows (ows.length - k) (j : Int) = [] from by rw [HC.out, if_neg ho])
          clear HC ho
          refine ⟨trivial, (exists_in _ _ _ _ _ false HT.out _).mono ?_⟩
          rintro e w' ⟨rfl, rfl⟩
          gi_wp2_with fail
          refine ⟨fun _ h => (by cases h), ?_⟩
          gi_wp2_with fail
          refine bodyPost_ret (results_none rfl _ _ _) rfl ?_
          exact ⟨⟨_, rfl⟩, .inl ⟨pre, by rw [HX.out, HC2.out, List.append_nil], HJs.out⟩⟩
      · have HIN := Lib.hid (show decide (0 ≤ a ∧ a < (ows.length : Int)) = false from by simpa using hin)
        have HC2 := Lib.hid (show chain ows (ows.length - k) a = [] from by rw [HM.out, chain, if_neg hin])
        clear hin
        gi_wp2_with fail
        refine ⟨trivial, (exists_in _ _ _ _ _ false HIN.out _).mono ?_⟩
        rintro e w' ⟨rfl, rfl⟩
        gi_wp2_with fail
        refine bodyPost_ret (results_none rfl _ _ _) rfl ?_
        exact ⟨⟨_, rfl⟩, .inl ⟨pre, by rw [HX.out, HC2.out, List.append_nil], HJs.out⟩⟩
    · have hm : ows.length - k = 0 := by omega
      have HM := Lib.hid hm
      clear hm
      gi_wp2_with fail
      go_end0
      exact ⟨⟨_, rfl⟩, .inl ⟨pre, by rw [HX.out, HM.out, chain, List.append_nil], HJs.out⟩⟩

/-- The iterator over the classes around a class. -/
theorem around_stops (n : Nat) (hn : 1 ≤ n) (Ba Bp n₀ b c : Nat) (ows : List Int) (a0 : Int) (m1 m2 m3 m4 m5 : Value) (hlen : ows.length ≤ 100000) (w : World) (ha : Ba < w.heap.size) (hp : Bp < w.heap.size) (hn₀ : n₀ ≤ w.heap.size)
    (hBa : w.cell? ⟨Ba, 0, none⟩ = some (.int .i64 a0)) (hBp : Bl w Bp 30 [.slice (some ⟨b, 0, none⟩) ows.length c, m1, m2, m3, m4, m5]) (hO : Ows w n₀ b ows) :
    SeqStopsK Fence.wide n Tryz.prog 77 #[.pointer (some ⟨Ba, 0, none⟩), .pointer (some ⟨Bp, 0, none⟩)] (fun x : Int => #[Value.int .i64 x]) (Kp n₀ Bp) (fun ys => ys = chain ows ows.length a0) (fun pre => pre <+: chain ows ows.length a0) ows.length w := fun l J Jx W hW _ _ hY h0 =>
  around1_in n hn l Ba Bp n₀ b c ows a0 m1 m2 m3 m4 m5 J Jx hY hlen W ((hW.cell (p := ⟨Ba, 0, none⟩) ha).trans hBa) (hBp.below hW hp) (hO.below (hW.mono hn₀)) h0

/-- Its maker. -/
theorem around_in (n : Nat) (pv : Array Value) (a0 : Int) (w : World) :
    CallsIn Fence.wide n Tryz.prog 52 #[.agg pv, .int .i64 a0] w fun e w' => e = .returned (.func (.func 77) #[] #[.pointer (some ⟨w.heap.size + 1, 0, none⟩), .pointer (some ⟨w.heap.size, 0, none⟩)]) ∧ w' = (w.alloc (.cells pv 30)).alloc (.cells #[.int .i64 a0] 3) := by
  refine callsIn_wide.2 ?_
  go_enter Tryz.func52, Tryz.ntmps52
  go_wp2_with fail
  go_ret
  exact ⟨rfl, rfl⟩

theorem cell_new_l (W : World) (v : Value) (t : TypeId) : (W.alloc (.cells #[v] t)).cell? ⟨W.heap.size, 0, none⟩ = some v ∧ (W.alloc (.cells #[v] t)).frozen? ⟨W.heap.size, 0, none⟩ = false :=
  ⟨(Bl.new W t [v]).cell 0, (Bl.new W t [v]).froz 0⟩
theorem cell_alloc_l {W : World} {a : Addr} {v : Value} (o : Obj) (h : W.cell? a = some v) : (W.alloc o).cell? a = some v := cell_kept h (World.grownBy_alloc W o none) (fun r e => by cases e)
theorem frozen_alloc_l {W : World} {a : Addr} {v : Value} (o : Obj) (h : W.cell? a = some v) (hf : W.frozen? a = false) : (W.alloc o).frozen? a = false := (frozen_kept h (World.grownBy_alloc W o none) (fun r e => by cases e)).trans hf
end Go.Proofs.YtkjjieloncdjhaaGreatDoor
namespace Go.Proofs.YtkjjieloncdjhaaGreatDoor
open Go Go.RowKit Go.Shelf
attribute [local go_sem] Oper.semAt_some

set_option maxRecDepth 100000 in
set_option maxHeartbeats 4000000 in
theorem Inside_in (n : Nat) (hn : 3 ≤ n) (b c : Nat) (ows : List Int) (a0 want : Int) (m1 m2 m3 m4 m5 : Value) (hlen : ows.length ≤ 100000) (w : World) (hO : Ows w w.heap.size b ows) :
    CallsIn Fence.wide n Tryz.prog 24 #[.agg #[.slice (some ⟨b, 0, none⟩) ows.length c, m1, m2, m3, m4, m5], .int .i64 a0, .int .i64 want] w fun e W' => e = .returned (.bool (decide (want ∈ chain ows ows.length a0))) ∧ Below w.heap.size w W' := by
  have h1 : 1 ≤ n := by omega
  have HO := Lib.hid hO
  clear hO
  refine callsIn_of_wp_marks Tryz.func24 rfl trivial ?_ rfl
  simp only [Tryz.ntmps24, List.size_toArray, List.length_cons, List.length_nil, Nat.reduceAdd, Nat.reduceSub, Array.replicate_succ, Array.replicate_zero, List.push_toArray, List.append_toArray, List.nil_append, List.cons_append]
  gi_wp2_with fail
  refine ⟨trivial, (around_in _ _ _ _).mono ?_⟩
  rintro e w' ⟨rfl, rfl⟩
  gi_wp2_with fail
  obtain ⟨A1, hA1⟩ : ∃ A1 : World, A1 = w.alloc (.cells #[.slice (some ⟨b, 0, none⟩) ows.length c, m1, m2, m3, m4, m5] 30) := ⟨_, rfl⟩
  obtain ⟨A2, hA2⟩ : ∃ A2 : World, A2 = A1.alloc (.cells #[.int .i64 want] 3) := ⟨_, rfl⟩
  obtain ⟨A3, hA3⟩ : ∃ A3 : World, A3 = A2.alloc (.cells #[.bool false] 4) := ⟨_, rfl⟩
  obtain ⟨A4, hA4⟩ : ∃ A4 : World, A4 = A3.alloc (.cells #[.slice (some ⟨b, 0, none⟩) ows.length c, m1, m2, m3, m4, m5] 30) := ⟨_, rfl⟩
  obtain ⟨A5, hA5⟩ : ∃ A5 : World, A5 = A4.alloc (.cells #[.int .i64 a0] 3) := ⟨_, rfl⟩
  have z1 : A1.heap.size = w.heap.size + 1 := by rw [hA1]; simp
  have z2 : A2.heap.size = w.heap.size + 1 + 1 := by rw [hA2]; simp [z1]
  have z3 : A3.heap.size = w.heap.size + 1 + 1 + 1 := by rw [hA3]; simp [z2]
  have z4 : A4.heap.size = w.heap.size + 1 + 1 + 1 + 1 := by rw [hA4]; simp [z3]
  have z5 : A5.heap.size = w.heap.size + 1 + 1 + 1 + 1 + 1 := by rw [hA5]; simp [z4]
  have c1 := cell_new_l A1 (.int .i64 want) 3
  have c2 := cell_new_l A2 (.bool false) 4
  have c4 := cell_new_l A4 (.int .i64 a0) 3
  have bp := Bl.new A3 30 [.slice (some ⟨b, 0, none⟩) ows.length c, m1, m2, m3, m4, m5]
  rw [z1, ← hA2] at c1
  rw [z2, ← hA3] at c2
  rw [z4, ← hA5] at c4
  change Bl (A3.alloc (.cells #[.slice (some ⟨b, 0, none⟩) ows.length c, m1, m2, m3, m4, m5] 30)) _ _ _ at bp
  rw [z3, ← hA4] at bp
  have bp5 : Bl A5 (w.heap.size + 1 + 1 + 1) 30 [.slice (some ⟨b, 0, none⟩) ows.length c, m1, m2, m3, m4, m5] := by rw [hA5]; exact bp.alloc _
  have e15 : A5.cell? ⟨w.heap.size + 1, 0, none⟩ = some (.int .i64 want) := by rw [hA5, hA4, hA3]; exact cell_alloc_l _ (cell_alloc_l _ (cell_alloc_l _ c1.1))
  have e25 : A5.cell? ⟨w.heap.size + 1 + 1, 0, none⟩ = some (.bool false) ∧ A5.frozen? ⟨w.heap.size + 1 + 1, 0, none⟩ = false := by
    rw [hA5, hA4]; exact ⟨cell_alloc_l _ (cell_alloc_l _ c2.1), frozen_alloc_l _ (cell_alloc_l _ c2.1) (frozen_alloc_l _ c2.1 c2.2)⟩
  have hB0 : Below w.heap.size w A5 := by
    rw [hA5, hA4, hA3, hA2, hA1]
    exact (((((Below.refl _ w).alloc (Nat.le_refl _) _).alloc (by simp) _).alloc (by simp; omega) _).alloc (by simp; omega) _).alloc (by simp; omega) _
  rw [← hA1, ← hA2, ← hA3, ← hA4, ← hA5]
  clear hA1 hA2 hA3 hA4 hA5 z1 z2 z3 z4 c1 c2 bp
  refine wpIn_rangeFunc_ownF (F := Fence.wide) (w := A5) (w0 := A5) rfl h1 (gf := 77) (lb := #[.pointer (some ⟨w.heap.size + 1 + 1 + 1 + 1, 0, none⟩), .pointer (some ⟨w.heap.size + 1 + 1 + 1, 0, none⟩)]) rfl trivial (enters_of Tryz.func77 (by kernel_rfl) rfl)
    (around_stops (n - 1) (by omega) (w.heap.size + 1 + 1 + 1 + 1) (w.heap.size + 1 + 1 + 1) w.heap.size b c ows a0 m1 m2 m3 m4 m5 hlen A5 (by omega) (by omega) (by omega) c4.1 bp5 (HO.out.below hB0)) (fun h k => h.t k) (Kp.b (by omega) (by omega)) (Below.refl _ _) (fun _ => rfl)
    (fun pre W => ((∀ y ∈ pre, y ≠ want) ∧ W.cell? ⟨w.heap.size + 1, 0, none⟩ = some (.int .i64 want) ∧ W.cell? ⟨w.heap.size + 1 + 1, 0, none⟩ = some (.bool false) ∧ W.frozen? ⟨w.heap.size + 1 + 1, 0, none⟩ = false) ∧ Below w.heap.size w W)
    (fun c pre W => (c = .ret ∧ want ∈ pre ∧ W.cell? ⟨w.heap.size + 1 + 1, 0, none⟩ = some (.bool true)) ∧ Below w.heap.size w W)
    (OwnFrom.and (Own.from (fun s A B row hs hg hr => ⟨hs.1, cell_kept hs.2.1 hg hr, cell_kept hs.2.2.1 hg hr, (frozen_kept hs.2.2.1 hg hr).trans hs.2.2.2⟩) _) (ownFrom_below (Nat.le_refl _) (by omega)))
    (fun c => OwnFrom.and (Own.from (fun s A B row hs hg hr => ⟨hs.1, hs.2.1, cell_kept hs.2.2 hg hr⟩) _) (ownFrom_below (Nat.le_refl _) (by omega)))
    ⟨⟨by simp, e15, e25.1, e25.2⟩, hB0⟩
    (fun x => { tmps := #[.agg #[.slice (some ⟨b, 0, none⟩) ows.length c, m1, m2, m3, m4, m5], .int .i64 a0, .int .i64 want, .pointer (some ⟨w.heap.size, 0, none⟩), undef, .pointer (some ⟨w.heap.size + 1, 0, none⟩), .pointer (some ⟨w.heap.size + 1 + 1, 0, none⟩), .int .i64 x, .agg #[.slice (some ⟨b, 0, none⟩) ows.length c, m1, m2, m3, m4, m5], .int .i64 a0, .func (.func 77) #[] #[.pointer (some ⟨w.heap.size + 1 + 1 + 1 + 1, 0, none⟩), .pointer (some ⟨w.heap.size + 1 + 1 + 1, 0, none⟩)], .int .i64 x, undef, undef, undef], defers := [] }) ?assign ?body ?done ?stop
  case assign =>
    intro l x W K hK
    gi_wp2
    exact hK
  case body =>
    rintro l pre x W ⟨⟨hp, hcw, hcr, hfr⟩, hB⟩ _
    gi_wp2
    · rename_i hx
      obtain rfl : x = want := eq_of_beq hx
      exact ⟨KeepsOthers.setCell _ _ _, ⟨rfl, List.mem_append.2 (.inr (by simp)), World.cell?_setCell_same' _ _ _ (by rw [hcr]; rfl)⟩, hB.setCell (p := ⟨w.heap.size + 1 + 1, 0, none⟩) (by simp; omega) _⟩
    · rename_i hx
      exact ⟨KeepsOthers.refl _, ⟨Below.refl _ _, rfl⟩, ⟨fun y hy => (List.mem_append.1 hy).elim (hp y) (fun e e' => by simp at e; subst e; subst e'; simp at hx), hcw, hcr, hfr⟩, hB⟩
  case done =>
    rintro D ys W hD rfl ⟨⟨hne, _, hcr, hfr⟩, hB⟩ hK
    gi_wp2
    have hK' := (KeepsOthers.setCell W ⟨w.heap.size + 1 + 1, 0, none⟩ (.bool false)).same D _ hK rfl
    refine ⟨by simp, .inl ⟨_, _, rfl, run_takeDeferred hK', ?_⟩⟩
    have hc5 := cell_kept (World.cell?_setCell_same' W ⟨w.heap.size + 1 + 1, 0, none⟩ (.bool false) (by rw [hcr]; rfl)) (grownBy_putObj' _ D (.deferred none)) (fun r e => by cases e; exact ⟨_, hK', rfl⟩)
    refine ⟨.bool false, ?_, by rw [decide_eq_false (fun h => hne want h rfl)], (hB.setCell (p := ⟨w.heap.size + 1 + 1, 0, none⟩) (by simp; omega) _).trans (belowK_b (w := w) (Nat.le_refl _) _ D _ _ (by omega) hK' rfl rfl)⟩
    simp [results, Tryz.f24, go_sem, hc5]
  case stop =>
    rintro D c pre W hD hpre ⟨⟨rfl, hin, hcr⟩, hB⟩ hK
    gi_wp2
    refine ⟨by simp, .inl ⟨_, _, rfl, run_takeDeferred hK, ?_⟩⟩
    have hc5 := cell_kept hcr (grownBy_putObj' _ D (.deferred none)) (fun r e => by cases e; exact ⟨_, hK, rfl⟩)
    refine ⟨.bool true, ?_, by rw [decide_eq_true (hpre.subset hin)], hB.trans (belowK_b (w := w) (Nat.le_refl _) W D _ _ (by omega) hK rfl rfl)⟩
    simp [results, Tryz.f24, go_sem, hc5]

theorem Inside_any (b c : Nat) (ows : List Int) (a0 want : Int) (m1 m2 m3 m4 m5 : Value) (hlen : ows.length ≤ 100000) (w : World) (hO : Ows w w.heap.size b ows) :
    Calls Tryz.prog 24 #[.agg #[.slice (some ⟨b, 0, none⟩) ows.length c, m1, m2, m3, m4, m5], .int .i64 a0, .int .i64 want] w fun e W' => e = .returned (.bool (decide (want ∈ chain ows ows.length a0))) ∧ Below w.heap.size w W' :=
  (callsIn_wide (n := 3)).1 (Inside_in 3 (by omega) b c ows a0 want m1 m2 m3 m4 m5 hlen w hO)
end Go.Proofs.YtkjjieloncdjhaaGreatDoor
