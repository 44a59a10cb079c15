/- Check: lists of numbers. -/
import Derived.Test.YtkjjieloncdjhaaGreatDoorD3
import Derived.Test.YtkjjieloncdjhaaGreatDoorE1
namespace Go.Proofs.YtkjjieloncdjhaaGreatDoor
open Go Go.RowKit
open Go.Maps (Keyed)

theorem NumL.nums {w : World} {B : Nat} {s : Sl} {q : List Int} (h : NumL w B s q) : Nums w s.a s.l q := by
  refine ⟨h.1, fun h0 => ?_⟩
  obtain ⟨g, o, e, _, _⟩ := h.2 0 (by have := h.1; omega)
  refine ⟨g, o, e, fun k hk => ?_⟩
  obtain ⟨g', o', e', _, hc⟩ := h.2 k (by have := h.1; omega)
  rw [e] at e'
  injection e' with e'
  injection e' with e1 e2
  subst e1 e2
  exact hc

theorem exists_179 (A : Option Addr) (n c : Nat) (i : Int) (r : Bool) (h : inR n i = r) (w : World) : Calls Tryz.prog 179 #[.slice A n c, .int .i64 i] w fun e w' => e = .returned (.bool r) ∧ w = w' := by
  rw [← h]
  unfold inR
  have hd : decide (0 ≤ i ∧ i < (n : Int)) = (decide (0 ≤ i) && decide (i < (n : Int))) := by simp
  rw [hd]
  go_enter Tryz.func179, Tryz.ntmps179
  go_wp2_with fail
  all_goals
    go_ret
    refine ⟨?_, rfl⟩
    simp_all
    try omega
    try (intro _; omega)

set_option maxHeartbeats 1000000 in
theorem existAll_146 (T : Option Addr) (tn tc : Nat) (A : Option Addr) (n c : Nat) (q : List Int) (w : World) (hn : n ≤ 1048576) (h : Nums w A n q) : Calls Tryz.prog 146 #[.slice T tn tc, .slice A n c] w fun e w' => e = .returned (.bool (q.all (inR tn))) ∧ w = w' := by
  obtain ⟨hl, hc⟩ := h
  have HL := Lib.hid hl
  rcases Nat.eq_zero_or_pos n with h0 | hpos
  · subst h0
    clear hc hl
    have hq : q = [] := List.eq_nil_of_length_eq_zero HL.out.symm
    subst hq
    clear HL
    go_enter Tryz.func146, Tryz.ntmps146
    go_wp2_with fail
    refine wp_loop_rounds 1 ?_
    rw [rounds_succ]
    go_wp2_with fail
    go_ret
    exact ⟨rfl, rfl⟩
  · obtain ⟨g, o, rfl, hcell⟩ := hc hpos
    have HC := Lib.hid hcell
    clear hc hcell hl
    go_enter Tryz.func146, Tryz.ntmps146
    go_wp2_with fail
    go_loop [9] (fun i => ∃ k : Nat, k ≤ n ∧ i = .int .i64 k ∧ (q.take k).all (inR tn) = true) (fun i => n - (intOf i).toNat)
    case atStart => exact ⟨0, by omega, rfl, by simp⟩
    case round =>
      obtain ⟨k, hk, rfl, hy⟩ := hrel
      have HY := Lib.hid hy
      clear hy
      by_cases hlt : k < n
      · have hck := HC.out k hlt
        have hkq : k < q.length := by rw [← HL.out]; exact hlt
        have HM := Lib.hid (show q.getD k 0 ∈ q from by
          rw [List.getD_eq_getElem?_getD, List.getElem?_eq_getElem hkq]
          exact List.getElem_mem _)
        have HT := Lib.hid (show q.take (k + 1) = q.take k ++ [q.getD k 0] from by
          rw [List.take_succ_eq_append_getElem hkq]
          simp [List.getD, List.getElem?_eq_getElem hkq])
        clear hkq
        generalize q.getD k 0 = v at *
        cases hv : inR tn v with
        | true =>
          have HT2 := Lib.hid (show (q.take (k + 1)).all (inR tn) = true from by rw [HT.out, List.all_append, HY.out]; simp [hv])
          clear HT
          go_wp2_with fail
          refine (exists_179 _ tn _ _ true hv _).mono ?_
          rintro e w' ⟨rfl, rfl⟩
          go_wp2_with fail
          go_round
          case rel => exact ⟨k + 1, by omega, by go_num, HT2.out⟩
          case measure => simp [intOf]; omega
        | false =>
          have HD := Lib.hid (show q.all (inR tn) = false from by
            rw [List.all_eq_false]
            exact ⟨v, HM.out, by simp [hv]⟩)
          go_wp2_with fail
          refine (exists_179 _ tn _ _ false hv _).mono ?_
          rintro e w' ⟨rfl, rfl⟩
          go_wp2_with fail
          go_ret
          exact ⟨by rw [HD.out]; rfl, rfl⟩
      · have hkn : k = n := by omega
        subst hkn
        have HD := Lib.hid (show q.all (inR tn) = true from by
          have := HY.out
          rwa [HL.out, List.take_length] at this)
        go_wp2_with fail
        go_ret
        exact ⟨by rw [HD.out]; rfl, rfl⟩

set_option maxHeartbeats 1000000 in
theorem existAll_172 (T : Option Addr) (tn tc : Nat) (A : Option Addr) (n c : Nat) (q : List Int) (w : World) (hn : n ≤ 1048576) (h : Nums w A n q) : Calls Tryz.prog 172 #[.slice T tn tc, .slice A n c] w fun e w' => e = .returned (.bool (q.all (inR tn))) ∧ w = w' := by
  obtain ⟨hl, hc⟩ := h
  have HL := Lib.hid hl
  rcases Nat.eq_zero_or_pos n with h0 | hpos
  · subst h0
    clear hc hl
    have hq : q = [] := List.eq_nil_of_length_eq_zero HL.out.symm
    subst hq
    clear HL
    go_enter Tryz.func172, Tryz.ntmps172
    go_wp2_with fail
    refine wp_loop_rounds 1 ?_
    rw [rounds_succ]
    go_wp2_with fail
    go_ret
    exact ⟨rfl, rfl⟩
  · obtain ⟨g, o, rfl, hcell⟩ := hc hpos
    have HC := Lib.hid hcell
    clear hc hcell hl
    go_enter Tryz.func172, Tryz.ntmps172
    go_wp2_with fail
    go_loop [9] (fun i => ∃ k : Nat, k ≤ n ∧ i = .int .i64 k ∧ (q.take k).all (inR tn) = true) (fun i => n - (intOf i).toNat)
    case atStart => exact ⟨0, by omega, rfl, by simp⟩
    case round =>
      obtain ⟨k, hk, rfl, hy⟩ := hrel
      have HY := Lib.hid hy
      clear hy
      by_cases hlt : k < n
      · have hck := HC.out k hlt
        have hkq : k < q.length := by rw [← HL.out]; exact hlt
        have HM := Lib.hid (show q.getD k 0 ∈ q from by
          rw [List.getD_eq_getElem?_getD, List.getElem?_eq_getElem hkq]
          exact List.getElem_mem _)
        have HT := Lib.hid (show q.take (k + 1) = q.take k ++ [q.getD k 0] from by
          rw [List.take_succ_eq_append_getElem hkq]
          simp [List.getD, List.getElem?_eq_getElem hkq])
        clear hkq
        generalize q.getD k 0 = v at *
        cases hv : inR tn v with
        | true =>
          have HT2 := Lib.hid (show (q.take (k + 1)).all (inR tn) = true from by rw [HT.out, List.all_append, HY.out]; simp [hv])
          clear HT
          go_wp2_with fail
          refine (exists_44 _ tn _ _ true hv _).mono ?_
          rintro e w' ⟨rfl, rfl⟩
          go_wp2_with fail
          go_round
          case rel => exact ⟨k + 1, by omega, by go_num, HT2.out⟩
          case measure => simp [intOf]; omega
        | false =>
          have HD := Lib.hid (show q.all (inR tn) = false from by
            rw [List.all_eq_false]
            exact ⟨v, HM.out, by simp [hv]⟩)
          go_wp2_with fail
          refine (exists_44 _ tn _ _ false hv _).mono ?_
          rintro e w' ⟨rfl, rfl⟩
          go_wp2_with fail
          go_ret
          exact ⟨by rw [HD.out]; rfl, rfl⟩
      · have hkn : k = n := by omega
        subst hkn
        have HD := Lib.hid (show q.all (inR tn) = true from by
          have := HY.out
          rwa [HL.out, List.take_length] at this)
        go_wp2_with fail
        go_ret
        exact ⟨by rw [HD.out]; rfl, rfl⟩

set_option maxHeartbeats 1000000 in
theorem existAll_173 (T : Option Addr) (tn tc : Nat) (A : Option Addr) (n c : Nat) (q : List Int) (w : World) (hn : n ≤ 1048576) (h : Nums w A n q) : Calls Tryz.prog 173 #[.slice T tn tc, .slice A n c] w fun e w' => e = .returned (.bool (q.all (inR tn))) ∧ w = w' := by
  obtain ⟨hl, hc⟩ := h
  have HL := Lib.hid hl
  rcases Nat.eq_zero_or_pos n with h0 | hpos
  · subst h0
    clear hc hl
    have hq : q = [] := List.eq_nil_of_length_eq_zero HL.out.symm
    subst hq
    clear HL
    go_enter Tryz.func173, Tryz.ntmps173
    go_wp2_with fail
    refine wp_loop_rounds 1 ?_
    rw [rounds_succ]
    go_wp2_with fail
    go_ret
    exact ⟨rfl, rfl⟩
  · obtain ⟨g, o, rfl, hcell⟩ := hc hpos
    have HC := Lib.hid hcell
    clear hc hcell hl
    go_enter Tryz.func173, Tryz.ntmps173
    go_wp2_with fail
    go_loop [9] (fun i => ∃ k : Nat, k ≤ n ∧ i = .int .i64 k ∧ (q.take k).all (inR tn) = true) (fun i => n - (intOf i).toNat)
    case atStart => exact ⟨0, by omega, rfl, by simp⟩
    case round =>
      obtain ⟨k, hk, rfl, hy⟩ := hrel
      have HY := Lib.hid hy
      clear hy
      by_cases hlt : k < n
      · have hck := HC.out k hlt
        have hkq : k < q.length := by rw [← HL.out]; exact hlt
        have HM := Lib.hid (show q.getD k 0 ∈ q from by
          rw [List.getD_eq_getElem?_getD, List.getElem?_eq_getElem hkq]
          exact List.getElem_mem _)
        have HT := Lib.hid (show q.take (k + 1) = q.take k ++ [q.getD k 0] from by
          rw [List.take_succ_eq_append_getElem hkq]
          simp [List.getD, List.getElem?_eq_getElem hkq])
        clear hkq
        generalize q.getD k 0 = v at *
        cases hv : inR tn v with
        | true =>
          have HT2 := Lib.hid (show (q.take (k + 1)).all (inR tn) = true from by rw [HT.out, List.all_append, HY.out]; simp [hv])
          clear HT
          go_wp2_with fail
          refine (exists_45 _ tn _ _ true hv _).mono ?_
          rintro e w' ⟨rfl, rfl⟩
          go_wp2_with fail
          go_round
          case rel => exact ⟨k + 1, by omega, by go_num, HT2.out⟩
          case measure => simp [intOf]; omega
        | false =>
          have HD := Lib.hid (show q.all (inR tn) = false from by
            rw [List.all_eq_false]
            exact ⟨v, HM.out, by simp [hv]⟩)
          go_wp2_with fail
          refine (exists_45 _ tn _ _ false hv _).mono ?_
          rintro e w' ⟨rfl, rfl⟩
          go_wp2_with fail
          go_ret
          exact ⟨by rw [HD.out]; rfl, rfl⟩
      · have hkn : k = n := by omega
        subst hkn
        have HD := Lib.hid (show q.all (inR tn) = true from by
          have := HY.out
          rwa [HL.out, List.take_length] at this)
        go_wp2_with fail
        go_ret
        exact ⟨by rw [HD.out]; rfl, rfl⟩

set_option maxHeartbeats 1000000 in
theorem existAll_174 (T : Option Addr) (tn tc : Nat) (A : Option Addr) (n c : Nat) (q : List Int) (w : World) (hn : n ≤ 1048576) (h : Nums w A n q) : Calls Tryz.prog 174 #[.slice T tn tc, .slice A n c] w fun e w' => e = .returned (.bool (q.all (inR tn))) ∧ w = w' := by
  obtain ⟨hl, hc⟩ := h
  have HL := Lib.hid hl
  rcases Nat.eq_zero_or_pos n with h0 | hpos
  · subst h0
    clear hc hl
    have hq : q = [] := List.eq_nil_of_length_eq_zero HL.out.symm
    subst hq
    clear HL
    go_enter Tryz.func174, Tryz.ntmps174
    go_wp2_with fail
    refine wp_loop_rounds 1 ?_
    rw [rounds_succ]
    go_wp2_with fail
    go_ret
    exact ⟨rfl, rfl⟩
  · obtain ⟨g, o, rfl, hcell⟩ := hc hpos
    have HC := Lib.hid hcell
    clear hc hcell hl
    go_enter Tryz.func174, Tryz.ntmps174
    go_wp2_with fail
    go_loop [9] (fun i => ∃ k : Nat, k ≤ n ∧ i = .int .i64 k ∧ (q.take k).all (inR tn) = true) (fun i => n - (intOf i).toNat)
    case atStart => exact ⟨0, by omega, rfl, by simp⟩
    case round =>
      obtain ⟨k, hk, rfl, hy⟩ := hrel
      have HY := Lib.hid hy
      clear hy
      by_cases hlt : k < n
      · have hck := HC.out k hlt
        have hkq : k < q.length := by rw [← HL.out]; exact hlt
        have HM := Lib.hid (show q.getD k 0 ∈ q from by
          rw [List.getD_eq_getElem?_getD, List.getElem?_eq_getElem hkq]
          exact List.getElem_mem _)
        have HT := Lib.hid (show q.take (k + 1) = q.take k ++ [q.getD k 0] from by
          rw [List.take_succ_eq_append_getElem hkq]
          simp [List.getD, List.getElem?_eq_getElem hkq])
        clear hkq
        generalize q.getD k 0 = v at *
        cases hv : inR tn v with
        | true =>
          have HT2 := Lib.hid (show (q.take (k + 1)).all (inR tn) = true from by rw [HT.out, List.all_append, HY.out]; simp [hv])
          clear HT
          go_wp2_with fail
          refine (exists_46 _ tn _ _ true hv _).mono ?_
          rintro e w' ⟨rfl, rfl⟩
          go_wp2_with fail
          go_round
          case rel => exact ⟨k + 1, by omega, by go_num, HT2.out⟩
          case measure => simp [intOf]; omega
        | false =>
          have HD := Lib.hid (show q.all (inR tn) = false from by
            rw [List.all_eq_false]
            exact ⟨v, HM.out, by simp [hv]⟩)
          go_wp2_with fail
          refine (exists_46 _ tn _ _ false hv _).mono ?_
          rintro e w' ⟨rfl, rfl⟩
          go_wp2_with fail
          go_ret
          exact ⟨by rw [HD.out]; rfl, rfl⟩
      · have hkn : k = n := by omega
        subst hkn
        have HD := Lib.hid (show q.all (inR tn) = true from by
          have := HY.out
          rwa [HL.out, List.take_length] at this)
        go_wp2_with fail
        go_ret
        exact ⟨by rw [HD.out]; rfl, rfl⟩

/-- A map of numbers. -/
def SeenM (w : World) (m n : Nat) : Prop := ∃ D, w.ownsMap (H := Unit) Tryz.prog 3 (plainElem Tryz.prog 4) m n D
theorem SeenM.look {w : World} {m n : Nat} (h : SeenM w m n) {x : Int} (h0 : 0 ≤ x) (h1 : x ≤ 9223372036854775807) : ∃ b, (Instr.lookup 89 (.map (some m)) (.int .i64 x) false).run Tryz.prog w = .ok (.bool b) w := by
  obtain ⟨D, hD⟩ := h
  obtain ⟨y, hrun, _⟩ := look_bool hD keyI Tryz.underlying89 Tryz.underlying4 (zeroB _) (key_mk x (wf_i64 h0 h1))
  exact ⟨y, hrun⟩
theorem SeenM.lt {w : World} {m n : Nat} (h : SeenM w m n) : m < w.heap.size := by
  obtain ⟨D, hD⟩ := h
  exact hD.lt

set_option maxRecDepth 100000 in
set_option maxHeartbeats 2000000 in
theorem hasTwice_all (A : Option Addr) (n c : Nat) (q : List Int) (w : World) (hn : n ≤ 1048576) (h : Nums w A n q) (hA : 0 < n → ∃ g o, A = some ⟨g, o, none⟩ ∧ g < w.heap.size) (hr : ∀ x ∈ q, 0 ≤ x ∧ x ≤ 9223372036854775807) :
    Calls Tryz.prog 138 #[.slice A n c] w fun e w' => BoolEnd e ∧ Below w.heap.size w w' := by
  have hmm := @run_makeMap Tryz.prog
  obtain ⟨hl, hc⟩ := h
  have HL := Lib.hid hl
  have HR := Lib.hid hr
  rcases Nat.eq_zero_or_pos n with h0 | hpos
  · subst h0
    clear hc hl hr
    have HB := Lib.hid ((Below.refl w.heap.size w).alloc (Nat.le_refl _) (.map #[] 0))
    go_enter Tryz.func138, Tryz.ntmps138
    go_wp2_with fail
    refine wp_loop_rounds 1 ?_
    rw [rounds_succ]
    go_wp2_with fail
    go_ret
    exact ⟨⟨_, rfl⟩, HB.out⟩
  · obtain ⟨g, o, rfl, hcell⟩ := hc hpos
    obtain ⟨g', o', e', hg⟩ := hA hpos
    injection e' with e'
    injection e' with e1 e2
    subst e1 e2
    have HC := Lib.hid hcell
    have HM0 := Lib.hid (show SeenM (w.alloc (.map #[] 0)) w.heap.size 0 from ⟨_, World.ownsMap_made (H := Unit) w Tryz.prog 3 (plainElem Tryz.prog 4)⟩)
    have HB0 := Lib.hid ((Below.refl w.heap.size w).alloc (Nat.le_refl _) (.map #[] 0))
    clear hc hcell hl hr hA
    go_enter Tryz.func138, Tryz.ntmps138
    go_wp2_with fail
    go_loopw [9] (fun i wr => ∃ k : Nat, k ≤ n ∧ i = .int .i64 k ∧ SeenM wr w.heap.size k ∧ Below w.heap.size w wr) (fun i _ => n - (intOf i).toNat)
    case atStart => exact ⟨0, by omega, rfl, HM0.out, HB0.out⟩
    case round =>
      obtain ⟨k, hk, rfl, hM, hB⟩ := hrel
      have HM := Lib.hid hM
      have HB := Lib.hid hB
      clear HM0 HB0 hM hB hmm
      by_cases hlt : k < n
      · have hck := (HB.out.cell (p := ⟨g, o + k, none⟩) hg).trans (HC.out k hlt)
        have hkq : k < q.length := by rw [← HL.out]; exact hlt
        obtain ⟨r0, r1⟩ := HR.out (q.getD k 0) (by
          rw [List.getD_eq_getElem?_getD, List.getElem?_eq_getElem hkq]
          exact List.getElem_mem _)
        clear hkq
        generalize q.getD k 0 = v at *
        obtain ⟨b, hb⟩ := HM.out.look r0 r1
        cases b
        · obtain ⟨D, hD⟩ := HM.out
          have HD := Lib.hid hD
          have hkey := key_mk v (wf_i64 r0 r1)
          clear hD
          go_wp2_with (at_mapUpdate; refine wpList_mapUpdate_own _ rfl _ _ _ 89 rfl 3 4 keyI Tryz.underlying89 _ w.heap.size k _ rfl HD.out (by unfold maxLen; omega) _ _ (.int .i64 v) rfl rfl hkey _ [] (plainElem_bool Tryz.underlying4 true) ?_)
          intro w2 hown2 hgrow2
          have HM2 := Lib.hid (show SeenM w2 w.heap.size (k + 1) from ⟨_, hown2⟩)
          have HB2 := Lib.hid (HB.out.grown hgrow2 (by have := HB.out.size; omega) (fun i e => by cases e; omega))
          clear hown2 hgrow2 hb
          go_wp2_with fail
          go_roundw
          case rel => exact ⟨k + 1, by omega, by go_num, HM2.out, HB2.out⟩
          case measure => simp [intOf]; omega
        · go_wp2_with fail
          go_ret
          exact ⟨⟨_, rfl⟩, HB.out⟩
      · have hkn : k = n := by omega
        subst hkn
        go_wp2_with fail
        go_ret
        exact ⟨⟨_, rfl⟩, HB.out⟩

set_option maxRecDepth 100000 in
set_option maxHeartbeats 4000000 in
theorem isPart_all (A : Option Addr) (n c : Nat) (q : List Int) (A2 : Option Addr) (n2 c2 : Nat) (q2 : List Int) (w : World) (hn : n ≤ 1048576) (hn2 : n2 ≤ 1048576) (h : Nums w A n q) (h2 : Nums w A2 n2 q2) (hA : 0 < n → ∃ g o, A = some ⟨g, o, none⟩ ∧ g < w.heap.size) (hA2 : 0 < n2 → ∃ g o, A2 = some ⟨g, o, none⟩ ∧ g < w.heap.size)
    (hr : ∀ x ∈ q, 0 ≤ x ∧ x ≤ 9223372036854775807) (hr2 : ∀ x ∈ q2, 0 ≤ x ∧ x ≤ 9223372036854775807) :
    Calls Tryz.prog 176 #[.slice A n c, .slice A2 n2 c2] w fun e w' => BoolEnd e ∧ Below w.heap.size w w' := by
  have hmm := @run_makeMap Tryz.prog
  have H := Lib.hid h
  have H2 := Lib.hid h2
  have HA := Lib.hid hA
  have HA2 := Lib.hid hA2
  have HR := Lib.hid hr
  have HR2 := Lib.hid hr2
  have HM0 := Lib.hid (show SeenM (w.alloc (.map #[] 0)) w.heap.size 0 from ⟨_, World.ownsMap_made (H := Unit) w Tryz.prog 3 (plainElem Tryz.prog 4)⟩)
  have HB0 := Lib.hid ((Below.refl w.heap.size w).alloc (Nat.le_refl _) (.map #[] 0))
  clear h h2 hA hA2 hr hr2
  go_enter Tryz.func176, Tryz.ntmps176
  go_wp2_with fail
  go_loopw [13] (fun i wr => ∃ k : Nat, k ≤ n2 ∧ i = .int .i64 k ∧ SeenM wr w.heap.size k ∧ Below w.heap.size w wr) (fun i _ => n2 - (intOf i).toNat)
  case atStart => exact ⟨0, by omega, rfl, HM0.out, HB0.out⟩
  case round =>
    obtain ⟨k, hk, rfl, hM, hB⟩ := hrel
    have HM := Lib.hid hM
    have HB := Lib.hid hB
    clear HM0 HB0 hM hB hmm
    by_cases hlt : k < n2
    · obtain ⟨hl2, hc2⟩ := H2.out
      obtain ⟨g, o, rfl, hcell⟩ := hc2 (by omega)
      obtain ⟨g', o', e', hg⟩ := HA2.out (by omega)
      injection e' with e'
      injection e' with e1 e2
      subst e1 e2
      have hck := (HB.out.cell (p := ⟨g, o + k, none⟩) hg).trans (hcell k hlt)
      have hkq : k < q2.length := by omega
      obtain ⟨r0, r1⟩ := HR2.out (q2.getD k 0) (by
        rw [List.getD_eq_getElem?_getD, List.getElem?_eq_getElem hkq]
        exact List.getElem_mem _)
      clear hkq hc2 hcell hl2
      generalize q2.getD k 0 = v at *
      obtain ⟨D, hD⟩ := HM.out
      have HD := Lib.hid hD
      have hkey := key_mk v (wf_i64 r0 r1)
      clear hD
      go_wp2_with (at_mapUpdate; refine wpList_mapUpdate_own _ rfl _ _ _ 89 rfl 3 4 keyI Tryz.underlying89 _ w.heap.size k _ rfl HD.out (by unfold maxLen; omega) _ _ (.int .i64 v) rfl rfl hkey _ [] (plainElem_bool Tryz.underlying4 true) ?_)
      intro w2 hown2 hgrow2
      have HM2 := Lib.hid (show SeenM w2 w.heap.size (k + 1) from ⟨_, hown2⟩)
      have HB2 := Lib.hid (HB.out.grown hgrow2 (by have := HB.out.size; omega) (fun i e => by cases e; omega))
      clear hown2 hgrow2
      go_wp2_with fail
      go_roundw
      case rel => exact ⟨k + 1, by omega, by go_num, HM2.out, HB2.out⟩
      case measure => simp [intOf]; omega
    · have hkn : k = n2 := by omega
      subst hkn
      clear hlt hk
      go_wp2_with fail
      go_loop [22] (fun i => ∃ j : Nat, j ≤ n ∧ i = .int .i64 j) (fun i => n - (intOf i).toNat)
      case atStart => exact ⟨0, by omega, rfl⟩
      case round =>
        obtain ⟨j, hj, rfl⟩ := hrel
        by_cases hlt : j < n
        · obtain ⟨hl, hc⟩ := H.out
          obtain ⟨g, o, rfl, hcell⟩ := hc (by omega)
          obtain ⟨g', o', e', hg⟩ := HA.out (by omega)
          injection e' with e'
          injection e' with e1 e2
          subst e1 e2
          have hck := (HB.out.cell (p := ⟨g, o + j, none⟩) hg).trans (hcell j hlt)
          have hkq : j < q.length := by omega
          obtain ⟨r0, r1⟩ := HR.out (q.getD j 0) (by
            rw [List.getD_eq_getElem?_getD, List.getElem?_eq_getElem hkq]
            exact List.getElem_mem _)
          clear hkq hc hcell hl
          generalize q.getD j 0 = v at *
          obtain ⟨b, hb⟩ := HM.out.look r0 r1
          cases b
          · go_wp2_with fail
            go_ret
            exact ⟨⟨_, rfl⟩, HB.out⟩
          · go_wp2_with fail
            go_round
            case rel => exact ⟨j + 1, by omega, by go_num⟩
            case measure => simp [intOf]; omega
        · have hkn : j = n := by omega
          subst hkn
          go_wp2_with fail
          go_ret
          exact ⟨⟨_, rfl⟩, HB.out⟩
end Go.Proofs.YtkjjieloncdjhaaGreatDoor
namespace Go.Proofs.YtkjjieloncdjhaaGreatDoor
open Go Go.RowKit

/-- The tables of a program in memory. -/
structure PrgR (L : Nat) (w : World) (ca ma fa ta ya : Option Addr) (cn mn fn tn yn : Nat) : Prop where
  cl : ClRow L w ca cn
  me : MeRow L w ma mn
  fi : FiRow L w fa fn
  tp : TpRow L w ta tn
  tm : TmRow L w ya yn
theorem og_of_below {L : Nat} {w w' : World} (h : Below w.heap.size w w') : Og L w w' := ⟨h.os, h.tape, h.output, h.size, fun k hk _ => h.block k hk⟩
theorem PrgR.below {L : Nat} {w w' : World} {ca ma fa ta ya : Option Addr} {cn mn fn tn yn : Nat} (h : PrgR L w ca ma fa ta ya cn mn fn tn yn) (hB : Below w.heap.size w w') : PrgR L w' ca ma fa ta ya cn mn fn tn yn :=
  ⟨h.cl.og (og_of_below hB), h.me.og (og_of_below hB), h.fi.og (og_of_below hB), h.tp.og (og_of_below hB), h.tm.og (og_of_below hB)⟩

theorem NumL.lies {w : World} {B : Nat} {s : Sl} {q : List Int} (h : NumL w B s q) {W : World} (hW : B ≤ W.heap.size) : 0 < s.l → ∃ g o, s.a = some ⟨g, o, none⟩ ∧ g < W.heap.size := fun h0 => by
  obtain ⟨g, o, e, hg, _⟩ := h.2 0 (by have := h.1; omega)
  exact ⟨g, o, e, by omega⟩
theorem rng_of {q : List Int} {n : Nat} (h : q.all (inR n) = true) (hn : n ≤ 1048576) : ∀ x ∈ q, 0 ≤ x ∧ x ≤ 9223372036854775807 := fun x hx => by
  have := inR_iff.1 (List.all_eq_true.1 h x hx)
  omega

theorem name_some (s : ByteArray) (w : World) (hs : s.size ≤ 9223372036854775807) : Calls Tryz.prog 11 #[.string s] w fun e w' => BoolEnd e ∧ Below w.heap.size w w' := by
  by_cases h : s.size ≤ 100000
  · refine (isName_any s w h).mono ?_
    rintro e w' ⟨rfl, hB⟩
    exact ⟨⟨_, rfl⟩, hB⟩
  · have h0 := full_of (s := s) (by omega)
    have h1 := full_of' (s := s) (by omega)
    have h2 : ¬ (s.size : Int) ≤ 64 := by omega
    clear h
    go_enter Tryz.func11, Tryz.ntmps11
    go_wp2_with fail
    go_ret
    exact ⟨⟨_, rfl⟩, Below.refl _ _⟩

def existF (qt qp qf qm qy : List Int) (mn fn tn yn : Nat) : Bool := qt.all (inR tn) && (qp.all (inR fn) && (qf.all (inR fn) && (qm.all (inR mn) && qy.all (inR yn))))

/-- The lists of numbers of a class. -/
structure ClN (w : World) (B : Nat) (x : ClC) (qt qp qf qm qy : List Int) : Prop where
  tp : NumL w B x.tp qt
  pa : NumL w B x.pa qp
  fi : NumL w B x.fi qf
  me : NumL w B x.me qm
  ty : NumL w B x.ty qy
  ltp : x.tp.l ≤ 1048576
  lpa : x.pa.l ≤ 1048576
  lfi : x.fi.l ≤ 1048576
  lme : x.me.l ≤ 1048576
  lty : x.ty.l ≤ 1048576
theorem ClN.below {w w' : World} {B : Nat} {x : ClC} {qt qp qf qm qy : List Int} (h : ClN w B x qt qp qf qm qy) (hB : Below B w w') : ClN w' B x qt qp qf qm qy :=
  ⟨h.tp.below hB, h.pa.below hB, h.fi.below hB, h.me.below hB, h.ty.below hB, h.ltp, h.lpa, h.lfi, h.lme, h.lty⟩
theorem ClN.of {w : World} {L : Nat} {x : ClC} (h : ClOk L w x) : ∃ qt qp qf qm qy, ClN w w.heap.size x qt qp qf qm qy := by
  obtain ⟨qt, h1⟩ := NumL.of h.ntp
  obtain ⟨qp, h2⟩ := NumL.of h.npa
  obtain ⟨qf, h3⟩ := NumL.of h.nfi
  obtain ⟨qm, h4⟩ := NumL.of h.nme
  obtain ⟨qy, h5⟩ := NumL.of h.nty
  exact ⟨qt, qp, qf, qm, qy, h1, h2, h3, h4, h5, h.tp, h.pa, h.fi, h.me, h.ty⟩

set_option maxRecDepth 100000 in
set_option maxHeartbeats 4000000 in
theorem existLists_all (x : ClC) (qt qp qf qm qy : List Int) (ca ma fa ta ya : Option Addr) (cn mn fn tn yn cc mc fc tc yc : Nat) (mi : Int) (w : World) (h : ClN w w.heap.size x qt qp qf qm qy) :
    Calls Tryz.prog 136 #[.agg #[.slice ca cn cc, .slice ma mn mc, .slice fa fn fc, .slice ta tn tc, .slice ya yn yc, .int .i64 mi], .agg x.cells.toArray] w fun e w' => e = .returned (.bool (existF qt qp qf qm qy mn fn tn yn)) ∧ Below w.heap.size w w' := by
  have hB1 := (Bl.new w 30 [.slice ca cn cc, .slice ma mn mc, .slice fa fn fc, .slice ta tn tc, .slice ya yn yc, .int .i64 mi]).alloc (.cells x.cells.toArray 37)
  have hB2 := Bl.new (w.alloc (.cells #[.slice ca cn cc, .slice ma mn mc, .slice fa fn fc, .slice ta tn tc, .slice ya yn yc, .int .i64 mi] 30)) 37 x.cells
  have p1 := hB1.cell 1
  have p2 := hB1.cell 2
  have p3 := hB1.cell 3
  have p4 := hB1.cell 4
  have c4 := hB2.cell 4
  have c6 := hB2.cell 6
  have c7 := hB2.cell 7
  have c8 := hB2.cell 8
  have c9 := hB2.cell 9
  simp only [List.getElem?_cons_zero, List.getElem?_cons_succ, World.size_alloc] at p1 p2 p3 p4 c4 c6 c7 c8 c9
  have HB := Lib.hid (((Below.refl w.heap.size w).alloc (Nat.le_refl _) (.cells #[.slice ca cn cc, .slice ma mn mc, .slice fa fn fc, .slice ta tn tc, .slice ya yn yc, .int .i64 mi] 30)).alloc (by simp) (.cells x.cells.toArray 37))
  have HN := Lib.hid (h.below HB.out)
  clear hB1 hB2 h
  go_enter Tryz.func136, Tryz.ntmps136
  go_wp2_with fail
  refine (existAll_146 _ tn _ _ _ _ qt _ HN.out.ltp HN.out.tp.nums).mono ?_
  rintro e w' ⟨rfl, rfl⟩
  cases h1 : qt.all (inR tn) with
  | false =>
    go_wp2_with fail
    go_ret
    exact ⟨by simp [existF, h1], HB.out⟩
  | true =>
    go_wp2_with fail
    refine (existAll_172 _ fn _ _ _ _ qp _ HN.out.lpa HN.out.pa.nums).mono ?_
    rintro e w' ⟨rfl, rfl⟩
    cases h2 : qp.all (inR fn) with
    | false =>
      go_wp2_with fail
      go_ret
      exact ⟨by simp [existF, h2], HB.out⟩
    | true =>
      go_wp2_with fail
      refine (existAll_172 _ fn _ _ _ _ qf _ HN.out.lfi HN.out.fi.nums).mono ?_
      rintro e w' ⟨rfl, rfl⟩
      cases h3 : qf.all (inR fn) with
      | false =>
        go_wp2_with fail
        go_ret
        exact ⟨by simp [existF, h3], HB.out⟩
      | true =>
        go_wp2_with fail
        refine (existAll_173 _ mn _ _ _ _ qm _ HN.out.lme HN.out.me.nums).mono ?_
        rintro e w' ⟨rfl, rfl⟩
        cases h4 : qm.all (inR mn) with
        | false =>
          go_wp2_with fail
          go_ret
          exact ⟨by simp [existF, h4], HB.out⟩
        | true =>
          go_wp2_with fail
          refine (existAll_174 _ yn _ _ _ _ qy _ HN.out.lty HN.out.ty.nums).mono ?_
          rintro e w' ⟨rfl, rfl⟩
          go_wp2_with fail
          go_ret
          exact ⟨by simp [existF, h1, h2, h3, h4], HB.out⟩

set_option maxRecDepth 100000 in
set_option maxHeartbeats 4000000 in
theorem twices_all (g : Nat) (ls : List (Sl × List Int)) (w : World) (hg : g < w.heap.size) (hl : ls.length = 5) (h : ∀ j p, ls[j]? = some p → w.cell? ⟨g, j, none⟩ = some (.slice p.1.a p.1.l p.1.c) ∧ NumL w w.heap.size p.1 p.2 ∧ p.1.l ≤ 1048576 ∧ ∀ x ∈ p.2, 0 ≤ x ∧ x ≤ 9223372036854775807) :
    Calls Tryz.prog 175 #[.slice (some ⟨g, 0, none⟩) 5 5, .func (.func 138) #[] #[]] w fun e w' => (∃ z : Int, e = .returned (.int .i64 z)) ∧ Below w.heap.size w w' := by
  have H := Lib.hid h
  have HL := Lib.hid hl
  clear h hl
  go_enter Tryz.func175, Tryz.ntmps175
  go_wp2_with fail
  go_loopw [8] (fun i wr => ∃ k : Nat, k ≤ 5 ∧ i = .int .i64 k ∧ Below w.heap.size w wr) (fun i _ => 5 - (intOf i).toNat)
  case atStart => exact ⟨0, by omega, rfl, Below.refl _ _⟩
  case round =>
    obtain ⟨k, hk, rfl, hB⟩ := hrel
    have HB := Lib.hid hB
    have hsz := hB.size
    by_cases hlt : k < 5
    · obtain ⟨p, hp⟩ : ∃ p, ls[k]? = some p := ⟨_, List.getElem?_eq_getElem (by rw [HL.out]; exact hlt)⟩
      obtain ⟨h1, h2, h3, h4⟩ := H.out k p hp
      have hc := (hB.cell (p := ⟨g, k, none⟩) hg).trans h1
      have HN := Lib.hid (h2.below hB)
      have HR := Lib.hid h4
      obtain ⟨⟨pa, pl, pc⟩, q⟩ := p
      clear hB h1 h2 h4 hp
      go_wp2_with fail
      refine (hasTwice_all pa pl pc q _ h3 HN.out.nums (HN.out.lies hsz) HR.out).mono ?_
      rintro e w1 ⟨⟨r, rfl⟩, hB1⟩
      have HB1 := Lib.hid (HB.out.trans (hB1.mono hsz))
      clear hB1 hc
      cases r
      · go_wp2_with fail
        go_roundw
        case rel => exact ⟨k + 1, by omega, by go_num, HB1.out⟩
        case measure => simp [intOf]; omega
      · go_wp2_with fail
        go_ret
        exact ⟨⟨_, rfl⟩, HB1.out⟩
    · go_wp2_with fail
      go_ret
      exact ⟨⟨_, rfl⟩, HB.out⟩

theorem twice5_all (g : Nat) (ls : List (Sl × List Int)) (w : World) (hg : g < w.heap.size) (hl : ls.length = 5) (h : ∀ j p, ls[j]? = some p → w.cell? ⟨g, j, none⟩ = some (.slice p.1.a p.1.l p.1.c) ∧ NumL w w.heap.size p.1 p.2 ∧ p.1.l ≤ 1048576 ∧ ∀ x ∈ p.2, 0 ≤ x ∧ x ≤ 9223372036854775807) :
    Calls Tryz.prog 137 #[.slice (some ⟨g, 0, none⟩) 5 5, .func (.func 138) #[] #[]] w fun e w' => BoolEnd e ∧ Below w.heap.size w w' := by
  have H := Lib.hid (twices_all g ls w hg hl h)
  clear h
  go_enter Tryz.func137, Tryz.ntmps137
  go_wp2_with fail
  refine H.out.mono ?_
  rintro e w1 ⟨⟨z, rfl⟩, hB⟩
  have HB := Lib.hid hB
  clear hB
  go_wp2_with fail
  go_ret
  exact ⟨⟨_, rfl⟩, HB.out⟩
end Go.Proofs.YtkjjieloncdjhaaGreatDoor
