/- Check of three classes. -/
import Derived.Test.YtkjjieloncdjhaaGreatDoorL18
namespace Go.Proofs.YtkjjieloncdjhaaGreatDoor
open Go Go.RowKit

theorem ok_88 (b c pa pb pc j : Nat) (hj : j < 3) (W : World) (h : PW W b nmA pa pb pc) : Calls Tryz.prog 88 #[prgV b c, .int .i64 (j : Int)] W fun e w' => e = .returned (i64 0) ∧ Below W.heap.size W w' := by
  match j, hj with
  | 0, _ => exact checkClass_0 b c pa pb pc nmA W h (by decide +kernel) (by decide)
  | 1, _ => exact checkClass_1 b c pa pb pc nmA W h
  | 2, _ => exact checkClass_2 b c pa pb pc nmA W h

theorem ok_89 (b c pa pb pc j : Nat) (hj : j < 3) (W : World) (h : PW W b nmA pa pb pc) : Calls Tryz.prog 89 #[prgV b c, .int .i64 (j : Int)] W fun e w' => e = .returned (i64 0) ∧ Below W.heap.size W w' := by
  match j, hj with
  | 0, _ => exact checkNesting_i 0 (by decide) b c pa pb pc nmA W h
  | 1, _ => exact checkNesting_i 1 (by decide) b c pa pb pc nmA W h
  | 2, _ => exact checkNesting_i 2 (by decide) b c pa pb pc nmA W h

theorem ok_90 (b c pa pb pc j : Nat) (hj : j < 3) (W : World) (h : PW W b nmA pa pb pc) : Calls Tryz.prog 90 #[prgV b c, .int .i64 (j : Int)] W fun e w' => e = .returned (i64 0) ∧ Below W.heap.size W w' := by
  match j, hj with
  | 0, _ => exact checkParents_0 b c pa pb pc nmA W h
  | 1, _ => exact checkParents_1 b c pa pb pc nmA W h
  | 2, _ => exact checkParents_2 b c pa pb pc nmA W h

theorem ok_91 (b c pa pb pc j : Nat) (hj : j < 3) (W : World) (h : PW W b nmA pa pb pc) : Calls Tryz.prog 91 #[prgV b c, .int .i64 (j : Int)] W fun e w' => e = .returned (i64 0) ∧ Below W.heap.size W w' := by
  match j, hj with
  | 0, _ => exact checkAncestors_0 b c pa pb pc nmA W h
  | 1, _ => exact checkAncestors_1 b c pa pb pc nmA W h
  | 2, _ => exact checkAncestors_2 b c pa pb pc nmA W h

theorem ok_96 (b c pa pb pc j : Nat) (hj : j < 3) (W : World) (h : PW W b nmA pa pb pc) : Calls Tryz.prog 96 #[prgV b c, .int .i64 (j : Int)] W fun e w' => e = .returned (i64 0) ∧ Below W.heap.size W w' := by
  match j, hj with
  | 0, _ => exact checkClassName_0 b c pa pb pc W h
  | 1, _ => exact checkClassName_1 b c pa pb pc W h
  | 2, _ => exact checkClassName_2 b c pa pb pc W h

set_option maxRecDepth 100000 in
set_option maxHeartbeats 80000000 in
theorem check_good (b c pa pb pc : Nat) (w : World) (h : PW w b nmA pa pb pc) : Calls Tryz.prog 30 #[prgV b c] w fun e w' => e = .returned (.agg #[i64 0, i64 0, i64 0]) ∧ Below w.heap.size w w' := by
  have H := Lib.hid h
  clear h
  have i0 := ix0
  have i1 := ix1
  have i2 := ix2
  have i3 := ix3
  have i4 := ix4
  have i5 := ix5
  have F := Lib.hid (((Frs.nil w).snoc (by simp) 30 (prgL b c)).snoc (by simp) 55 [i64 0, i64 0, i64 0])
  go_enter Tryz.func30, Tryz.ntmps30
  go_wp2_with fail
  refine (sizes_any b c _).mono ?_
  rintro e w1 ⟨rfl, hB⟩
  have F1 := Lib.hid (F.out.below hB)
  clear hB F
  go_wp2_with fail
  refine wp_loop_rounds 7 ?_
  rw [rounds_succ]
  go_wp2_with fail
  rw [rounds_succ]
  go_wp2_with fail
  rw [rounds_succ]
  go_wp2_with fail
  rw [rounds_succ]
  go_wp2_with fail
  rw [rounds_succ]
  go_wp2_with fail
  rw [rounds_succ]
  go_wp2_with fail
  rw [rounds_succ]
  go_wp2_with fail
  refine (rules_any _).mono ?_
  rintro e w2 ⟨rfl, rfl⟩
  have K0 := Lib.hid (show Ck w _ b c w1.heap.size from ⟨F1.out.alloc _, Bl.new w1 118 rulesL⟩)
  clear F1
  go_wp2_with fail
  obtain ⟨g, hg⟩ : ∃ g : Nat, g = w1.heap.size := ⟨_, rfl⟩
  rw [← hg] at K0 ⊢
  clear hg
  go_loopw [21] (fun s wr => ∃ k : Int, 0 ≤ k ∧ k ≤ 13 ∧ s = .int .i64 k ∧ Ck w wr b c g) (fun s _ => 13 - (intOf s).toNat)
  case atStart => exact ⟨0, by omega, by omega, rfl, K0.out⟩
  case round =>
    obtain ⟨k, hk0, hk, rfl, hK⟩ := hrel
    have K := Lib.hid hK
    clear hK K0
    obtain ⟨p0, p1, p2, p3, p4, p5⟩ := K.out.fr.b0.six
    have hs : w.heap.size + 2 ≤ wr.heap.size := K.out.fr.size
    have hl1 : w.heap.size < wr.heap.size := by omega
    have hl2 : ¬ w.heap.size = wr.heap.size := by omega
    have hl3 : g < wr.heap.size := K.out.ru.lt
    have hl4 : ¬ g = wr.heap.size := by omega
    have hcase : k = 0 ∨ k = 1 ∨ k = 2 ∨ k = 3 ∨ k = 4 ∨ k = 5 ∨ k = 6 ∨ k = 7 ∨ k = 8 ∨ k = 9 ∨ k = 10 ∨ k = 11 ∨ k = 12 ∨ k = 13 := by omega
    clear hk0 hk
    rcases hcase with rfl | rfl | rfl | rfl | rfl | rfl | rfl | rfl | rfl | rfl | rfl | rfl | rfl | rfl
    · have r0 : wr.cell? ⟨g, 0, none⟩ = some (i64 1) := K.out.ru.cell 0
      have r1 : wr.cell? ⟨g, 1, none⟩ = some (fn 88) := K.out.ru.cell 1
      go_upto_region 10 with fail
      have R := Lib.hid (show Bl (wr.alloc (.cells #[i64 1, fn 88] 118)) wr.heap.size 118 [i64 1, fn 88] from Bl.new wr 118 [i64 1, fn 88])
      have K1 := Lib.hid (K.out.alloc (.cells #[i64 1, fn 88] 118))
      go_cut [29, 30] from 25 to 28 (fun x y wx => x = i64 3 ∧ y = i64 0 ∧ Ck w wx b c g ∧ Bl wx wr.heap.size 118 [i64 1, fn 88])
      case first =>
        go_region_with (go_at_call 62; refine (sizes_any b c _).mono ?_; rintro e w3 ⟨rfl, hB⟩; have K3 := Lib.hid (K1.out.drew.below hB); have R3 := Lib.hid (R.out.drew.below hB R.out.drew.lt); clear hB; have q0 := R3.out.cell 0; have q1 := R3.out.cell 1)
        all_goals (go_wp2_with fail; go_meet; exact ⟨rfl, rfl, K3.out, R3.out⟩)
      case rest =>
        obtain ⟨rfl, rfl, KC, RC⟩ := hcut
        have K3 := Lib.hid KC
        clear KC K K1 R r0 r1 p0 p1 p2 p3 p4 p5 hs hl1 hl2 hl3 hl4
        generalize wr.heap.size = gr at *
        have R3 := Lib.hid RC
        clear RC
        go_wp2_with fail
        go_loopw [30] (fun s wq => ∃ j : Nat, j ≤ 3 ∧ s = .int .i64 j ∧ Ck w wq b c g ∧ Bl wq gr 118 [i64 1, fn 88]) (fun s _ => 3 - (intOf s).toNat)
        case atStart => exact ⟨0, by omega, rfl, K3.out, R3.out⟩
        case round =>
          obtain ⟨j, hj, rfl, hK, hR⟩ := hrel
          have K4 := Lib.hid hK
          have R4 := Lib.hid hR
          clear hK hR K3 R3
          obtain ⟨p0, p1, p2, p3, p4, p5⟩ := K4.out.fr.b0.six
          have q0 := R4.out.cell 0
          have q1 := R4.out.cell 1
          by_cases hlj : j < 3
          · go_wp2_with fail
            refine (ok_88 b c pa pb pc j hlj _ (H.out.below K4.out.fr.be)).mono ?_
            rintro e w5 ⟨rfl, hB⟩
            have K5 := Lib.hid (K4.out.below hB)
            have R5 := Lib.hid (R4.out.below hB R4.out.lt)
            clear hB K4 R4 p0 p1 p2 p3 p4 p5 q0 q1
            go_wp2_with fail
            go_roundw
            case rel => exact ⟨j + 1, by omega, by go_num, K5.out, R5.out⟩
            case measure => simp [intOf]; omega
          · have hj3 : j = 3 := by omega
            subst hj3
            go_wp2_with fail
            go_roundw
            case rel => exact ⟨1, by omega, by omega, rfl, K4.out⟩
            case measure => simp [intOf]
    · have r0 : wr.cell? ⟨g, 2, none⟩ = some (i64 1) := K.out.ru.cell 2
      have r1 : wr.cell? ⟨g, 3, none⟩ = some (fn 89) := K.out.ru.cell 3
      go_upto_region 10 with fail
      have R := Lib.hid (show Bl (wr.alloc (.cells #[i64 1, fn 89] 118)) wr.heap.size 118 [i64 1, fn 89] from Bl.new wr 118 [i64 1, fn 89])
      have K1 := Lib.hid (K.out.alloc (.cells #[i64 1, fn 89] 118))
      go_cut [29, 30] from 25 to 28 (fun x y wx => x = i64 3 ∧ y = i64 0 ∧ Ck w wx b c g ∧ Bl wx wr.heap.size 118 [i64 1, fn 89])
      case first =>
        go_region_with (go_at_call 62; refine (sizes_any b c _).mono ?_; rintro e w3 ⟨rfl, hB⟩; have K3 := Lib.hid (K1.out.drew.below hB); have R3 := Lib.hid (R.out.drew.below hB R.out.drew.lt); clear hB; have q0 := R3.out.cell 0; have q1 := R3.out.cell 1)
        all_goals (go_wp2_with fail; go_meet; exact ⟨rfl, rfl, K3.out, R3.out⟩)
      case rest =>
        obtain ⟨rfl, rfl, KC, RC⟩ := hcut
        have K3 := Lib.hid KC
        clear KC K K1 R r0 r1 p0 p1 p2 p3 p4 p5 hs hl1 hl2 hl3 hl4
        generalize wr.heap.size = gr at *
        have R3 := Lib.hid RC
        clear RC
        go_wp2_with fail
        go_loopw [30] (fun s wq => ∃ j : Nat, j ≤ 3 ∧ s = .int .i64 j ∧ Ck w wq b c g ∧ Bl wq gr 118 [i64 1, fn 89]) (fun s _ => 3 - (intOf s).toNat)
        case atStart => exact ⟨0, by omega, rfl, K3.out, R3.out⟩
        case round =>
          obtain ⟨j, hj, rfl, hK, hR⟩ := hrel
          have K4 := Lib.hid hK
          have R4 := Lib.hid hR
          clear hK hR K3 R3
          obtain ⟨p0, p1, p2, p3, p4, p5⟩ := K4.out.fr.b0.six
          have q0 := R4.out.cell 0
          have q1 := R4.out.cell 1
          by_cases hlj : j < 3
          · go_wp2_with fail
            refine (ok_89 b c pa pb pc j hlj _ (H.out.below K4.out.fr.be)).mono ?_
            rintro e w5 ⟨rfl, hB⟩
            have K5 := Lib.hid (K4.out.below hB)
            have R5 := Lib.hid (R4.out.below hB R4.out.lt)
            clear hB K4 R4 p0 p1 p2 p3 p4 p5 q0 q1
            go_wp2_with fail
            go_roundw
            case rel => exact ⟨j + 1, by omega, by go_num, K5.out, R5.out⟩
            case measure => simp [intOf]; omega
          · have hj3 : j = 3 := by omega
            subst hj3
            go_wp2_with fail
            go_roundw
            case rel => exact ⟨2, by omega, by omega, rfl, K4.out⟩
            case measure => simp [intOf]
    · have r0 : wr.cell? ⟨g, 4, none⟩ = some (i64 1) := K.out.ru.cell 4
      have r1 : wr.cell? ⟨g, 5, none⟩ = some (fn 90) := K.out.ru.cell 5
      go_upto_region 10 with fail
      have R := Lib.hid (show Bl (wr.alloc (.cells #[i64 1, fn 90] 118)) wr.heap.size 118 [i64 1, fn 90] from Bl.new wr 118 [i64 1, fn 90])
      have K1 := Lib.hid (K.out.alloc (.cells #[i64 1, fn 90] 118))
      go_cut [29, 30] from 25 to 28 (fun x y wx => x = i64 3 ∧ y = i64 0 ∧ Ck w wx b c g ∧ Bl wx wr.heap.size 118 [i64 1, fn 90])
      case first =>
        go_region_with (go_at_call 62; refine (sizes_any b c _).mono ?_; rintro e w3 ⟨rfl, hB⟩; have K3 := Lib.hid (K1.out.drew.below hB); have R3 := Lib.hid (R.out.drew.below hB R.out.drew.lt); clear hB; have q0 := R3.out.cell 0; have q1 := R3.out.cell 1)
        all_goals (go_wp2_with fail; go_meet; exact ⟨rfl, rfl, K3.out, R3.out⟩)
      case rest =>
        obtain ⟨rfl, rfl, KC, RC⟩ := hcut
        have K3 := Lib.hid KC
        clear KC K K1 R r0 r1 p0 p1 p2 p3 p4 p5 hs hl1 hl2 hl3 hl4
        generalize wr.heap.size = gr at *
        have R3 := Lib.hid RC
        clear RC
        go_wp2_with fail
        go_loopw [30] (fun s wq => ∃ j : Nat, j ≤ 3 ∧ s = .int .i64 j ∧ Ck w wq b c g ∧ Bl wq gr 118 [i64 1, fn 90]) (fun s _ => 3 - (intOf s).toNat)
        case atStart => exact ⟨0, by omega, rfl, K3.out, R3.out⟩
        case round =>
          obtain ⟨j, hj, rfl, hK, hR⟩ := hrel
          have K4 := Lib.hid hK
          have R4 := Lib.hid hR
          clear hK hR K3 R3
          obtain ⟨p0, p1, p2, p3, p4, p5⟩ := K4.out.fr.b0.six
          have q0 := R4.out.cell 0
          have q1 := R4.out.cell 1
          by_cases hlj : j < 3
          · go_wp2_with fail
            refine (ok_90 b c pa pb pc j hlj _ (H.out.below K4.out.fr.be)).mono ?_
            rintro e w5 ⟨rfl, hB⟩
            have K5 := Lib.hid (K4.out.below hB)
            have R5 := Lib.hid (R4.out.below hB R4.out.lt)
            clear hB K4 R4 p0 p1 p2 p3 p4 p5 q0 q1
            go_wp2_with fail
            go_roundw
            case rel => exact ⟨j + 1, by omega, by go_num, K5.out, R5.out⟩
            case measure => simp [intOf]; omega
          · have hj3 : j = 3 := by omega
            subst hj3
            go_wp2_with fail
            go_roundw
            case rel => exact ⟨3, by omega, by omega, rfl, K4.out⟩
            case measure => simp [intOf]
    · have r0 : wr.cell? ⟨g, 6, none⟩ = some (i64 1) := K.out.ru.cell 6
      have r1 : wr.cell? ⟨g, 7, none⟩ = some (fn 91) := K.out.ru.cell 7
      go_upto_region 10 with fail
      have R := Lib.hid (show Bl (wr.alloc (.cells #[i64 1, fn 91] 118)) wr.heap.size 118 [i64 1, fn 91] from Bl.new wr 118 [i64 1, fn 91])
      have K1 := Lib.hid (K.out.alloc (.cells #[i64 1, fn 91] 118))
      go_cut [29, 30] from 25 to 28 (fun x y wx => x = i64 3 ∧ y = i64 0 ∧ Ck w wx b c g ∧ Bl wx wr.heap.size 118 [i64 1, fn 91])
      case first =>
        go_region_with (go_at_call 62; refine (sizes_any b c _).mono ?_; rintro e w3 ⟨rfl, hB⟩; have K3 := Lib.hid (K1.out.drew.below hB); have R3 := Lib.hid (R.out.drew.below hB R.out.drew.lt); clear hB; have q0 := R3.out.cell 0; have q1 := R3.out.cell 1)
        all_goals (go_wp2_with fail; go_meet; exact ⟨rfl, rfl, K3.out, R3.out⟩)
      case rest =>
        obtain ⟨rfl, rfl, KC, RC⟩ := hcut
        have K3 := Lib.hid KC
        clear KC K K1 R r0 r1 p0 p1 p2 p3 p4 p5 hs hl1 hl2 hl3 hl4
        generalize wr.heap.size = gr at *
        have R3 := Lib.hid RC
        clear RC
        go_wp2_with fail
        go_loopw [30] (fun s wq => ∃ j : Nat, j ≤ 3 ∧ s = .int .i64 j ∧ Ck w wq b c g ∧ Bl wq gr 118 [i64 1, fn 91]) (fun s _ => 3 - (intOf s).toNat)
        case atStart => exact ⟨0, by omega, rfl, K3.out, R3.out⟩
        case round =>
          obtain ⟨j, hj, rfl, hK, hR⟩ := hrel
          have K4 := Lib.hid hK
          have R4 := Lib.hid hR
          clear hK hR K3 R3
          obtain ⟨p0, p1, p2, p3, p4, p5⟩ := K4.out.fr.b0.six
          have q0 := R4.out.cell 0
          have q1 := R4.out.cell 1
          by_cases hlj : j < 3
          · go_wp2_with fail
            refine (ok_91 b c pa pb pc j hlj _ (H.out.below K4.out.fr.be)).mono ?_
            rintro e w5 ⟨rfl, hB⟩
            have K5 := Lib.hid (K4.out.below hB)
            have R5 := Lib.hid (R4.out.below hB R4.out.lt)
            clear hB K4 R4 p0 p1 p2 p3 p4 p5 q0 q1
            go_wp2_with fail
            go_roundw
            case rel => exact ⟨j + 1, by omega, by go_num, K5.out, R5.out⟩
            case measure => simp [intOf]; omega
          · have hj3 : j = 3 := by omega
            subst hj3
            go_wp2_with fail
            go_roundw
            case rel => exact ⟨4, by omega, by omega, rfl, K4.out⟩
            case measure => simp [intOf]
    · have r0 : wr.cell? ⟨g, 8, none⟩ = some (i64 2) := K.out.ru.cell 8
      have r1 : wr.cell? ⟨g, 9, none⟩ = some (fn 92) := K.out.ru.cell 9
      go_upto_region 10 with fail
      have R := Lib.hid (show Bl (wr.alloc (.cells #[i64 2, fn 92] 118)) wr.heap.size 118 [i64 2, fn 92] from Bl.new wr 118 [i64 2, fn 92])
      have K1 := Lib.hid (K.out.alloc (.cells #[i64 2, fn 92] 118))
      go_cut [29, 30] from 25 to 28 (fun x y wx => x = i64 0 ∧ y = i64 0 ∧ Ck w wx b c g ∧ Bl wx wr.heap.size 118 [i64 2, fn 92])
      case first =>
        go_region_with (go_at_call 62; refine (sizes_any b c _).mono ?_; rintro e w3 ⟨rfl, hB⟩; have K3 := Lib.hid (K1.out.drew.below hB); have R3 := Lib.hid (R.out.drew.below hB R.out.drew.lt); clear hB; have q0 := R3.out.cell 0; have q1 := R3.out.cell 1)
        all_goals (go_wp2_with fail; go_meet; exact ⟨rfl, rfl, K3.out, R3.out⟩)
      case rest =>
        obtain ⟨rfl, rfl, KC, RC⟩ := hcut
        have K3 := Lib.hid KC
        clear KC K K1 R r0 r1 p0 p1 p2 p3 p4 p5 hs hl1 hl2 hl3 hl4
        generalize wr.heap.size = gr at *
        have R3 := Lib.hid RC
        clear RC
        go_wp2_with fail
        refine wp_loop_rounds 1 ?_
        rw [rounds_succ]
        go_wp2_with fail
        go_roundw
        case rel => exact ⟨5, by omega, by omega, rfl, K3.out⟩
        case measure => simp [intOf]
    · have r0 : wr.cell? ⟨g, 10, none⟩ = some (i64 3) := K.out.ru.cell 10
      have r1 : wr.cell? ⟨g, 11, none⟩ = some (fn 93) := K.out.ru.cell 11
      go_upto_region 10 with fail
      have R := Lib.hid (show Bl (wr.alloc (.cells #[i64 3, fn 93] 118)) wr.heap.size 118 [i64 3, fn 93] from Bl.new wr 118 [i64 3, fn 93])
      have K1 := Lib.hid (K.out.alloc (.cells #[i64 3, fn 93] 118))
      go_cut [29, 30] from 25 to 28 (fun x y wx => x = i64 0 ∧ y = i64 0 ∧ Ck w wx b c g ∧ Bl wx wr.heap.size 118 [i64 3, fn 93])
      case first =>
        go_region_with (go_at_call 62; refine (sizes_any b c _).mono ?_; rintro e w3 ⟨rfl, hB⟩; have K3 := Lib.hid (K1.out.drew.below hB); have R3 := Lib.hid (R.out.drew.below hB R.out.drew.lt); clear hB; have q0 := R3.out.cell 0; have q1 := R3.out.cell 1)
        all_goals (go_wp2_with fail; go_meet; exact ⟨rfl, rfl, K3.out, R3.out⟩)
      case rest =>
        obtain ⟨rfl, rfl, KC, RC⟩ := hcut
        have K3 := Lib.hid KC
        clear KC K K1 R r0 r1 p0 p1 p2 p3 p4 p5 hs hl1 hl2 hl3 hl4
        generalize wr.heap.size = gr at *
        have R3 := Lib.hid RC
        clear RC
        go_wp2_with fail
        refine wp_loop_rounds 1 ?_
        rw [rounds_succ]
        go_wp2_with fail
        go_roundw
        case rel => exact ⟨6, by omega, by omega, rfl, K3.out⟩
        case measure => simp [intOf]
    · have r0 : wr.cell? ⟨g, 12, none⟩ = some (i64 4) := K.out.ru.cell 12
      have r1 : wr.cell? ⟨g, 13, none⟩ = some (fn 94) := K.out.ru.cell 13
      go_upto_region 10 with fail
      have R := Lib.hid (show Bl (wr.alloc (.cells #[i64 4, fn 94] 118)) wr.heap.size 118 [i64 4, fn 94] from Bl.new wr 118 [i64 4, fn 94])
      have K1 := Lib.hid (K.out.alloc (.cells #[i64 4, fn 94] 118))
      go_cut [29, 30] from 25 to 28 (fun x y wx => x = i64 0 ∧ y = i64 0 ∧ Ck w wx b c g ∧ Bl wx wr.heap.size 118 [i64 4, fn 94])
      case first =>
        go_region_with (go_at_call 62; refine (sizes_any b c _).mono ?_; rintro e w3 ⟨rfl, hB⟩; have K3 := Lib.hid (K1.out.drew.below hB); have R3 := Lib.hid (R.out.drew.below hB R.out.drew.lt); clear hB; have q0 := R3.out.cell 0; have q1 := R3.out.cell 1)
        all_goals (go_wp2_with fail; go_meet; exact ⟨rfl, rfl, K3.out, R3.out⟩)
      case rest =>
        obtain ⟨rfl, rfl, KC, RC⟩ := hcut
        have K3 := Lib.hid KC
        clear KC K K1 R r0 r1 p0 p1 p2 p3 p4 p5 hs hl1 hl2 hl3 hl4
        generalize wr.heap.size = gr at *
        have R3 := Lib.hid RC
        clear RC
        go_wp2_with fail
        refine wp_loop_rounds 1 ?_
        rw [rounds_succ]
        go_wp2_with fail
        go_roundw
        case rel => exact ⟨7, by omega, by omega, rfl, K3.out⟩
        case measure => simp [intOf]
    · have r0 : wr.cell? ⟨g, 14, none⟩ = some (i64 5) := K.out.ru.cell 14
      have r1 : wr.cell? ⟨g, 15, none⟩ = some (fn 95) := K.out.ru.cell 15
      go_upto_region 10 with fail
      have R := Lib.hid (show Bl (wr.alloc (.cells #[i64 5, fn 95] 118)) wr.heap.size 118 [i64 5, fn 95] from Bl.new wr 118 [i64 5, fn 95])
      have K1 := Lib.hid (K.out.alloc (.cells #[i64 5, fn 95] 118))
      go_cut [29, 30] from 25 to 28 (fun x y wx => x = i64 0 ∧ y = i64 0 ∧ Ck w wx b c g ∧ Bl wx wr.heap.size 118 [i64 5, fn 95])
      case first =>
        go_region_with (go_at_call 62; refine (sizes_any b c _).mono ?_; rintro e w3 ⟨rfl, hB⟩; have K3 := Lib.hid (K1.out.drew.below hB); have R3 := Lib.hid (R.out.drew.below hB R.out.drew.lt); clear hB; have q0 := R3.out.cell 0; have q1 := R3.out.cell 1)
        all_goals (go_wp2_with fail; go_meet; exact ⟨rfl, rfl, K3.out, R3.out⟩)
      case rest =>
        obtain ⟨rfl, rfl, KC, RC⟩ := hcut
        have K3 := Lib.hid KC
        clear KC K K1 R r0 r1 p0 p1 p2 p3 p4 p5 hs hl1 hl2 hl3 hl4
        generalize wr.heap.size = gr at *
        have R3 := Lib.hid RC
        clear RC
        go_wp2_with fail
        refine wp_loop_rounds 1 ?_
        rw [rounds_succ]
        go_wp2_with fail
        go_roundw
        case rel => exact ⟨8, by omega, by omega, rfl, K3.out⟩
        case measure => simp [intOf]
    · have r0 : wr.cell? ⟨g, 16, none⟩ = some (i64 1) := K.out.ru.cell 16
      have r1 : wr.cell? ⟨g, 17, none⟩ = some (fn 96) := K.out.ru.cell 17
      go_upto_region 10 with fail
      have R := Lib.hid (show Bl (wr.alloc (.cells #[i64 1, fn 96] 118)) wr.heap.size 118 [i64 1, fn 96] from Bl.new wr 118 [i64 1, fn 96])
      have K1 := Lib.hid (K.out.alloc (.cells #[i64 1, fn 96] 118))
      go_cut [29, 30] from 25 to 28 (fun x y wx => x = i64 3 ∧ y = i64 0 ∧ Ck w wx b c g ∧ Bl wx wr.heap.size 118 [i64 1, fn 96])
      case first =>
        go_region_with (go_at_call 62; refine (sizes_any b c _).mono ?_; rintro e w3 ⟨rfl, hB⟩; have K3 := Lib.hid (K1.out.drew.below hB); have R3 := Lib.hid (R.out.drew.below hB R.out.drew.lt); clear hB; have q0 := R3.out.cell 0; have q1 := R3.out.cell 1)
        all_goals (go_wp2_with fail; go_meet; exact ⟨rfl, rfl, K3.out, R3.out⟩)
      case rest =>
        obtain ⟨rfl, rfl, KC, RC⟩ := hcut
        have K3 := Lib.hid KC
        clear KC K K1 R r0 r1 p0 p1 p2 p3 p4 p5 hs hl1 hl2 hl3 hl4
        generalize wr.heap.size = gr at *
        have R3 := Lib.hid RC
        clear RC
        go_wp2_with fail
        go_loopw [30] (fun s wq => ∃ j : Nat, j ≤ 3 ∧ s = .int .i64 j ∧ Ck w wq b c g ∧ Bl wq gr 118 [i64 1, fn 96]) (fun s _ => 3 - (intOf s).toNat)
        case atStart => exact ⟨0, by omega, rfl, K3.out, R3.out⟩
        case round =>
          obtain ⟨j, hj, rfl, hK, hR⟩ := hrel
          have K4 := Lib.hid hK
          have R4 := Lib.hid hR
          clear hK hR K3 R3
          obtain ⟨p0, p1, p2, p3, p4, p5⟩ := K4.out.fr.b0.six
          have q0 := R4.out.cell 0
          have q1 := R4.out.cell 1
          by_cases hlj : j < 3
          · go_wp2_with fail
            refine (ok_96 b c pa pb pc j hlj _ (H.out.below K4.out.fr.be)).mono ?_
            rintro e w5 ⟨rfl, hB⟩
            have K5 := Lib.hid (K4.out.below hB)
            have R5 := Lib.hid (R4.out.below hB R4.out.lt)
            clear hB K4 R4 p0 p1 p2 p3 p4 p5 q0 q1
            go_wp2_with fail
            go_roundw
            case rel => exact ⟨j + 1, by omega, by go_num, K5.out, R5.out⟩
            case measure => simp [intOf]; omega
          · have hj3 : j = 3 := by omega
            subst hj3
            go_wp2_with fail
            go_roundw
            case rel => exact ⟨9, by omega, by omega, rfl, K4.out⟩
            case measure => simp [intOf]
    · have r0 : wr.cell? ⟨g, 18, none⟩ = some (i64 3) := K.out.ru.cell 18
      have r1 : wr.cell? ⟨g, 19, none⟩ = some (fn 97) := K.out.ru.cell 19
      go_upto_region 10 with fail
      have R := Lib.hid (show Bl (wr.alloc (.cells #[i64 3, fn 97] 118)) wr.heap.size 118 [i64 3, fn 97] from Bl.new wr 118 [i64 3, fn 97])
      have K1 := Lib.hid (K.out.alloc (.cells #[i64 3, fn 97] 118))
      go_cut [29, 30] from 25 to 28 (fun x y wx => x = i64 0 ∧ y = i64 0 ∧ Ck w wx b c g ∧ Bl wx wr.heap.size 118 [i64 3, fn 97])
      case first =>
        go_region_with (go_at_call 62; refine (sizes_any b c _).mono ?_; rintro e w3 ⟨rfl, hB⟩; have K3 := Lib.hid (K1.out.drew.below hB); have R3 := Lib.hid (R.out.drew.below hB R.out.drew.lt); clear hB; have q0 := R3.out.cell 0; have q1 := R3.out.cell 1)
        all_goals (go_wp2_with fail; go_meet; exact ⟨rfl, rfl, K3.out, R3.out⟩)
      case rest =>
        obtain ⟨rfl, rfl, KC, RC⟩ := hcut
        have K3 := Lib.hid KC
        clear KC K K1 R r0 r1 p0 p1 p2 p3 p4 p5 hs hl1 hl2 hl3 hl4
        generalize wr.heap.size = gr at *
        have R3 := Lib.hid RC
        clear RC
        go_wp2_with fail
        refine wp_loop_rounds 1 ?_
        rw [rounds_succ]
        go_wp2_with fail
        go_roundw
        case rel => exact ⟨10, by omega, by omega, rfl, K3.out⟩
        case measure => simp [intOf]
    · have r0 : wr.cell? ⟨g, 20, none⟩ = some (i64 2) := K.out.ru.cell 20
      have r1 : wr.cell? ⟨g, 21, none⟩ = some (fn 98) := K.out.ru.cell 21
      go_upto_region 10 with fail
      have R := Lib.hid (show Bl (wr.alloc (.cells #[i64 2, fn 98] 118)) wr.heap.size 118 [i64 2, fn 98] from Bl.new wr 118 [i64 2, fn 98])
      have K1 := Lib.hid (K.out.alloc (.cells #[i64 2, fn 98] 118))
      go_cut [29, 30] from 25 to 28 (fun x y wx => x = i64 0 ∧ y = i64 0 ∧ Ck w wx b c g ∧ Bl wx wr.heap.size 118 [i64 2, fn 98])
      case first =>
        go_region_with (go_at_call 62; refine (sizes_any b c _).mono ?_; rintro e w3 ⟨rfl, hB⟩; have K3 := Lib.hid (K1.out.drew.below hB); have R3 := Lib.hid (R.out.drew.below hB R.out.drew.lt); clear hB; have q0 := R3.out.cell 0; have q1 := R3.out.cell 1)
        all_goals (go_wp2_with fail; go_meet; exact ⟨rfl, rfl, K3.out, R3.out⟩)
      case rest =>
        obtain ⟨rfl, rfl, KC, RC⟩ := hcut
        have K3 := Lib.hid KC
        clear KC K K1 R r0 r1 p0 p1 p2 p3 p4 p5 hs hl1 hl2 hl3 hl4
        generalize wr.heap.size = gr at *
        have R3 := Lib.hid RC
        clear RC
        go_wp2_with fail
        refine wp_loop_rounds 1 ?_
        rw [rounds_succ]
        go_wp2_with fail
        go_roundw
        case rel => exact ⟨11, by omega, by omega, rfl, K3.out⟩
        case measure => simp [intOf]
    · have r0 : wr.cell? ⟨g, 22, none⟩ = some (i64 5) := K.out.ru.cell 22
      have r1 : wr.cell? ⟨g, 23, none⟩ = some (fn 99) := K.out.ru.cell 23
      go_upto_region 10 with fail
      have R := Lib.hid (show Bl (wr.alloc (.cells #[i64 5, fn 99] 118)) wr.heap.size 118 [i64 5, fn 99] from Bl.new wr 118 [i64 5, fn 99])
      have K1 := Lib.hid (K.out.alloc (.cells #[i64 5, fn 99] 118))
      go_cut [29, 30] from 25 to 28 (fun x y wx => x = i64 0 ∧ y = i64 0 ∧ Ck w wx b c g ∧ Bl wx wr.heap.size 118 [i64 5, fn 99])
      case first =>
        go_region_with (go_at_call 62; refine (sizes_any b c _).mono ?_; rintro e w3 ⟨rfl, hB⟩; have K3 := Lib.hid (K1.out.drew.below hB); have R3 := Lib.hid (R.out.drew.below hB R.out.drew.lt); clear hB; have q0 := R3.out.cell 0; have q1 := R3.out.cell 1)
        all_goals (go_wp2_with fail; go_meet; exact ⟨rfl, rfl, K3.out, R3.out⟩)
      case rest =>
        obtain ⟨rfl, rfl, KC, RC⟩ := hcut
        have K3 := Lib.hid KC
        clear KC K K1 R r0 r1 p0 p1 p2 p3 p4 p5 hs hl1 hl2 hl3 hl4
        generalize wr.heap.size = gr at *
        have R3 := Lib.hid RC
        clear RC
        go_wp2_with fail
        refine wp_loop_rounds 1 ?_
        rw [rounds_succ]
        go_wp2_with fail
        go_roundw
        case rel => exact ⟨12, by omega, by omega, rfl, K3.out⟩
        case measure => simp [intOf]
    · have r0 : wr.cell? ⟨g, 24, none⟩ = some (i64 4) := K.out.ru.cell 24
      have r1 : wr.cell? ⟨g, 25, none⟩ = some (fn 100) := K.out.ru.cell 25
      go_upto_region 10 with fail
      have R := Lib.hid (show Bl (wr.alloc (.cells #[i64 4, fn 100] 118)) wr.heap.size 118 [i64 4, fn 100] from Bl.new wr 118 [i64 4, fn 100])
      have K1 := Lib.hid (K.out.alloc (.cells #[i64 4, fn 100] 118))
      go_cut [29, 30] from 25 to 28 (fun x y wx => x = i64 0 ∧ y = i64 0 ∧ Ck w wx b c g ∧ Bl wx wr.heap.size 118 [i64 4, fn 100])
      case first =>
        go_region_with (go_at_call 62; refine (sizes_any b c _).mono ?_; rintro e w3 ⟨rfl, hB⟩; have K3 := Lib.hid (K1.out.drew.below hB); have R3 := Lib.hid (R.out.drew.below hB R.out.drew.lt); clear hB; have q0 := R3.out.cell 0; have q1 := R3.out.cell 1)
        all_goals (go_wp2_with fail; go_meet; exact ⟨rfl, rfl, K3.out, R3.out⟩)
      case rest =>
        obtain ⟨rfl, rfl, KC, RC⟩ := hcut
        have K3 := Lib.hid KC
        clear KC K K1 R r0 r1 p0 p1 p2 p3 p4 p5 hs hl1 hl2 hl3 hl4
        generalize wr.heap.size = gr at *
        have R3 := Lib.hid RC
        clear RC
        go_wp2_with fail
        refine wp_loop_rounds 1 ?_
        rw [rounds_succ]
        go_wp2_with fail
        go_roundw
        case rel => exact ⟨13, by omega, by omega, rfl, K3.out⟩
        case measure => simp [intOf]
    · go_wp2_with fail
      refine (checkMain_none b c _).mono ?_
      rintro e w3 ⟨rfl, hB⟩
      have K4 := Lib.hid (K.out.below hB)
      clear hB K p0 p1 p2 p3 p4 p5 hs hl1 hl2 hl3 hl4
      obtain ⟨z0, z1, z2, f0, f1, f2⟩ := K4.out.fr.b1.three
      go_wp2_with fail
      refine bodyPost_ret (v := .agg #[i64 0, i64 0, i64 0]) (by simp [results, Tryz.results30, go_sem, z0, z1, z2]) rfl ⟨rfl, ?_⟩
      exact ((K4.out.fr.be.setCell (by simp) _).setCell (by simp) _).setCell (by simp) _
end Go.Proofs.YtkjjieloncdjhaaGreatDoor
