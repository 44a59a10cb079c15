/- Check: a method. -/
import Derived.Test.YtkjjieloncdjhaaGreatDoorE16
namespace Go.Proofs.YtkjjieloncdjhaaGreatDoor
open Go Go.RowKit

set_option maxRecDepth 100000 in
set_option maxHeartbeats 8000000 in
theorem checkMethod_all (L k : Nat) (ca ma fa ta ya : Option Addr) (cn mn fn tn yn cc mc fc tc yc : Nat) (mi : Int) (w : World) (hcn : cn ≤ 1048576) (hmn : mn ≤ 1048576) (_ : fn ≤ 1048576) (htn : tn ≤ 1048576) (_ : yn ≤ 1048576) (hk : k < mn) (hP : PrgR L w ca ma fa ta ya cn mn fn tn yn) :
    Calls Tryz.prog 92 #[.agg #[.slice ca cn cc, .slice ma mn mc, .slice fa fn fc, .slice ta tn tc, .slice ya yn yc, .int .i64 mi], .int .i64 k] w fun e w' => (∃ z : Int, e = .returned (.int .i64 z) ∧ (z = 0 → OwOk w ma cn k)) ∧ Below w.heap.size w w' := by
  obtain ⟨b2, o2, ⟨xn, xo, xf, ⟨xta, xtl, xtc⟩, xp, ⟨xla, xll, xlc⟩, xr, xb, xat⟩, hA, hOk⟩ := hP.me.2 k hk
  have hnm := hOk.nm
  have htpl := hOk.tpl
  have hlol := hOk.lol
  obtain ⟨q, hNq⟩ := NumL.of hOk.ntp
  have HNq := Lib.hid hNq
  have HOK := Lib.hid hOk
  have HA := Lib.hid hA
  obtain rfl := hA.ad
  clear hOk hNq
  dsimp only at hnm htpl hlol
  have HPR := Lib.hid hP
  have hB0 := Bl.new w 30 [.slice ca cn cc, .slice (some ⟨b2, o2, none⟩) mn mc, .slice fa fn fc, .slice ta tn tc, .slice ya yn yc, .int .i64 mi]
  have hB2 := Bl.new (w.alloc (.cells #[.slice ca cn cc, .slice (some ⟨b2, o2, none⟩) mn mc, .slice fa fn fc, .slice ta tn tc, .slice ya yn yc, .int .i64 mi] 30)) 64 [.string xn, .int .i64 xo, .int .i64 xf, .slice xta xtl xtc, .int .i64 xp, .slice xla xll xlc, .int .i64 xr.k, .int .i64 xr.s, .string xr.n, .int .i64 xr.u, .slice xr.a xr.l xr.c, .pointer xb, .int .i64 xat]
  rw [World.size_alloc] at hB2
  have HPb := Lib.hid (hB0.alloc (.cells #[.string xn, .int .i64 xo, .int .i64 xf, .slice xta xtl xtc, .int .i64 xp, .slice xla xll xlc, .int .i64 xr.k, .int .i64 xr.s, .string xr.n, .int .i64 xr.u, .slice xr.a xr.l xr.c, .pointer xb, .int .i64 xat] 64))
  have HCb := Lib.hid hB2
  have HB1 := Lib.hid ((Below.refl w.heap.size w).alloc (Nat.le_refl _) (.cells #[.slice ca cn cc, .slice (some ⟨b2, o2, none⟩) mn mc, .slice fa fn fc, .slice ta tn tc, .slice ya yn yc, .int .i64 mi] 30))
  have HB2 := Lib.hid (HB1.out.alloc (by simp) (.cells #[.string xn, .int .i64 xo, .int .i64 xf, .slice xta xtl xtc, .int .i64 xp, .slice xla xll xlc, .int .i64 xr.k, .int .i64 xr.s, .string xr.n, .int .i64 xr.u, .slice xr.a xr.l xr.c, .pointer xb, .int .i64 xat] 64))
  have HBw : Hid (∀ W', Below (w.heap.size + 1 + 1) ((w.alloc (.cells #[.slice ca cn cc, .slice (some ⟨b2, o2, none⟩) mn mc, .slice fa fn fc, .slice ta tn tc, .slice ya yn yc, .int .i64 mi] 30)).alloc (.cells #[.string xn, .int .i64 xo, .int .i64 xf, .slice xta xtl xtc, .int .i64 xp, .slice xla xll xlc, .int .i64 xr.k, .int .i64 xr.s, .string xr.n, .int .i64 xr.u, .slice xr.a xr.l xr.c, .pointer xb, .int .i64 xat] 64)) W' → Below w.heap.size w W') := Lib.hid (fun W' hB => HB2.out.trans (hB.mono (by omega)))
  have HB_W := Lib.hid (Below.refl (w.heap.size + 1 + 1) ((w.alloc (.cells #[.slice ca cn cc, .slice (some ⟨b2, o2, none⟩) mn mc, .slice fa fn fc, .slice ta tn tc, .slice ya yn yc, .int .i64 mi] 30)).alloc (.cells #[.string xn, .int .i64 xo, .int .i64 xf, .slice xta xtl xtc, .int .i64 xp, .slice xla xll xlc, .int .i64 xr.k, .int .i64 xr.s, .string xr.n, .int .i64 xr.u, .slice xr.a xr.l xr.c, .pointer xb, .int .i64 xat] 64)))
  have hsW : ((w.alloc (.cells #[.slice ca cn cc, .slice (some ⟨b2, o2, none⟩) mn mc, .slice fa fn fc, .slice ta tn tc, .slice ya yn yc, .int .i64 mi] 30)).alloc (.cells #[.string xn, .int .i64 xo, .int .i64 xf, .slice xta xtl xtc, .int .i64 xp, .slice xla xll xlc, .int .i64 xr.k, .int .i64 xr.s, .string xr.n, .int .i64 xr.u, .slice xr.a xr.l xr.c, .pointer xb, .int .i64 xat] 64)).heap.size = w.heap.size + 1 + 1 := by simp
  have hlt0 : w.heap.size < w.heap.size + 1 + 1 := by omega
  have hlt1 : w.heap.size + 1 < w.heap.size + 1 + 1 := by omega
  have qq := hB0.cell 1
  simp only [List.getElem?_cons_zero, List.getElem?_cons_succ] at qq
  have d0 := HCb.out.cell 0
  simp only [List.getElem?_cons_zero] at d0
  have hAA := hA.og (og_of_below HB1.out)
  obtain ⟨-, -, -, k0, k1, k2, k3, k4, k5, k6, k7, k8, k9, k10, k11, k12⟩ := hAA
  dsimp only at k0 k1 k2 k3 k4 k5 k6 k7 k8 k9 k10 k11 k12
  clear hB2 hB0 hP hA HB2
  go_enter Tryz.func92, Tryz.ntmps92
  go_wp2_with fail
  clear k0 k1 k2 k3 k4 k5 k6 k7 k8 k9 k10 k11 k12 qq d0
  generalize hW : ((w.alloc (.cells #[.slice ca cn cc, .slice (some ⟨b2, o2, none⟩) mn mc, .slice fa fn fc, .slice ta tn tc, .slice ya yn yc, .int .i64 mi] 30)).alloc (.cells #[.string xn, .int .i64 xo, .int .i64 xf, .slice xta xtl xtc, .int .i64 xp, .slice xla xll xlc, .int .i64 xr.k, .int .i64 xr.s, .string xr.n, .int .i64 xr.u, .slice xr.a xr.l xr.c, .pointer xb, .int .i64 xat] 64)) = W at *
  clear hW
  have hz_W : w.heap.size + 1 + 1 ≤ W.heap.size := by have := HB_W.out.size; omega
  obtain ⟨q0, q1, q2, q3, q4, q5⟩ := ((HPb.out.below HB_W.out hlt0).six)
  have c0 := (HCb.out.below HB_W.out hlt1).cell 0
  have c1 := (HCb.out.below HB_W.out hlt1).cell 1
  have c2 := (HCb.out.below HB_W.out hlt1).cell 2
  have c3 := (HCb.out.below HB_W.out hlt1).cell 3
  have c4 := (HCb.out.below HB_W.out hlt1).cell 4
  have c5 := (HCb.out.below HB_W.out hlt1).cell 5
  have c6 := (HCb.out.below HB_W.out hlt1).cell 6
  have c7 := (HCb.out.below HB_W.out hlt1).cell 7
  have c8 := (HCb.out.below HB_W.out hlt1).cell 8
  have c9 := (HCb.out.below HB_W.out hlt1).cell 9
  have c10 := (HCb.out.below HB_W.out hlt1).cell 10
  have c11 := (HCb.out.below HB_W.out hlt1).cell 11
  have c12 := (HCb.out.below HB_W.out hlt1).cell 12
  simp only [List.getElem?_cons_zero, List.getElem?_cons_succ] at c0 c1 c2 c3 c4 c5 c6 c7 c8 c9 c10 c11 c12
  refine (name_some xn _ hnm).mono ?_
  rintro e w1 ⟨⟨r1, rfl⟩, hB'⟩
  have HB_w1 := Lib.hid (HB_W.out.trans (hB'.mono hz_W))
  clear hB'
  clear q0 q1 q2 q3 q4 q5 c0 c1 c2 c3 c4 c5 c6 c7 c8 c9 c10 c11 c12
  have hz_w1 : w.heap.size + 1 + 1 ≤ w1.heap.size := by have := HB_w1.out.size; omega
  obtain ⟨q0, q1, q2, q3, q4, q5⟩ := ((HPb.out.below HB_w1.out hlt0).six)
  have c0 := (HCb.out.below HB_w1.out hlt1).cell 0
  have c1 := (HCb.out.below HB_w1.out hlt1).cell 1
  have c2 := (HCb.out.below HB_w1.out hlt1).cell 2
  have c3 := (HCb.out.below HB_w1.out hlt1).cell 3
  have c4 := (HCb.out.below HB_w1.out hlt1).cell 4
  have c5 := (HCb.out.below HB_w1.out hlt1).cell 5
  have c6 := (HCb.out.below HB_w1.out hlt1).cell 6
  have c7 := (HCb.out.below HB_w1.out hlt1).cell 7
  have c8 := (HCb.out.below HB_w1.out hlt1).cell 8
  have c9 := (HCb.out.below HB_w1.out hlt1).cell 9
  have c10 := (HCb.out.below HB_w1.out hlt1).cell 10
  have c11 := (HCb.out.below HB_w1.out hlt1).cell 11
  have c12 := (HCb.out.below HB_w1.out hlt1).cell 12
  simp only [List.getElem?_cons_zero, List.getElem?_cons_succ] at c0 c1 c2 c3 c4 c5 c6 c7 c8 c9 c10 c11 c12
  cases r1
  · go_wp2_with fail
    go_ret
    exact ⟨⟨_, rfl, fun h => by cases h⟩, HBw.out _ HB_w1.out⟩
  · go_wp2_with fail
    refine (keepsMe_all (⟨xn, xo, xf, ⟨xta, xtl, xtc⟩, xp, ⟨xla, xll, xlc⟩, xr, xb, xat⟩ : MeC) _).mono ?_
    rintro e w2 ⟨rfl, hB'⟩
    have HB_w2 := Lib.hid (HB_w1.out.trans (hB'.mono hz_w1))
    clear hB'
    clear q0 q1 q2 q3 q4 q5 c0 c1 c2 c3 c4 c5 c6 c7 c8 c9 c10 c11 c12
    have hz_w2 : w.heap.size + 1 + 1 ≤ w2.heap.size := by have := HB_w2.out.size; omega
    obtain ⟨q0, q1, q2, q3, q4, q5⟩ := ((HPb.out.below HB_w2.out hlt0).six)
    have c0 := (HCb.out.below HB_w2.out hlt1).cell 0
    have c1 := (HCb.out.below HB_w2.out hlt1).cell 1
    have c2 := (HCb.out.below HB_w2.out hlt1).cell 2
    have c3 := (HCb.out.below HB_w2.out hlt1).cell 3
    have c4 := (HCb.out.below HB_w2.out hlt1).cell 4
    have c5 := (HCb.out.below HB_w2.out hlt1).cell 5
    have c6 := (HCb.out.below HB_w2.out hlt1).cell 6
    have c7 := (HCb.out.below HB_w2.out hlt1).cell 7
    have c8 := (HCb.out.below HB_w2.out hlt1).cell 8
    have c9 := (HCb.out.below HB_w2.out hlt1).cell 9
    have c10 := (HCb.out.below HB_w2.out hlt1).cell 10
    have c11 := (HCb.out.below HB_w2.out hlt1).cell 11
    have c12 := (HCb.out.below HB_w2.out hlt1).cell 12
    simp only [List.getElem?_cons_zero, List.getElem?_cons_succ] at c0 c1 c2 c3 c4 c5 c6 c7 c8 c9 c10 c11 c12
    dsimp only
    cases hkm : keepsMeF xf xb
    · go_wp2_with fail
      go_ret
      exact ⟨⟨_, rfl, fun h => by cases h⟩, HBw.out _ HB_w2.out⟩
    · by_cases ho : xo = -1
      · subst ho
        have HOW := Lib.hid (OwOk.of HA.out (.inl rfl) : OwOk w _ cn k)
        go_wp2_with fail
        refine (existAll_146 _ tn _ _ _ _ q _ htpl ((HNq.out.below (HBw.out _ HB_w2.out)).nums)).mono ?_
        rintro e w' ⟨rfl, rfl⟩
        cases hex : q.all (inR tn)
        · go_wp2_with fail
          go_ret
          exact ⟨⟨_, rfl, fun h => by cases h⟩, HBw.out _ HB_w2.out⟩
        · have HEX := Lib.hid hex
          clear hex
          go_wp2_with fail
          refine (hasTwice_all xta xtl xtc q _ htpl ((HNq.out.below (HBw.out _ HB_w2.out)).nums) (HNq.out.lies (HBw.out _ HB_w2.out).size) (rng_of HEX.out htn)).mono ?_
          rintro e w3 ⟨⟨r3, rfl⟩, hB'⟩
          have HB_w3 := Lib.hid (HB_w2.out.trans (hB'.mono hz_w2))
          clear hB'
          clear q0 q1 q2 q3 q4 q5 c0 c1 c2 c3 c4 c5 c6 c7 c8 c9 c10 c11 c12
          have hz_w3 : w.heap.size + 1 + 1 ≤ w3.heap.size := by have := HB_w3.out.size; omega
          obtain ⟨q0, q1, q2, q3, q4, q5⟩ := ((HPb.out.below HB_w3.out hlt0).six)
          have c0 := (HCb.out.below HB_w3.out hlt1).cell 0
          have c1 := (HCb.out.below HB_w3.out hlt1).cell 1
          have c2 := (HCb.out.below HB_w3.out hlt1).cell 2
          have c3 := (HCb.out.below HB_w3.out hlt1).cell 3
          have c4 := (HCb.out.below HB_w3.out hlt1).cell 4
          have c5 := (HCb.out.below HB_w3.out hlt1).cell 5
          have c6 := (HCb.out.below HB_w3.out hlt1).cell 6
          have c7 := (HCb.out.below HB_w3.out hlt1).cell 7
          have c8 := (HCb.out.below HB_w3.out hlt1).cell 8
          have c9 := (HCb.out.below HB_w3.out hlt1).cell 9
          have c10 := (HCb.out.below HB_w3.out hlt1).cell 10
          have c11 := (HCb.out.below HB_w3.out hlt1).cell 11
          have c12 := (HCb.out.below HB_w3.out hlt1).cell 12
          simp only [List.getElem?_cons_zero, List.getElem?_cons_succ] at c0 c1 c2 c3 c4 c5 c6 c7 c8 c9 c10 c11 c12
          cases r3
          · by_cases g1 : (12 : Int) < (xtl : Int)
            · go_wp2_with fail
              go_ret
              exact ⟨⟨_, rfl, fun h => by cases h⟩, HBw.out _ HB_w3.out⟩
            · by_cases g2 : xp < 0
              · go_wp2_with fail
                go_ret
                exact ⟨⟨_, rfl, fun h => by cases h⟩, HBw.out _ HB_w3.out⟩
              · by_cases g3 : 12 < xp
                · go_wp2_with fail
                  go_ret
                  exact ⟨⟨_, rfl, fun h => by cases h⟩, HBw.out _ HB_w3.out⟩
                · by_cases g4 : (xll : Int) < xp
                  · go_wp2_with fail
                    go_ret
                    exact ⟨⟨_, rfl, fun h => by cases h⟩, HBw.out _ HB_w3.out⟩
                  · by_cases g5 : (200 : Int) < (xll : Int)
                    · go_wp2_with fail
                      go_ret
                      exact ⟨⟨_, rfl, fun h => by cases h⟩, HBw.out _ HB_w3.out⟩
                    · go_wp2_with fail
                      have hxp0 : 0 ≤ xp := by omega
                      have hxp1 : xp ≤ (xll : Int) := by omega
                      refine (checkLocals_all L (⟨xn, (-1), xf, ⟨xta, xtl, xtc⟩, xp, ⟨xla, xll, xlc⟩, xr, xb, xat⟩ : MeC) _ (HOK.out.og (og_of_below (HBw.out _ HB_w3.out))) hxp0 hxp1).mono ?_
                      rintro e w4 ⟨⟨z4, rfl⟩, hB'⟩
                      have HB_w4 := Lib.hid (HB_w3.out.trans (hB'.mono hz_w3))
                      clear hB' hxp0 hxp1
                      clear q0 q1 q2 q3 q4 q5 c0 c1 c2 c3 c4 c5 c6 c7 c8 c9 c10 c11 c12
                      have hz_w4 : w.heap.size + 1 + 1 ≤ w4.heap.size := by have := HB_w4.out.size; omega
                      obtain ⟨q0, q1, q2, q3, q4, q5⟩ := ((HPb.out.below HB_w4.out hlt0).six)
                      have c0 := (HCb.out.below HB_w4.out hlt1).cell 0
                      have c1 := (HCb.out.below HB_w4.out hlt1).cell 1
                      have c2 := (HCb.out.below HB_w4.out hlt1).cell 2
                      have c3 := (HCb.out.below HB_w4.out hlt1).cell 3
                      have c4 := (HCb.out.below HB_w4.out hlt1).cell 4
                      have c5 := (HCb.out.below HB_w4.out hlt1).cell 5
                      have c6 := (HCb.out.below HB_w4.out hlt1).cell 6
                      have c7 := (HCb.out.below HB_w4.out hlt1).cell 7
                      have c8 := (HCb.out.below HB_w4.out hlt1).cell 8
                      have c9 := (HCb.out.below HB_w4.out hlt1).cell 9
                      have c10 := (HCb.out.below HB_w4.out hlt1).cell 10
                      have c11 := (HCb.out.below HB_w4.out hlt1).cell 11
                      have c12 := (HCb.out.below HB_w4.out hlt1).cell 12
                      simp only [List.getElem?_cons_zero, List.getElem?_cons_succ] at c0 c1 c2 c3 c4 c5 c6 c7 c8 c9 c10 c11 c12
                      by_cases hz4 : z4 = 0
                      · subst hz4
                        go_wp2_with fail
                        go_loop [83] (fun i => ∃ j : Nat, j ≤ xtl ∧ i = .int .i64 j) (fun i => xtl - (intOf i).toNat)
                        case atStart => exact ⟨0, by omega, rfl⟩
                        case round =>
                          obtain ⟨j, hj, rfl⟩ := hrel
                          by_cases hlt : j < xtl
                          · obtain ⟨g, o, eA, hg, hc⟩ := (HNq.out.below (HBw.out _ HB_w4.out)).2 j (by rw [← HNq.out.1]; exact hlt)
                            dsimp only at eA
                            subst eA
                            have hv := inR_iff.1 (List.all_eq_true.1 HEX.out (q.getD j 0) (by
                              have hkq : j < q.length := by rw [← HNq.out.1]; exact hlt
                              rw [List.getD_eq_getElem?_getD, List.getElem?_eq_getElem hkq]
                              exact List.getElem_mem _))
                            generalize q.getD j 0 = v at *
                            obtain ⟨m, rfl⟩ : ∃ m : Nat, v = (m : Int) := ⟨v.toNat, by omega⟩
                            have hmn' : m < tn := by omega
                            have hmi : (m : Int) < (tn : Int) := by omega
                            obtain ⟨b3, o3, y, hA2, _⟩ := (HPR.out.below (HBw.out _ HB_w4.out)).tp.2 m hmn'
                            have kk := hA2.k1
                            have kk2 := hA2.k2
                            have eT := hA2.ad
                            rw [eT] at q3
                            clear eT hv hA2
                            by_cases hw : y.me = (k : Int)
                            · have hw1 : (y.me == (k : Int)) = true := by simpa using hw
                              by_cases hw2 : y.cl = -1
                              · have hw3 : (y.cl == -1) = true := by simpa using hw2
                                go_wp2_with fail
                                go_round
                                case rel => exact ⟨j + 1, by omega, by go_num⟩
                                case measure => simp [intOf]; omega
                              · have hw3 : (y.cl == -1) = false := by simpa using hw2
                                go_wp2_with fail
                                go_ret
                                exact ⟨⟨_, rfl, fun h => by cases h⟩, HBw.out _ HB_w4.out⟩
                            · have hw1 : (y.me == (k : Int)) = false := by simpa using hw
                              go_wp2_with fail
                              go_ret
                              exact ⟨⟨_, rfl, fun h => by cases h⟩, HBw.out _ HB_w4.out⟩
                          · have hjn : xtl = j := by omega
                            subst hjn
                            clear hlt hj
                            go_wp2_with fail
                            refine (checkOwner_all L k _ _ _ _ _ cn mn fn tn yn _ _ _ _ _ _ _ hcn hmn hk b2 o2 (⟨xn, (-1), xf, ⟨xta, xtl, xtc⟩, xp, ⟨xla, xll, xlc⟩, xr, xb, xat⟩ : MeC) (HA.out.og (og_of_below (HBw.out _ HB_w4.out))) (.inl rfl) (HPR.out.below (HBw.out _ HB_w4.out))).mono ?_
                            rintro e w5 ⟨⟨z5, rfl⟩, hB'⟩
                            have HB_w5 := Lib.hid (HB_w4.out.trans (hB'.mono hz_w4))
                            clear hB'
                            go_wp2_with fail
                            go_ret
                            exact ⟨⟨_, rfl, fun _ => HOW.out⟩, HBw.out _ HB_w5.out⟩
                      · have hz5 : (z4 == 0) = false := by simpa using hz4
                        have HZ := Lib.hid hz4
                        clear hz4
                        go_wp2_with fail
                        go_ret
                        exact ⟨⟨_, rfl, fun h => absurd h HZ.out⟩, HBw.out _ HB_w4.out⟩
          · go_wp2_with fail
            go_ret
            exact ⟨⟨_, rfl, fun h => by cases h⟩, HBw.out _ HB_w3.out⟩
      · have ho1 : (xo == -1) = false := by simpa using ho
        cases hin : inR cn xo
        · go_wp2_with fail
          refine (exists_is _ cn _ _ false hin _).mono ?_
          rintro e w' ⟨rfl, rfl⟩
          go_wp2_with fail
          go_ret
          exact ⟨⟨_, rfl, fun h => by cases h⟩, HBw.out _ HB_w2.out⟩
        · have HOW := Lib.hid (OwOk.of HA.out (.inr hin) : OwOk w _ cn k)
          go_wp2_with fail
          refine (exists_is _ cn _ _ true hin _).mono ?_
          rintro e w' ⟨rfl, rfl⟩
          go_wp2_with fail
          refine (existAll_146 _ tn _ _ _ _ q _ htpl ((HNq.out.below (HBw.out _ HB_w2.out)).nums)).mono ?_
          rintro e w' ⟨rfl, rfl⟩
          cases hex : q.all (inR tn)
          · go_wp2_with fail
            go_ret
            exact ⟨⟨_, rfl, fun h => by cases h⟩, HBw.out _ HB_w2.out⟩
          · have HEX := Lib.hid hex
            clear hex
            go_wp2_with fail
            refine (hasTwice_all xta xtl xtc q _ htpl ((HNq.out.below (HBw.out _ HB_w2.out)).nums) (HNq.out.lies (HBw.out _ HB_w2.out).size) (rng_of HEX.out htn)).mono ?_
            rintro e w3 ⟨⟨r3, rfl⟩, hB'⟩
            have HB_w3 := Lib.hid (HB_w2.out.trans (hB'.mono hz_w2))
            clear hB'
            clear q0 q1 q2 q3 q4 q5 c0 c1 c2 c3 c4 c5 c6 c7 c8 c9 c10 c11 c12
            have hz_w3 : w.heap.size + 1 + 1 ≤ w3.heap.size := by have := HB_w3.out.size; omega
            obtain ⟨q0, q1, q2, q3, q4, q5⟩ := ((HPb.out.below HB_w3.out hlt0).six)
            have c0 := (HCb.out.below HB_w3.out hlt1).cell 0
            have c1 := (HCb.out.below HB_w3.out hlt1).cell 1
            have c2 := (HCb.out.below HB_w3.out hlt1).cell 2
            have c3 := (HCb.out.below HB_w3.out hlt1).cell 3
            have c4 := (HCb.out.below HB_w3.out hlt1).cell 4
            have c5 := (HCb.out.below HB_w3.out hlt1).cell 5
            have c6 := (HCb.out.below HB_w3.out hlt1).cell 6
            have c7 := (HCb.out.below HB_w3.out hlt1).cell 7
            have c8 := (HCb.out.below HB_w3.out hlt1).cell 8
            have c9 := (HCb.out.below HB_w3.out hlt1).cell 9
            have c10 := (HCb.out.below HB_w3.out hlt1).cell 10
            have c11 := (HCb.out.below HB_w3.out hlt1).cell 11
            have c12 := (HCb.out.below HB_w3.out hlt1).cell 12
            simp only [List.getElem?_cons_zero, List.getElem?_cons_succ] at c0 c1 c2 c3 c4 c5 c6 c7 c8 c9 c10 c11 c12
            cases r3
            · by_cases g1 : (12 : Int) < (xtl : Int)
              · go_wp2_with fail
                go_ret
                exact ⟨⟨_, rfl, fun h => by cases h⟩, HBw.out _ HB_w3.out⟩
              · by_cases g2 : xp < 0
                · go_wp2_with fail
                  go_ret
                  exact ⟨⟨_, rfl, fun h => by cases h⟩, HBw.out _ HB_w3.out⟩
                · by_cases g3 : 12 < xp
                  · go_wp2_with fail
                    go_ret
                    exact ⟨⟨_, rfl, fun h => by cases h⟩, HBw.out _ HB_w3.out⟩
                  · by_cases g4 : (xll : Int) < xp
                    · go_wp2_with fail
                      go_ret
                      exact ⟨⟨_, rfl, fun h => by cases h⟩, HBw.out _ HB_w3.out⟩
                    · by_cases g5 : (200 : Int) < (xll : Int)
                      · go_wp2_with fail
                        go_ret
                        exact ⟨⟨_, rfl, fun h => by cases h⟩, HBw.out _ HB_w3.out⟩
                      · go_wp2_with fail
                        have hxp0 : 0 ≤ xp := by omega
                        have hxp1 : xp ≤ (xll : Int) := by omega
                        refine (checkLocals_all L (⟨xn, xo, xf, ⟨xta, xtl, xtc⟩, xp, ⟨xla, xll, xlc⟩, xr, xb, xat⟩ : MeC) _ (HOK.out.og (og_of_below (HBw.out _ HB_w3.out))) hxp0 hxp1).mono ?_
                        rintro e w4 ⟨⟨z4, rfl⟩, hB'⟩
                        have HB_w4 := Lib.hid (HB_w3.out.trans (hB'.mono hz_w3))
                        clear hB' hxp0 hxp1
                        clear q0 q1 q2 q3 q4 q5 c0 c1 c2 c3 c4 c5 c6 c7 c8 c9 c10 c11 c12
                        have hz_w4 : w.heap.size + 1 + 1 ≤ w4.heap.size := by have := HB_w4.out.size; omega
                        obtain ⟨q0, q1, q2, q3, q4, q5⟩ := ((HPb.out.below HB_w4.out hlt0).six)
                        have c0 := (HCb.out.below HB_w4.out hlt1).cell 0
                        have c1 := (HCb.out.below HB_w4.out hlt1).cell 1
                        have c2 := (HCb.out.below HB_w4.out hlt1).cell 2
                        have c3 := (HCb.out.below HB_w4.out hlt1).cell 3
                        have c4 := (HCb.out.below HB_w4.out hlt1).cell 4
                        have c5 := (HCb.out.below HB_w4.out hlt1).cell 5
                        have c6 := (HCb.out.below HB_w4.out hlt1).cell 6
                        have c7 := (HCb.out.below HB_w4.out hlt1).cell 7
                        have c8 := (HCb.out.below HB_w4.out hlt1).cell 8
                        have c9 := (HCb.out.below HB_w4.out hlt1).cell 9
                        have c10 := (HCb.out.below HB_w4.out hlt1).cell 10
                        have c11 := (HCb.out.below HB_w4.out hlt1).cell 11
                        have c12 := (HCb.out.below HB_w4.out hlt1).cell 12
                        simp only [List.getElem?_cons_zero, List.getElem?_cons_succ] at c0 c1 c2 c3 c4 c5 c6 c7 c8 c9 c10 c11 c12
                        by_cases hz4 : z4 = 0
                        · subst hz4
                          go_wp2_with fail
                          go_loop [83] (fun i => ∃ j : Nat, j ≤ xtl ∧ i = .int .i64 j) (fun i => xtl - (intOf i).toNat)
                          case atStart => exact ⟨0, by omega, rfl⟩
                          case round =>
                            obtain ⟨j, hj, rfl⟩ := hrel
                            by_cases hlt : j < xtl
                            · obtain ⟨g, o, eA, hg, hc⟩ := (HNq.out.below (HBw.out _ HB_w4.out)).2 j (by rw [← HNq.out.1]; exact hlt)
                              dsimp only at eA
                              subst eA
                              have hv := inR_iff.1 (List.all_eq_true.1 HEX.out (q.getD j 0) (by
                                have hkq : j < q.length := by rw [← HNq.out.1]; exact hlt
                                rw [List.getD_eq_getElem?_getD, List.getElem?_eq_getElem hkq]
                                exact List.getElem_mem _))
                              generalize q.getD j 0 = v at *
                              obtain ⟨m, rfl⟩ : ∃ m : Nat, v = (m : Int) := ⟨v.toNat, by omega⟩
                              have hmn' : m < tn := by omega
                              have hmi : (m : Int) < (tn : Int) := by omega
                              obtain ⟨b3, o3, y, hA2, _⟩ := (HPR.out.below (HBw.out _ HB_w4.out)).tp.2 m hmn'
                              have kk := hA2.k1
                              have kk2 := hA2.k2
                              have eT := hA2.ad
                              rw [eT] at q3
                              clear eT hv hA2
                              by_cases hw : y.me = (k : Int)
                              · have hw1 : (y.me == (k : Int)) = true := by simpa using hw
                                by_cases hw2 : y.cl = -1
                                · have hw3 : (y.cl == -1) = true := by simpa using hw2
                                  go_wp2_with fail
                                  go_round
                                  case rel => exact ⟨j + 1, by omega, by go_num⟩
                                  case measure => simp [intOf]; omega
                                · have hw3 : (y.cl == -1) = false := by simpa using hw2
                                  go_wp2_with fail
                                  go_ret
                                  exact ⟨⟨_, rfl, fun h => by cases h⟩, HBw.out _ HB_w4.out⟩
                              · have hw1 : (y.me == (k : Int)) = false := by simpa using hw
                                go_wp2_with fail
                                go_ret
                                exact ⟨⟨_, rfl, fun h => by cases h⟩, HBw.out _ HB_w4.out⟩
                            · have hjn : xtl = j := by omega
                              subst hjn
                              clear hlt hj
                              go_wp2_with fail
                              refine (checkOwner_all L k _ _ _ _ _ cn mn fn tn yn _ _ _ _ _ _ _ hcn hmn hk b2 o2 (⟨xn, xo, xf, ⟨xta, xtl, xtc⟩, xp, ⟨xla, xll, xlc⟩, xr, xb, xat⟩ : MeC) (HA.out.og (og_of_below (HBw.out _ HB_w4.out))) (.inr hin) (HPR.out.below (HBw.out _ HB_w4.out))).mono ?_
                              rintro e w5 ⟨⟨z5, rfl⟩, hB'⟩
                              have HB_w5 := Lib.hid (HB_w4.out.trans (hB'.mono hz_w4))
                              clear hB'
                              go_wp2_with fail
                              go_ret
                              exact ⟨⟨_, rfl, fun _ => HOW.out⟩, HBw.out _ HB_w5.out⟩
                        · have hz5 : (z4 == 0) = false := by simpa using hz4
                          have HZ := Lib.hid hz4
                          clear hz4
                          go_wp2_with fail
                          go_ret
                          exact ⟨⟨_, rfl, fun h => absurd h HZ.out⟩, HBw.out _ HB_w4.out⟩
            · go_wp2_with fail
              go_ret
              exact ⟨⟨_, rfl, fun h => by cases h⟩, HBw.out _ HB_w3.out⟩
end Go.Proofs.YtkjjieloncdjhaaGreatDoor
