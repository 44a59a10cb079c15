/- Check: whether what a class lists belongs to it. -/
import Derived.Test.YtkjjieloncdjhaaGreatDoorE3
namespace Go.Proofs.YtkjjieloncdjhaaGreatDoor
open Go Go.RowKit

set_option maxRecDepth 100000 in
set_option maxHeartbeats 16000000 in
theorem ownsLists_all (L k : Nat) (x : ClC) (qt qp qf qm qy : List Int) (ca ma fa ta ya : Option Addr) (cn mn fn tn yn cc mc fc tc yc : Nat) (mi : Int) (w : World) (hk : k < cn) (_ : cn ≤ 1048576) (_ : mn ≤ 1048576) (hfn : fn ≤ 1048576) (_ : tn ≤ 1048576) (_ : yn ≤ 1048576)
    (hA : ∃ b o, b < w.heap.size ∧ ClAt w L ca k b o x) (hN : ClN w w.heap.size x qt qp qf qm qy) (hE : existF qt qp qf qm qy mn fn tn yn = true) (hP : PrgR L w ca ma fa ta ya cn mn fn tn yn) :
    Calls Tryz.prog 140 #[.agg #[.slice ca cn cc, .slice ma mn mc, .slice fa fn fc, .slice ta tn tc, .slice ya yn yc, .int .i64 mi], .int .i64 k] w fun e w' => BoolEnd e ∧ Below w.heap.size w w' := by
  obtain ⟨bc, oc, hbc, hA⟩ := hA
  obtain rfl := hA.ad
  simp only [existF, Bool.and_eq_true] at hE
  obtain ⟨e1, e2, e3, e4, e5⟩ := hE
  have HR_tp := Lib.hid e1
  have HR_pa := Lib.hid e2
  have HR_fi := Lib.hid e3
  have HR_me := Lib.hid e4
  have HR_ty := Lib.hid e5
  have hB1 := (Bl.new w 30 [.slice (some ⟨bc, oc, none⟩) cn cc, .slice ma mn mc, .slice fa fn fc, .slice ta tn tc, .slice ya yn yc, .int .i64 mi]).alloc (.cells x.cells.toArray 37)
  have hB0 := Bl.new w 30 [.slice (some ⟨bc, oc, none⟩) cn cc, .slice ma mn mc, .slice fa fn fc, .slice ta tn tc, .slice ya yn yc, .int .i64 mi]
  have hB2 := Bl.new (w.alloc (.cells #[.slice (some ⟨bc, oc, none⟩) cn cc, .slice ma mn mc, .slice fa fn fc, .slice ta tn tc, .slice ya yn yc, .int .i64 mi] 30)) 37 x.cells
  have q0 := hB0.cell 0
  have q1 := hB1.cell 1
  have q2 := hB1.cell 2
  have q3 := hB1.cell 3
  have q4 := hB1.cell 4
  have c4 := hB2.cell 4
  have c6 := hB2.cell 6
  have c7 := hB2.cell 7
  have c8 := hB2.cell 8
  have c9 := hB2.cell 9
  have HQ0 := Lib.hid q0
  clear q0
  have q0 := hB1.cell 0
  simp only [List.getElem?_cons_zero, List.getElem?_cons_succ, World.size_alloc] at q0 q1 q2 q3 q4 c4 c6 c7 c8 c9
  have HB1 := Lib.hid ((Below.refl w.heap.size w).alloc (Nat.le_refl _) (.cells #[.slice (some ⟨bc, oc, none⟩) cn cc, .slice ma mn mc, .slice fa fn fc, .slice ta tn tc, .slice ya yn yc, .int .i64 mi] 30))
  have HB := Lib.hid (HB1.out.alloc (by simp) (.cells x.cells.toArray 37))
  have HN := Lib.hid (hN.below HB.out)
  have HPR := Lib.hid (hP.below HB.out)
  obtain ⟨-, -, -, k0, k1, k2, k3, k4, k5, k6, k7, k8, k9, k10, k11, k12⟩ := hA.below HB1.out hbc
  clear hB1 hB2 hB0 hN hP hA e1 e2 e3 e4 e5
  have q0' := HQ0.out
  go_enter Tryz.func140, Tryz.ntmps140
  go_wp2_with fail
  clear k0 k1 k2 k3 k4 k5 k6 k7 k8 k9 k10 k11 k12 q0'
  generalize hW : ((w.alloc (.cells #[.slice (some ⟨bc, oc, none⟩) cn cc, .slice ma mn mc, .slice fa fn fc, .slice ta tn tc, .slice ya yn yc, .int .i64 mi] 30)).alloc (.cells x.cells.toArray 37)) = W at *
  clear hW
  generalize hxa : x.fi.a = af_fi at c7
  have HXA_fi := Lib.hid hxa
  have hl_fi := HN.out.lfi
  clear hxa
  go_wp2_with fail
  go_loop [22] (fun i => ∃ j : Nat, j ≤ x.fi.l ∧ i = .int .i64 j) (fun i => x.fi.l - (intOf i).toNat)
  case atStart => exact ⟨0, by omega, rfl⟩
  case round =>
    obtain ⟨j, hj, rfl⟩ := hrel
    by_cases hlt : j < x.fi.l
    · obtain ⟨g, o, eA, hg, hc⟩ := HN.out.fi.2 j (by rw [← HN.out.fi.1]; exact hlt)
      rw [HXA_fi.out] at eA
      subst eA
      have hv := inR_iff.1 (List.all_eq_true.1 HR_fi.out (qf.getD j 0) (by
        have hkq : j < qf.length := by rw [← HN.out.fi.1]; exact hlt
        rw [List.getD_eq_getElem?_getD, List.getElem?_eq_getElem hkq]
        exact List.getElem_mem _))
      generalize qf.getD j 0 = v at *
      obtain ⟨m, rfl⟩ : ∃ m : Nat, v = (m : Int) := ⟨v.toNat, by omega⟩
      have hmn : m < fn := by omega
      have hmi : (m : Int) < (fn : Int) := by omega
      obtain ⟨b2, o2, y, hA2, _⟩ := HPR.out.fi.2 m hmn
      have kk := hA2.k1
      have hb2 := hA2.lt
      have eT := hA2.ad
      rw [eT] at q2
      clear eT hv
      by_cases hw : y.ow = (k : Int)
      · have hw1 : (y.ow == (k : Int)) = true := by simpa using hw
        clear hA2 hw
        go_wp2_with fail
        go_round
        case rel => exact ⟨j + 1, by omega, by go_num⟩
        case measure => simp [intOf]; omega
      · have hw1 : (y.ow == (k : Int)) = false := by simpa using hw
        clear hA2 hw
        go_wp2_with fail
        go_ret
        exact ⟨⟨_, rfl⟩, HB.out⟩
    · have hjn : j = x.fi.l := by omega
      subst hjn
      clear hlt hj
      generalize hxa : x.me.a = af_me at c8
      have HXA_me := Lib.hid hxa
      have hl_me := HN.out.lme
      clear hxa
      go_wp2_with fail
      go_loop [38] (fun i => ∃ j : Nat, j ≤ x.me.l ∧ i = .int .i64 j) (fun i => x.me.l - (intOf i).toNat)
      case atStart => exact ⟨0, by omega, rfl⟩
      case round =>
        obtain ⟨j, hj, rfl⟩ := hrel
        by_cases hlt : j < x.me.l
        · obtain ⟨g, o, eA, hg, hc⟩ := HN.out.me.2 j (by rw [← HN.out.me.1]; exact hlt)
          rw [HXA_me.out] at eA
          subst eA
          have hv := inR_iff.1 (List.all_eq_true.1 HR_me.out (qm.getD j 0) (by
            have hkq : j < qm.length := by rw [← HN.out.me.1]; exact hlt
            rw [List.getD_eq_getElem?_getD, List.getElem?_eq_getElem hkq]
            exact List.getElem_mem _))
          generalize qm.getD j 0 = v at *
          obtain ⟨m, rfl⟩ : ∃ m : Nat, v = (m : Int) := ⟨v.toNat, by omega⟩
          have hmn : m < mn := by omega
          have hmi : (m : Int) < (mn : Int) := by omega
          obtain ⟨b2, o2, y, hA2, _⟩ := HPR.out.me.2 m hmn
          have kk := hA2.k1
          have hb2 := hA2.lt
          have eT := hA2.ad
          rw [eT] at q1
          clear eT hv
          by_cases hw : y.ow = (k : Int)
          · have hw1 : (y.ow == (k : Int)) = true := by simpa using hw
            clear hA2 hw
            go_wp2_with fail
            go_round
            case rel => exact ⟨j + 1, by omega, by go_num⟩
            case measure => simp [intOf]; omega
          · have hw1 : (y.ow == (k : Int)) = false := by simpa using hw
            clear hA2 hw
            go_wp2_with fail
            go_ret
            exact ⟨⟨_, rfl⟩, HB.out⟩
        · have hjn : j = x.me.l := by omega
          subst hjn
          clear hlt hj
          generalize hxa : x.ty.a = af_ty at c9
          have HXA_ty := Lib.hid hxa
          have hl_ty := HN.out.lty
          clear hxa
          go_wp2_with fail
          go_loop [54] (fun i => ∃ j : Nat, j ≤ x.ty.l ∧ i = .int .i64 j) (fun i => x.ty.l - (intOf i).toNat)
          case atStart => exact ⟨0, by omega, rfl⟩
          case round =>
            obtain ⟨j, hj, rfl⟩ := hrel
            by_cases hlt : j < x.ty.l
            · obtain ⟨g, o, eA, hg, hc⟩ := HN.out.ty.2 j (by rw [← HN.out.ty.1]; exact hlt)
              rw [HXA_ty.out] at eA
              subst eA
              have hv := inR_iff.1 (List.all_eq_true.1 HR_ty.out (qy.getD j 0) (by
                have hkq : j < qy.length := by rw [← HN.out.ty.1]; exact hlt
                rw [List.getD_eq_getElem?_getD, List.getElem?_eq_getElem hkq]
                exact List.getElem_mem _))
              generalize qy.getD j 0 = v at *
              obtain ⟨m, rfl⟩ : ∃ m : Nat, v = (m : Int) := ⟨v.toNat, by omega⟩
              have hmn : m < yn := by omega
              have hmi : (m : Int) < (yn : Int) := by omega
              obtain ⟨b2, o2, xn, xo, xa, xl, xh, hA2, _⟩ := HPR.out.tm.2 m hmn
              have kk := hA2.k1
              have hb2 := hA2.lt
              have eT := hA2.ad
              rw [eT] at q4
              clear eT hv
              by_cases hw : xo = (k : Int)
              · have hw1 : (xo == (k : Int)) = true := by simpa using hw
                clear hA2 hw
                go_wp2_with fail
                go_round
                case rel => exact ⟨j + 1, by omega, by go_num⟩
                case measure => simp [intOf]; omega
              · have hw1 : (xo == (k : Int)) = false := by simpa using hw
                clear hA2 hw
                go_wp2_with fail
                go_ret
                exact ⟨⟨_, rfl⟩, HB.out⟩
            · have hjn : j = x.ty.l := by omega
              subst hjn
              clear hlt hj
              generalize hxa : x.tp.a = af_tp at c4
              have HXA_tp := Lib.hid hxa
              have hl_tp := HN.out.ltp
              clear hxa
              go_wp2_with fail
              go_loop [70] (fun i => ∃ j : Nat, j ≤ x.tp.l ∧ i = .int .i64 j) (fun i => x.tp.l - (intOf i).toNat)
              case atStart => exact ⟨0, by omega, rfl⟩
              case round =>
                obtain ⟨j, hj, rfl⟩ := hrel
                by_cases hlt : j < x.tp.l
                · obtain ⟨g, o, eA, hg, hc⟩ := HN.out.tp.2 j (by rw [← HN.out.tp.1]; exact hlt)
                  rw [HXA_tp.out] at eA
                  subst eA
                  have hv := inR_iff.1 (List.all_eq_true.1 HR_tp.out (qt.getD j 0) (by
                    have hkq : j < qt.length := by rw [← HN.out.tp.1]; exact hlt
                    rw [List.getD_eq_getElem?_getD, List.getElem?_eq_getElem hkq]
                    exact List.getElem_mem _))
                  generalize qt.getD j 0 = v at *
                  obtain ⟨m, rfl⟩ : ∃ m : Nat, v = (m : Int) := ⟨v.toNat, by omega⟩
                  have hmn : m < tn := by omega
                  have hmi : (m : Int) < (tn : Int) := by omega
                  obtain ⟨b2, o2, y, hA2, _⟩ := HPR.out.tp.2 m hmn
                  have kk := hA2.k1
                  have hb2 := hA2.lt
                  have eT := hA2.ad
                  rw [eT] at q3
                  clear eT hv
                  have kk2 := hA2.k2
                  by_cases hw : y.cl = (k : Int)
                  · have hw1 : (y.cl == (k : Int)) = true := by simpa using hw
                    by_cases hw2 : y.me = -1
                    · have hw3 : (y.me == -1) = true := by simpa using hw2
                      clear hA2
                      go_wp2_with fail
                      go_round
                      case rel => exact ⟨j + 1, by omega, by go_num⟩
                      case measure => simp [intOf]; omega
                    · have hw3 : (y.me == -1) = false := by simpa using hw2
                      clear hA2
                      go_wp2_with fail
                      go_ret
                      exact ⟨⟨_, rfl⟩, HB.out⟩
                  · have hw1 : (y.cl == (k : Int)) = false := by simpa using hw
                    clear hA2
                    go_wp2_with fail
                    go_ret
                    exact ⟨⟨_, rfl⟩, HB.out⟩
                · have hjn : j = x.tp.l := by omega
                  subst hjn
                  clear hlt hj
                  generalize hxa : x.pa.a = af_pa at c6
                  have HXA_pa := Lib.hid hxa
                  clear hxa
                  go_wp2_with fail
                  refine (isPart_all af_pa x.pa.l x.pa.c qp af_fi x.fi.l x.fi.c qf _ HN.out.lpa HN.out.lfi (by rw [← HXA_pa.out]; exact HN.out.pa.nums) (by rw [← HXA_fi.out]; exact HN.out.fi.nums) (by rw [← HXA_pa.out]; exact HN.out.pa.lies (by have := HB.out.size; exact this)) (by rw [← HXA_fi.out]; exact HN.out.fi.lies (by have := HB.out.size; exact this)) (rng_of HR_pa.out hfn) (rng_of HR_fi.out hfn)).mono ?_
                  rintro e w9 ⟨⟨r, rfl⟩, hB9⟩
                  have HB9 := Lib.hid (HB.out.trans (hB9.mono HB.out.size))
                  clear hB9
                  go_wp2_with fail
                  go_ret
                  exact ⟨⟨_, rfl⟩, HB9.out⟩
end Go.Proofs.YtkjjieloncdjhaaGreatDoor
