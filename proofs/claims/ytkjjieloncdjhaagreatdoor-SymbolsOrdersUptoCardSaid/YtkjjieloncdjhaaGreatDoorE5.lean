/- Check: a class. -/
import Derived.Test.YtkjjieloncdjhaaGreatDoorE4
namespace Go.Proofs.YtkjjieloncdjhaaGreatDoor
open Go Go.RowKit

theorem ClN.mono {w : World} {B B' : Nat} {x : ClC} {qt qp qf qm qy : List Int} (h : ClN w B x qt qp qf qm qy) (hB : B ≤ B') : ClN w B' x qt qp qf qm qy := by
  have hn : ∀ {s : Sl} {q : List Int}, NumL w B s q → NumL w B' s q := fun h => ⟨h.1, fun k hk => by
    obtain ⟨g, o, e, hg, hc⟩ := h.2 k hk
    exact ⟨g, o, e, Nat.lt_of_lt_of_le hg hB, hc⟩⟩
  exact ⟨hn h.tp, hn h.pa, hn h.fi, hn h.me, hn h.ty, h.ltp, h.lpa, h.lfi, h.lme, h.lty⟩
theorem ClN.setOw {w : World} {B : Nat} {x : ClC} {qt qp qf qm qy : List Int} {z : Int} (h : ClN w B x qt qp qf qm qy) : ClN w B {x with ow := z} qt qp qf qm qy := ⟨h.tp, h.pa, h.fi, h.me, h.ty, h.ltp, h.lpa, h.lfi, h.lme, h.lty⟩
theorem existF_rng {qt qp qf qm qy : List Int} {mn fn tn yn : Nat} (h : existF qt qp qf qm qy mn fn tn yn = true) (h1 : mn ≤ 1048576) (h2 : fn ≤ 1048576) (h3 : tn ≤ 1048576) (h4 : yn ≤ 1048576) :
    (∀ x ∈ qt, 0 ≤ x ∧ x ≤ 9223372036854775807) ∧ (∀ x ∈ qp, 0 ≤ x ∧ x ≤ 9223372036854775807) ∧ (∀ x ∈ qf, 0 ≤ x ∧ x ≤ 9223372036854775807) ∧ (∀ x ∈ qm, 0 ≤ x ∧ x ≤ 9223372036854775807) ∧ (∀ x ∈ qy, 0 ≤ x ∧ x ≤ 9223372036854775807) := by
  simp only [existF, Bool.and_eq_true] at h
  obtain ⟨e1, e2, e3, e4, e5⟩ := h
  exact ⟨rng_of e1 h3, rng_of e2 h2, rng_of e3 h2, rng_of e4 h1, rng_of e5 h4⟩
theorem five_of {w : World} {g : Nat} {x : ClC} {qt qp qf qm qy : List Int} (hb : Bl w g 33 [.slice x.tp.a x.tp.l x.tp.c, .slice x.pa.a x.pa.l x.pa.c, .slice x.fi.a x.fi.l x.fi.c, .slice x.me.a x.me.l x.me.c, .slice x.ty.a x.ty.l x.ty.c]) (hn : ClN w w.heap.size x qt qp qf qm qy)
    (hr : (∀ x ∈ qt, 0 ≤ x ∧ x ≤ 9223372036854775807) ∧ (∀ x ∈ qp, 0 ≤ x ∧ x ≤ 9223372036854775807) ∧ (∀ x ∈ qf, 0 ≤ x ∧ x ≤ 9223372036854775807) ∧ (∀ x ∈ qm, 0 ≤ x ∧ x ≤ 9223372036854775807) ∧ (∀ x ∈ qy, 0 ≤ x ∧ x ≤ 9223372036854775807)) :
    ∀ j p, [(x.tp, qt), (x.pa, qp), (x.fi, qf), (x.me, qm), (x.ty, qy)][j]? = some p → w.cell? ⟨g, j, none⟩ = some (.slice p.1.a p.1.l p.1.c) ∧ NumL w w.heap.size p.1 p.2 ∧ p.1.l ≤ 1048576 ∧ ∀ x ∈ p.2, 0 ≤ x ∧ x ≤ 9223372036854775807 := by
  intro j p hp
  match j, hp with
  | 0, hp =>
    simp at hp
    subst hp
    exact ⟨hb.cell 0, hn.tp, hn.ltp, hr.1⟩
  | 1, hp =>
    simp at hp
    subst hp
    exact ⟨hb.cell 1, hn.pa, hn.lpa, hr.2.1⟩
  | 2, hp =>
    simp at hp
    subst hp
    exact ⟨hb.cell 2, hn.fi, hn.lfi, hr.2.2.1⟩
  | 3, hp =>
    simp at hp
    subst hp
    exact ⟨hb.cell 3, hn.me, hn.lme, hr.2.2.2.1⟩
  | 4, hp =>
    simp at hp
    subst hp
    exact ⟨hb.cell 4, hn.ty, hn.lty, hr.2.2.2.2⟩

set_option maxRecDepth 100000 in
set_option maxHeartbeats 16000000 in
theorem checkClass_all (L k : Nat) (ca ma fa ta ya : Option Addr) (cn mn fn tn yn cc mc fc tc yc : Nat) (mi : Int) (w : World) (hk : k < cn) (hcn : cn ≤ 1048576) (hmn : mn ≤ 1048576) (hfn : fn ≤ 1048576) (htn : tn ≤ 1048576) (hyn : yn ≤ 1048576) (hP : PrgR L w ca ma fa ta ya cn mn fn tn yn) :
    Calls Tryz.prog 88 #[.agg #[.slice ca cn cc, .slice ma mn mc, .slice fa fn fc, .slice ta tn tc, .slice ya yn yc, .int .i64 mi], .int .i64 k] w fun e w' => (∃ z : Int, e = .returned (.int .i64 z)) ∧ Below w.heap.size w w' := by
  obtain ⟨bc, oc, x, hA, hO⟩ := hP.cl.2 k hk
  obtain ⟨qt, qp, qf, qm, qy, hN⟩ := ClN.of hO
  have hnm := hO.nm
  have hbc := hA.lt
  obtain rfl := hA.ad
  have HN := Lib.hid hN
  have HPR := Lib.hid hP
  have HA := Lib.hid (fun (W' : World) (hB : Below w.heap.size w W') => (show ∃ b o, b < W'.heap.size ∧ ClAt W' L (some ⟨bc, oc, none⟩) k b o x from ⟨bc, oc, by have := hB.size; omega, hA.below hB hbc⟩))
  have hB0 := Bl.new w 30 [.slice (some ⟨bc, oc, none⟩) cn cc, .slice ma mn mc, .slice fa fn fc, .slice ta tn tc, .slice ya yn yc, .int .i64 mi]
  have hB2 := Bl.new (w.alloc (.cells #[.slice (some ⟨bc, oc, none⟩) cn cc, .slice ma mn mc, .slice fa fn fc, .slice ta tn tc, .slice ya yn yc, .int .i64 mi] 30)) 37 x.cells
  rw [World.size_alloc] at hB2
  have HPb := Lib.hid (hB0.alloc (.cells x.cells.toArray 37))
  have HCb := Lib.hid hB2
  have HB1 := Lib.hid ((Below.refl w.heap.size w).alloc (Nat.le_refl _) (.cells #[.slice (some ⟨bc, oc, none⟩) cn cc, .slice ma mn mc, .slice fa fn fc, .slice ta tn tc, .slice ya yn yc, .int .i64 mi] 30))
  have HB2 := Lib.hid (HB1.out.alloc (by simp) (.cells x.cells.toArray 37))
  have HBw : Hid (∀ W', Below (w.heap.size + 1 + 1) ((w.alloc (.cells #[.slice (some ⟨bc, oc, none⟩) cn cc, .slice ma mn mc, .slice fa fn fc, .slice ta tn tc, .slice ya yn yc, .int .i64 mi] 30)).alloc (.cells x.cells.toArray 37)) W' → Below w.heap.size w W') := Lib.hid (fun W' hB => HB2.out.trans (hB.mono (by omega)))
  have HB_W := Lib.hid (Below.refl (w.heap.size + 1 + 1) ((w.alloc (.cells #[.slice (some ⟨bc, oc, none⟩) cn cc, .slice ma mn mc, .slice fa fn fc, .slice ta tn tc, .slice ya yn yc, .int .i64 mi] 30)).alloc (.cells x.cells.toArray 37)))
  have hsW : ((w.alloc (.cells #[.slice (some ⟨bc, oc, none⟩) cn cc, .slice ma mn mc, .slice fa fn fc, .slice ta tn tc, .slice ya yn yc, .int .i64 mi] 30)).alloc (.cells x.cells.toArray 37)).heap.size = w.heap.size + 1 + 1 := by simp
  have hlt0 : w.heap.size < w.heap.size + 1 + 1 := by omega
  have hlt1 : w.heap.size + 1 < w.heap.size + 1 + 1 := by omega
  have q00 := hB0.cell 0
  simp only [List.getElem?_cons_zero] at q00
  obtain ⟨-, -, -, k0, k1, k2, k3, k4, k5, k6, k7, k8, k9, k10, k11, k12⟩ := hA.below HB1.out hbc
  have d0 := HCb.out.cell 0
  simp only [List.getElem?_cons_zero] at d0
  clear hB2 hB0 hN hP hA hO HB2
  go_enter Tryz.func88, Tryz.ntmps88
  go_wp2_with fail
  clear k0 k1 k2 k3 k4 k5 k6 k7 k8 k9 k10 k11 k12 q00 d0
  generalize hW : ((w.alloc (.cells #[.slice (some ⟨bc, oc, none⟩) cn cc, .slice ma mn mc, .slice fa fn fc, .slice ta tn tc, .slice ya yn yc, .int .i64 mi] 30)).alloc (.cells x.cells.toArray 37)) = W at *
  clear hW
  have hz_W : w.heap.size + 1 + 1 ≤ W.heap.size := by have := HB_W.out.size; omega
  obtain ⟨q0, q1, q2, q3, q4, q5⟩ := ((HPb.out.below HB_W.out hlt0).six)
  obtain ⟨c0, c1, c2, c3, c4, c5, c6, c7, c8, c9, c10, c11, c12⟩ := ((HCb.out.below HB_W.out hlt1).thirteen)
  refine (name_some x.nm _ hnm).mono ?_
  rintro e w1 ⟨⟨r1, rfl⟩, hB'⟩
  have HB_w1 := Lib.hid (HB_W.out.trans (hB'.mono hz_W))
  clear hB'
  clear q0 q1 q2 q3 q4 q5 c0 c1 c2 c3 c4 c5 c6 c7 c8 c9 c10 c11 c12
  have hz_w1 : w.heap.size + 1 + 1 ≤ w1.heap.size := by have := HB_w1.out.size; omega
  obtain ⟨q0, q1, q2, q3, q4, q5⟩ := ((HPb.out.below HB_w1.out hlt0).six)
  obtain ⟨c0, c1, c2, c3, c4, c5, c6, c7, c8, c9, c10, c11, c12⟩ := ((HCb.out.below HB_w1.out hlt1).thirteen)
  cases r1
  · go_wp2_with fail
    go_ret
    exact ⟨⟨_, rfl⟩, HBw.out _ HB_w1.out⟩
  · by_cases hk1 : x.kd < 0
    · go_wp2_with fail
      go_ret
      exact ⟨⟨_, rfl⟩, HBw.out _ HB_w1.out⟩
    · by_cases hk2 : 3 ≤ x.kd
      · go_wp2_with fail
        go_ret
        exact ⟨⟨_, rfl⟩, HBw.out _ HB_w1.out⟩
      · go_wp2_with fail
        refine (keepsClass_all x _).mono ?_
        rintro e w2 ⟨rfl, hB'⟩
        have HB_w2 := Lib.hid (HB_w1.out.trans (hB'.mono hz_w1))
        clear hB'
        clear q0 q1 q2 q3 q4 q5 c0 c1 c2 c3 c4 c5 c6 c7 c8 c9 c10 c11 c12
        have hz_w2 : w.heap.size + 1 + 1 ≤ w2.heap.size := by have := HB_w2.out.size; omega
        obtain ⟨q0, q1, q2, q3, q4, q5⟩ := ((HPb.out.below HB_w2.out hlt0).six)
        obtain ⟨c0, c1, c2, c3, c4, c5, c6, c7, c8, c9, c10, c11, c12⟩ := ((HCb.out.below HB_w2.out hlt1).thirteen)
        cases hkc : keepsClassF x.kd x.fl
        · go_wp2_with fail
          go_ret
          exact ⟨⟨_, rfl⟩, HBw.out _ HB_w2.out⟩
        · by_cases ho : x.ow = -1
          · have ho1 : (x.ow == -1) = true := by simpa using ho
            go_wp2_with fail
            refine (existLists_all ({x with ow := -1} : ClC) qt qp qf qm qy (some ⟨bc, oc, none⟩) ma fa ta ya cn mn fn tn yn cc mc fc tc yc mi _ (ClN.setOw ((HN.out.below (HBw.out _ HB_w2.out)).mono (by omega)))).mono ?_
            rintro e w2e ⟨rfl, hB'⟩
            have HB_w2e := Lib.hid (HB_w2.out.trans (hB'.mono hz_w2))
            clear hB'
            clear q0 q1 q2 q3 q4 q5 c0 c1 c2 c3 c4 c5 c6 c7 c8 c9 c10 c11 c12
            have hz_w2e : w.heap.size + 1 + 1 ≤ w2e.heap.size := by have := HB_w2e.out.size; omega
            obtain ⟨q0, q1, q2, q3, q4, q5⟩ := ((HPb.out.below HB_w2e.out hlt0).six)
            obtain ⟨c0, c1, c2, c3, c4, c5, c6, c7, c8, c9, c10, c11, c12⟩ := ((HCb.out.below HB_w2e.out hlt1).thirteen)
            cases hex : existF qt qp qf qm qy mn fn tn yn
            · go_wp2_with fail
              go_ret
              exact ⟨⟨_, rfl⟩, HBw.out _ HB_w2e.out⟩
            · go_wp2_with fail
              have hnew := Bl.new w2e 33 [.slice x.tp.a x.tp.l x.tp.c, .slice x.pa.a x.pa.l x.pa.c, .slice x.fi.a x.fi.l x.fi.c, .slice x.me.a x.me.l x.me.c, .slice x.ty.a x.ty.l x.ty.c]
              have HBn := Lib.hid (HB_w2e.out.alloc hz_w2e (.cells #[.slice x.tp.a x.tp.l x.tp.c, .slice x.pa.a x.pa.l x.pa.c, .slice x.fi.a x.fi.l x.fi.c, .slice x.me.a x.me.l x.me.c, .slice x.ty.a x.ty.l x.ty.c] 33))
              have HNn := Lib.hid ((HN.out.below (HBw.out _ HBn.out)).mono (B' := w2e.heap.size + 1) (by omega))
              have hrng := existF_rng hex hmn hfn htn hyn
              refine (twice5_all w2e.heap.size [(x.tp, qt), (x.pa, qp), (x.fi, qf), (x.me, qm), (x.ty, qy)] _ (by simp) rfl (five_of hnew (by simpa using HNn.out) hrng)).mono ?_
              rintro e w5 ⟨⟨r5, rfl⟩, hB'⟩
              have HB_w5 := Lib.hid (HBn.out.trans (hB'.mono (by simp; omega)))
              clear hB' hnew hrng
              clear q0 q1 q2 q3 q4 q5 c0 c1 c2 c3 c4 c5 c6 c7 c8 c9 c10 c11 c12
              have hz_w5 : w.heap.size + 1 + 1 ≤ w5.heap.size := by have := HB_w5.out.size; omega
              obtain ⟨q0, q1, q2, q3, q4, q5⟩ := ((HPb.out.below HB_w5.out hlt0).six)
              obtain ⟨c0, c1, c2, c3, c4, c5, c6, c7, c8, c9, c10, c11, c12⟩ := ((HCb.out.below HB_w5.out hlt1).thirteen)
              cases r5
              · skip
                go_wp2_with fail
                refine (keepsNum_all ({x with ow := -1} : ClC) _ HN.out.ltp HN.out.lpa).mono ?_
                rintro e w6 ⟨rfl, hB'⟩
                have HB_w6 := Lib.hid (HB_w5.out.trans (hB'.mono hz_w5))
                clear hB'
                clear q0 q1 q2 q3 q4 q5 c0 c1 c2 c3 c4 c5 c6 c7 c8 c9 c10 c11 c12
                have hz_w6 : w.heap.size + 1 + 1 ≤ w6.heap.size := by have := HB_w6.out.size; omega
                obtain ⟨q0, q1, q2, q3, q4, q5⟩ := ((HPb.out.below HB_w6.out hlt0).six)
                obtain ⟨c0, c1, c2, c3, c4, c5, c6, c7, c8, c9, c10, c11, c12⟩ := ((HCb.out.below HB_w6.out hlt1).thirteen)
                cases hkn : keepsNumF ({x with ow := -1} : ClC)
                · go_wp2_with fail
                  go_ret
                  exact ⟨⟨_, rfl⟩, HBw.out _ HB_w6.out⟩
                · go_wp2_with fail
                  refine (ownsLists_all L k x qt qp qf qm qy (some ⟨bc, oc, none⟩) ma fa ta ya cn mn fn tn yn cc mc fc tc yc mi _ hk hcn hmn hfn htn hyn (HA.out _ (HBw.out _ HB_w6.out)) ((HN.out.below (HBw.out _ HB_w6.out)).mono (by omega)) hex (HPR.out.below (HBw.out _ HB_w6.out))).mono ?_
                  rintro e w7 ⟨⟨r7, rfl⟩, hB'⟩
                  have HB_w7 := Lib.hid (HB_w6.out.trans (hB'.mono hz_w6))
                  clear hB'
                  clear q0 q1 q2 q3 q4 q5 c0 c1 c2 c3 c4 c5 c6 c7 c8 c9 c10 c11 c12
                  have hz_w7 : w.heap.size + 1 + 1 ≤ w7.heap.size := by have := HB_w7.out.size; omega
                  obtain ⟨q0, q1, q2, q3, q4, q5⟩ := ((HPb.out.below HB_w7.out hlt0).six)
                  obtain ⟨c0, c1, c2, c3, c4, c5, c6, c7, c8, c9, c10, c11, c12⟩ := ((HCb.out.below HB_w7.out hlt1).thirteen)
                  cases r7
                  · go_wp2_with fail
                    go_ret
                    exact ⟨⟨_, rfl⟩, HBw.out _ HB_w7.out⟩
                  · go_wp2_with fail
                    refine (keepsVal_all ({x with ow := -1} : ClC) _ HN.out.lfi HN.out.lpa).mono ?_
                    rintro e w8 ⟨rfl, hB'⟩
                    have HB_w8 := Lib.hid (HB_w7.out.trans (hB'.mono hz_w7))
                    clear hB'
                    clear q0 q1 q2 q3 q4 q5 c0 c1 c2 c3 c4 c5 c6 c7 c8 c9 c10 c11 c12
                    have hz_w8 : w.heap.size + 1 + 1 ≤ w8.heap.size := by have := HB_w8.out.size; omega
                    obtain ⟨q0, q1, q2, q3, q4, q5⟩ := ((HPb.out.below HB_w8.out hlt0).six)
                    obtain ⟨c0, c1, c2, c3, c4, c5, c6, c7, c8, c9, c10, c11, c12⟩ := ((HCb.out.below HB_w8.out hlt1).thirteen)
                    cases hkv : keepsValF ({x with ow := -1} : ClC)
                    · go_wp2_with fail
                      go_ret
                      exact ⟨⟨_, rfl⟩, HBw.out _ HB_w8.out⟩
                    · go_wp2_with fail
                      go_ret
                      exact ⟨⟨_, rfl⟩, HBw.out _ HB_w8.out⟩
              · go_wp2_with fail
                go_ret
                exact ⟨⟨_, rfl⟩, HBw.out _ HB_w5.out⟩
          · have ho1 : (x.ow == -1) = false := by simpa using ho
            by_cases hoc : x.ow = (k : Int)
            · have ho2 : (x.ow == (k : Int)) = true := by simpa using hoc
              go_wp2_with fail
              go_ret
              exact ⟨⟨_, rfl⟩, HBw.out _ HB_w2.out⟩
            · have ho2 : (x.ow == (k : Int)) = false := by simpa using hoc
              go_wp2_with fail
              cases hin : decide (0 ≤ x.ow ∧ x.ow < (cn : Int))
              · refine (exists_is _ cn _ _ false hin _).mono ?_
                rintro e w' ⟨rfl, rfl⟩
                go_wp2_with fail
                go_ret
                exact ⟨⟨_, rfl⟩, HBw.out _ HB_w2.out⟩
              · refine (exists_is _ cn _ _ true hin _).mono ?_
                rintro e w' ⟨rfl, rfl⟩
                go_wp2_with fail
                refine (existLists_all x qt qp qf qm qy (some ⟨bc, oc, none⟩) ma fa ta ya cn mn fn tn yn cc mc fc tc yc mi _ ((HN.out.below (HBw.out _ HB_w2.out)).mono (by omega))).mono ?_
                rintro e w2e ⟨rfl, hB'⟩
                have HB_w2e := Lib.hid (HB_w2.out.trans (hB'.mono hz_w2))
                clear hB'
                clear q0 q1 q2 q3 q4 q5 c0 c1 c2 c3 c4 c5 c6 c7 c8 c9 c10 c11 c12
                have hz_w2e : w.heap.size + 1 + 1 ≤ w2e.heap.size := by have := HB_w2e.out.size; omega
                obtain ⟨q0, q1, q2, q3, q4, q5⟩ := ((HPb.out.below HB_w2e.out hlt0).six)
                obtain ⟨c0, c1, c2, c3, c4, c5, c6, c7, c8, c9, c10, c11, c12⟩ := ((HCb.out.below HB_w2e.out hlt1).thirteen)
                cases hex : existF qt qp qf qm qy mn fn tn yn
                · go_wp2_with fail
                  go_ret
                  exact ⟨⟨_, rfl⟩, HBw.out _ HB_w2e.out⟩
                · go_wp2_with fail
                  have hnew := Bl.new w2e 33 [.slice x.tp.a x.tp.l x.tp.c, .slice x.pa.a x.pa.l x.pa.c, .slice x.fi.a x.fi.l x.fi.c, .slice x.me.a x.me.l x.me.c, .slice x.ty.a x.ty.l x.ty.c]
                  have HBn := Lib.hid (HB_w2e.out.alloc hz_w2e (.cells #[.slice x.tp.a x.tp.l x.tp.c, .slice x.pa.a x.pa.l x.pa.c, .slice x.fi.a x.fi.l x.fi.c, .slice x.me.a x.me.l x.me.c, .slice x.ty.a x.ty.l x.ty.c] 33))
                  have HNn := Lib.hid ((HN.out.below (HBw.out _ HBn.out)).mono (B' := w2e.heap.size + 1) (by omega))
                  have hrng := existF_rng hex hmn hfn htn hyn
                  refine (twice5_all w2e.heap.size [(x.tp, qt), (x.pa, qp), (x.fi, qf), (x.me, qm), (x.ty, qy)] _ (by simp) rfl (five_of hnew (by simpa using HNn.out) hrng)).mono ?_
                  rintro e w5 ⟨⟨r5, rfl⟩, hB'⟩
                  have HB_w5 := Lib.hid (HBn.out.trans (hB'.mono (by simp; omega)))
                  clear hB' hnew hrng
                  clear q0 q1 q2 q3 q4 q5 c0 c1 c2 c3 c4 c5 c6 c7 c8 c9 c10 c11 c12
                  have hz_w5 : w.heap.size + 1 + 1 ≤ w5.heap.size := by have := HB_w5.out.size; omega
                  obtain ⟨q0, q1, q2, q3, q4, q5⟩ := ((HPb.out.below HB_w5.out hlt0).six)
                  obtain ⟨c0, c1, c2, c3, c4, c5, c6, c7, c8, c9, c10, c11, c12⟩ := ((HCb.out.below HB_w5.out hlt1).thirteen)
                  cases r5
                  · skip
                    go_wp2_with fail
                    refine (keepsNum_all x _ HN.out.ltp HN.out.lpa).mono ?_
                    rintro e w6 ⟨rfl, hB'⟩
                    have HB_w6 := Lib.hid (HB_w5.out.trans (hB'.mono hz_w5))
                    clear hB'
                    clear q0 q1 q2 q3 q4 q5 c0 c1 c2 c3 c4 c5 c6 c7 c8 c9 c10 c11 c12
                    have hz_w6 : w.heap.size + 1 + 1 ≤ w6.heap.size := by have := HB_w6.out.size; omega
                    obtain ⟨q0, q1, q2, q3, q4, q5⟩ := ((HPb.out.below HB_w6.out hlt0).six)
                    obtain ⟨c0, c1, c2, c3, c4, c5, c6, c7, c8, c9, c10, c11, c12⟩ := ((HCb.out.below HB_w6.out hlt1).thirteen)
                    cases hkn : keepsNumF x
                    · go_wp2_with fail
                      go_ret
                      exact ⟨⟨_, rfl⟩, HBw.out _ HB_w6.out⟩
                    · go_wp2_with fail
                      refine (ownsLists_all L k x qt qp qf qm qy (some ⟨bc, oc, none⟩) ma fa ta ya cn mn fn tn yn cc mc fc tc yc mi _ hk hcn hmn hfn htn hyn (HA.out _ (HBw.out _ HB_w6.out)) ((HN.out.below (HBw.out _ HB_w6.out)).mono (by omega)) hex (HPR.out.below (HBw.out _ HB_w6.out))).mono ?_
                      rintro e w7 ⟨⟨r7, rfl⟩, hB'⟩
                      have HB_w7 := Lib.hid (HB_w6.out.trans (hB'.mono hz_w6))
                      clear hB'
                      clear q0 q1 q2 q3 q4 q5 c0 c1 c2 c3 c4 c5 c6 c7 c8 c9 c10 c11 c12
                      have hz_w7 : w.heap.size + 1 + 1 ≤ w7.heap.size := by have := HB_w7.out.size; omega
                      obtain ⟨q0, q1, q2, q3, q4, q5⟩ := ((HPb.out.below HB_w7.out hlt0).six)
                      obtain ⟨c0, c1, c2, c3, c4, c5, c6, c7, c8, c9, c10, c11, c12⟩ := ((HCb.out.below HB_w7.out hlt1).thirteen)
                      cases r7
                      · go_wp2_with fail
                        go_ret
                        exact ⟨⟨_, rfl⟩, HBw.out _ HB_w7.out⟩
                      · go_wp2_with fail
                        refine (keepsVal_all x _ HN.out.lfi HN.out.lpa).mono ?_
                        rintro e w8 ⟨rfl, hB'⟩
                        have HB_w8 := Lib.hid (HB_w7.out.trans (hB'.mono hz_w7))
                        clear hB'
                        clear q0 q1 q2 q3 q4 q5 c0 c1 c2 c3 c4 c5 c6 c7 c8 c9 c10 c11 c12
                        have hz_w8 : w.heap.size + 1 + 1 ≤ w8.heap.size := by have := HB_w8.out.size; omega
                        obtain ⟨q0, q1, q2, q3, q4, q5⟩ := ((HPb.out.below HB_w8.out hlt0).six)
                        obtain ⟨c0, c1, c2, c3, c4, c5, c6, c7, c8, c9, c10, c11, c12⟩ := ((HCb.out.below HB_w8.out hlt1).thirteen)
                        cases hkv : keepsValF x
                        · go_wp2_with fail
                          go_ret
                          exact ⟨⟨_, rfl⟩, HBw.out _ HB_w8.out⟩
                        · go_wp2_with fail
                          go_ret
                          exact ⟨⟨_, rfl⟩, HBw.out _ HB_w8.out⟩
                  · go_wp2_with fail
                    go_ret
                    exact ⟨⟨_, rfl⟩, HBw.out _ HB_w5.out⟩
end Go.Proofs.YtkjjieloncdjhaaGreatDoor
