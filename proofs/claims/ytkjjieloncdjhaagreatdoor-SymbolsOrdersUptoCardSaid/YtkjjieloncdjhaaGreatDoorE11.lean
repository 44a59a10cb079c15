/- Check: a type parameter. -/
import Derived.Test.YtkjjieloncdjhaaGreatDoorE10
namespace Go.Proofs.YtkjjieloncdjhaaGreatDoor
open Go Go.RowKit

set_option maxRecDepth 100000 in
set_option maxHeartbeats 8000000 in
theorem listWith_some (L : Nat) (ca ma fa ta ya : Option Addr) (cn mn fn tn yn cc mc fc tc yc : Nat) (mi : Int) (xn : ByteArray) (xc xm xv xa : Int) (xl xh : T5) (w : World) (_ : cn ≤ 1048576) (_ : mn ≤ 1048576)
    (hx : (xc = -1 ∧ inR mn xm = true) ∨ (xc ≠ -1 ∧ inR cn xc = true)) (hP : PrgR L w ca ma fa ta ya cn mn fn tn yn) :
    Calls Tryz.prog 150 #[.agg #[.slice ca cn cc, .slice ma mn mc, .slice fa fn fc, .slice ta tn tc, .slice ya yn yc, .int .i64 mi], .agg #[.string xn, .int .i64 xc, .int .i64 xm, .int .i64 xv, .int .i64 xa, .int .i64 xl.k, .int .i64 xl.s, .string xl.n, .int .i64 xl.u, .slice xl.a xl.l xl.c, .int .i64 xh.k, .int .i64 xh.s, .string xh.n, .int .i64 xh.u, .slice xh.a xh.l xh.c]] w fun e w' => (∃ (s : Sl) (q : List Int), e = .returned (.slice s.a s.l s.c) ∧ s.l ≤ 1048576 ∧ Hid (NumL w' w'.heap.size s q)) ∧ Below w.heap.size w w' := by
  have hB0 := Bl.new w 30 [.slice ca cn cc, .slice ma mn mc, .slice fa fn fc, .slice ta tn tc, .slice ya yn yc, .int .i64 mi]
  have HB1 := Lib.hid ((Below.refl w.heap.size w).alloc (Nat.le_refl _) (.cells #[.slice ca cn cc, .slice ma mn mc, .slice fa fn fc, .slice ta tn tc, .slice ya yn yc, .int .i64 mi] 30))
  have hB2 := Bl.new (w.alloc (.cells #[.slice ca cn cc, .slice ma mn mc, .slice fa fn fc, .slice ta tn tc, .slice ya yn yc, .int .i64 mi] 30)) 76 [.string xn, .int .i64 xc, .int .i64 xm, .int .i64 xv, .int .i64 xa, .int .i64 xl.k, .int .i64 xl.s, .string xl.n, .int .i64 xl.u, .slice xl.a xl.l xl.c, .int .i64 xh.k, .int .i64 xh.s, .string xh.n, .int .i64 xh.u, .slice xh.a xh.l xh.c]
  rw [World.size_alloc] at hB2
  have HB2 := Lib.hid (HB1.out.alloc (by simp) (.cells #[.string xn, .int .i64 xc, .int .i64 xm, .int .i64 xv, .int .i64 xa, .int .i64 xl.k, .int .i64 xl.s, .string xl.n, .int .i64 xl.u, .slice xl.a xl.l xl.c, .int .i64 xh.k, .int .i64 xh.s, .string xh.n, .int .i64 xh.u, .slice xh.a xh.l xh.c] 76))
  have hP' := hP.below HB2.out
  have q0 := (hB0.alloc (.cells #[.string xn, .int .i64 xc, .int .i64 xm, .int .i64 xv, .int .i64 xa, .int .i64 xl.k, .int .i64 xl.s, .string xl.n, .int .i64 xl.u, .slice xl.a xl.l xl.c, .int .i64 xh.k, .int .i64 xh.s, .string xh.n, .int .i64 xh.u, .slice xh.a xh.l xh.c] 76)).cell 0
  have q1 := (hB0.alloc (.cells #[.string xn, .int .i64 xc, .int .i64 xm, .int .i64 xv, .int .i64 xa, .int .i64 xl.k, .int .i64 xl.s, .string xl.n, .int .i64 xl.u, .slice xl.a xl.l xl.c, .int .i64 xh.k, .int .i64 xh.s, .string xh.n, .int .i64 xh.u, .slice xh.a xh.l xh.c] 76)).cell 1
  have d1 := hB2.cell 1
  have d2 := hB2.cell 2
  simp only [List.getElem?_cons_zero, List.getElem?_cons_succ] at q0 q1 d1 d2
  clear hB0 hB2 HB1
  rcases hx with ⟨e1, hin⟩ | ⟨hne, hin⟩
  · subst e1
    have hin' := inR_iff.1 hin
    obtain ⟨m, rfl⟩ : ∃ m : Nat, xm = (m : Int) := ⟨xm.toNat, by omega⟩
    have hmI : (m : Int) < (mn : Int) := by omega
    obtain ⟨b, o, y, hAy, hOy⟩ := hP'.me.2 m (by omega)
    obtain ⟨q, hNq⟩ := NumL.of hOy.ntp
    have kk := hAy.k3
    have eC := hAy.ad
    subst eC
    have HN := Lib.hid hNq
    have HL := Lib.hid hOy.tpl
    clear hAy hOy hNq hP' hP q0
    go_enter Tryz.func150, Tryz.ntmps150
    go_wp2_with fail
    go_ret
    exact ⟨⟨_, q, rfl, HL.out, HN⟩, HB2.out⟩
  · have hin' := inR_iff.1 hin
    obtain ⟨m, rfl⟩ : ∃ m : Nat, xc = (m : Int) := ⟨xc.toNat, by omega⟩
    have hmI : (m : Int) < (cn : Int) := by omega
    have hm1 : ((m : Int) == -1) = false := by simp
    obtain ⟨b, o, y, hAy, hOy⟩ := hP'.cl.2 m (by omega)
    obtain ⟨q, hNq⟩ := NumL.of hOy.ntp
    have kk := hAy.k4
    have eC := hAy.ad
    subst eC
    have HN := Lib.hid hNq
    have HL := Lib.hid hOy.tp
    clear hAy hOy hNq hP' hP q1
    go_enter Tryz.func150, Tryz.ntmps150
    go_wp2_with fail
    go_ret
    exact ⟨⟨_, q, rfl, HL.out, HN⟩, HB2.out⟩

set_option maxRecDepth 100000 in
set_option maxHeartbeats 8000000 in
theorem checkTypeParam_all (L k : Nat) (ca ma fa ta ya : Option Addr) (cn mn fn tn yn cc mc fc tc yc : Nat) (mi : Int) (w : World) (hcn : cn ≤ 1048576) (hmn : mn ≤ 1048576) (_ : fn ≤ 1048576) (_ : tn ≤ 1048576) (_ : yn ≤ 1048576) (hk : k < tn) (hP : PrgR L w ca ma fa ta ya cn mn fn tn yn) :
    Calls Tryz.prog 94 #[.agg #[.slice ca cn cc, .slice ma mn mc, .slice fa fn fc, .slice ta tn tc, .slice ya yn yc, .int .i64 mi], .int .i64 k] w fun e w' => (∃ z : Int, e = .returned (.int .i64 z)) ∧ Below w.heap.size w w' := by
  obtain ⟨b2, o2, ⟨xn, xc, xm, xv, xa, xl, xh⟩, hA, hOk⟩ := hP.tp.2 k hk
  have hnm := hOk.nm
  obtain rfl := hA.ad
  clear hOk
  dsimp only at hnm
  have HPR := Lib.hid hP
  have hB0 := Bl.new w 30 [.slice ca cn cc, .slice ma mn mc, .slice fa fn fc, .slice (some ⟨b2, o2, none⟩) tn tc, .slice ya yn yc, .int .i64 mi]
  have hB2 := Bl.new (w.alloc (.cells #[.slice ca cn cc, .slice ma mn mc, .slice fa fn fc, .slice (some ⟨b2, o2, none⟩) tn tc, .slice ya yn yc, .int .i64 mi] 30)) 76 [.string xn, .int .i64 xc, .int .i64 xm, .int .i64 xv, .int .i64 xa, .int .i64 xl.k, .int .i64 xl.s, .string xl.n, .int .i64 xl.u, .slice xl.a xl.l xl.c, .int .i64 xh.k, .int .i64 xh.s, .string xh.n, .int .i64 xh.u, .slice xh.a xh.l xh.c]
  rw [World.size_alloc] at hB2
  have HPb := Lib.hid (hB0.alloc (.cells #[.string xn, .int .i64 xc, .int .i64 xm, .int .i64 xv, .int .i64 xa, .int .i64 xl.k, .int .i64 xl.s, .string xl.n, .int .i64 xl.u, .slice xl.a xl.l xl.c, .int .i64 xh.k, .int .i64 xh.s, .string xh.n, .int .i64 xh.u, .slice xh.a xh.l xh.c] 76))
  have HCb := Lib.hid hB2
  have HB1 := Lib.hid ((Below.refl w.heap.size w).alloc (Nat.le_refl _) (.cells #[.slice ca cn cc, .slice ma mn mc, .slice fa fn fc, .slice (some ⟨b2, o2, none⟩) tn tc, .slice ya yn yc, .int .i64 mi] 30))
  have HB2 := Lib.hid (HB1.out.alloc (by simp) (.cells #[.string xn, .int .i64 xc, .int .i64 xm, .int .i64 xv, .int .i64 xa, .int .i64 xl.k, .int .i64 xl.s, .string xl.n, .int .i64 xl.u, .slice xl.a xl.l xl.c, .int .i64 xh.k, .int .i64 xh.s, .string xh.n, .int .i64 xh.u, .slice xh.a xh.l xh.c] 76))
  have HBw : Hid (∀ W', Below (w.heap.size + 1 + 1) ((w.alloc (.cells #[.slice ca cn cc, .slice ma mn mc, .slice fa fn fc, .slice (some ⟨b2, o2, none⟩) tn tc, .slice ya yn yc, .int .i64 mi] 30)).alloc (.cells #[.string xn, .int .i64 xc, .int .i64 xm, .int .i64 xv, .int .i64 xa, .int .i64 xl.k, .int .i64 xl.s, .string xl.n, .int .i64 xl.u, .slice xl.a xl.l xl.c, .int .i64 xh.k, .int .i64 xh.s, .string xh.n, .int .i64 xh.u, .slice xh.a xh.l xh.c] 76)) W' → Below w.heap.size w W') := Lib.hid (fun W' hB => HB2.out.trans (hB.mono (by omega)))
  have HB_W := Lib.hid (Below.refl (w.heap.size + 1 + 1) ((w.alloc (.cells #[.slice ca cn cc, .slice ma mn mc, .slice fa fn fc, .slice (some ⟨b2, o2, none⟩) tn tc, .slice ya yn yc, .int .i64 mi] 30)).alloc (.cells #[.string xn, .int .i64 xc, .int .i64 xm, .int .i64 xv, .int .i64 xa, .int .i64 xl.k, .int .i64 xl.s, .string xl.n, .int .i64 xl.u, .slice xl.a xl.l xl.c, .int .i64 xh.k, .int .i64 xh.s, .string xh.n, .int .i64 xh.u, .slice xh.a xh.l xh.c] 76)))
  have hsW : ((w.alloc (.cells #[.slice ca cn cc, .slice ma mn mc, .slice fa fn fc, .slice (some ⟨b2, o2, none⟩) tn tc, .slice ya yn yc, .int .i64 mi] 30)).alloc (.cells #[.string xn, .int .i64 xc, .int .i64 xm, .int .i64 xv, .int .i64 xa, .int .i64 xl.k, .int .i64 xl.s, .string xl.n, .int .i64 xl.u, .slice xl.a xl.l xl.c, .int .i64 xh.k, .int .i64 xh.s, .string xh.n, .int .i64 xh.u, .slice xh.a xh.l xh.c] 76)).heap.size = w.heap.size + 1 + 1 := by simp
  have hlt0 : w.heap.size < w.heap.size + 1 + 1 := by omega
  have hlt1 : w.heap.size + 1 < w.heap.size + 1 + 1 := by omega
  have qq := hB0.cell 3
  simp only [List.getElem?_cons_zero, List.getElem?_cons_succ] at qq
  have d0 := HCb.out.cell 0
  simp only [List.getElem?_cons_zero] at d0
  have hAA := hA.og (og_of_below HB1.out)
  obtain ⟨-, -, -, k0, k1, k2, k3, k4, k5, k6, k7, k8, k9, k10, k11, k12, k13, k14⟩ := hAA
  dsimp only at k0 k1 k2 k3 k4 k5 k6 k7 k8 k9 k10 k11 k12 k13 k14
  have d1 := HCb.out.cell 1
  simp only [List.getElem?_cons_zero, List.getElem?_cons_succ] at d1
  have q0 := HPb.out.cell 0
  simp only [List.getElem?_cons_zero] at q0
  clear hB2 hB0 hP hA HB2
  go_enter Tryz.func94, Tryz.ntmps94
  go_wp2_with fail
  clear k0 k1 k2 k3 k4 k5 k6 k7 k8 k9 k10 k11 k12 k13 k14 qq d0 d1 q0
  generalize hW : ((w.alloc (.cells #[.slice ca cn cc, .slice ma mn mc, .slice fa fn fc, .slice (some ⟨b2, o2, none⟩) tn tc, .slice ya yn yc, .int .i64 mi] 30)).alloc (.cells #[.string xn, .int .i64 xc, .int .i64 xm, .int .i64 xv, .int .i64 xa, .int .i64 xl.k, .int .i64 xl.s, .string xl.n, .int .i64 xl.u, .slice xl.a xl.l xl.c, .int .i64 xh.k, .int .i64 xh.s, .string xh.n, .int .i64 xh.u, .slice xh.a xh.l xh.c] 76)) = W at *
  clear hW
  have hz_W : w.heap.size + 1 + 1 ≤ W.heap.size := by have := HB_W.out.size; omega
  obtain ⟨q0, q1, q2, q3, q4, q5⟩ := ((HPb.out.below HB_W.out hlt0).six)
  have c0 := (HCb.out.below HB_W.out hlt1).cell 0
  have c1 := (HCb.out.below HB_W.out hlt1).cell 1
  have c2 := (HCb.out.below HB_W.out hlt1).cell 2
  have c3 := (HCb.out.below HB_W.out hlt1).cell 3
  have c4 := (HCb.out.below HB_W.out hlt1).cell 4
  have c5 := (HCb.out.below HB_W.out hlt1).cell 5
  have c6 := (HCb.out.below HB_W.out hlt1).cell 6
  have c7 := (HCb.out.below HB_W.out hlt1).cell 7
  have c8 := (HCb.out.below HB_W.out hlt1).cell 8
  have c9 := (HCb.out.below HB_W.out hlt1).cell 9
  have c10 := (HCb.out.below HB_W.out hlt1).cell 10
  have c11 := (HCb.out.below HB_W.out hlt1).cell 11
  have c12 := (HCb.out.below HB_W.out hlt1).cell 12
  have c13 := (HCb.out.below HB_W.out hlt1).cell 13
  have c14 := (HCb.out.below HB_W.out hlt1).cell 14
  simp only [List.getElem?_cons_zero, List.getElem?_cons_succ] at c0 c1 c2 c3 c4 c5 c6 c7 c8 c9 c10 c11 c12 c13 c14
  cases hc : inR cn xc <;> cases e2 : (xm == -1) <;> cases hm : inR mn xm <;> cases e1 : (xc == -1)
  all_goals
    first
    | (exfalso; have h1 := inR_iff.1 hc; have h2 := eq_of_beq e1; omega)
    | (exfalso; have h1 := inR_iff.1 hm; have h2 := eq_of_beq e2; omega)
    | skip
  all_goals
    refine (exists_is _ cn _ _ _ hc _).mono ?_
    rintro e w' ⟨rfl, rfl⟩
    go_wp2_with fail
    refine (exists_45 _ mn _ _ _ hm _).mono ?_
    rintro e w' ⟨rfl, rfl⟩
    go_wp2_with fail
    refine (name_some xn _ hnm).mono ?_
    rintro e w1 ⟨⟨r1, rfl⟩, hB'⟩
    have HB_w1 := Lib.hid (HB_W.out.trans (hB'.mono hz_W))
    clear hB'
    clear q0 q1 q2 q3 q4 q5 c0 c1 c2 c3 c4 c5 c6 c7 c8 c9 c10 c11 c12 c13 c14
    have hz_w1 : w.heap.size + 1 + 1 ≤ w1.heap.size := by have := HB_w1.out.size; omega
    obtain ⟨q0, q1, q2, q3, q4, q5⟩ := ((HPb.out.below HB_w1.out hlt0).six)
    have c0 := (HCb.out.below HB_w1.out hlt1).cell 0
    have c1 := (HCb.out.below HB_w1.out hlt1).cell 1
    have c2 := (HCb.out.below HB_w1.out hlt1).cell 2
    have c3 := (HCb.out.below HB_w1.out hlt1).cell 3
    have c4 := (HCb.out.below HB_w1.out hlt1).cell 4
    have c5 := (HCb.out.below HB_w1.out hlt1).cell 5
    have c6 := (HCb.out.below HB_w1.out hlt1).cell 6
    have c7 := (HCb.out.below HB_w1.out hlt1).cell 7
    have c8 := (HCb.out.below HB_w1.out hlt1).cell 8
    have c9 := (HCb.out.below HB_w1.out hlt1).cell 9
    have c10 := (HCb.out.below HB_w1.out hlt1).cell 10
    have c11 := (HCb.out.below HB_w1.out hlt1).cell 11
    have c12 := (HCb.out.below HB_w1.out hlt1).cell 12
    have c13 := (HCb.out.below HB_w1.out hlt1).cell 13
    have c14 := (HCb.out.below HB_w1.out hlt1).cell 14
    simp only [List.getElem?_cons_zero, List.getElem?_cons_succ] at c0 c1 c2 c3 c4 c5 c6 c7 c8 c9 c10 c11 c12 c13 c14
    cases r1
    · go_wp2_with fail
      go_ret
      exact ⟨⟨_, rfl⟩, HBw.out _ HB_w1.out⟩
    · by_cases hv1 : xv < -1
      · go_wp2_with fail
        go_ret
        exact ⟨⟨_, rfl⟩, HBw.out _ HB_w1.out⟩
      · by_cases hv2 : 1 < xv
        · go_wp2_with fail
          go_ret
          exact ⟨⟨_, rfl⟩, HBw.out _ HB_w1.out⟩
        · go_wp2_with fail
          refine (isArity_all _ _).mono ?_
          rintro e w' ⟨rfl, rfl⟩
          cases har : decide (0 ≤ xa ∧ xa ≤ 12)
          · go_wp2_with fail
            go_ret
            exact ⟨⟨_, rfl⟩, HBw.out _ HB_w1.out⟩
          · go_wp2_with fail
            first
            | (go_ret; exact ⟨⟨_, rfl⟩, HBw.out _ HB_w1.out⟩)
            | skip
            all_goals
              refine (listWith_some L _ _ _ _ _ cn mn fn tn yn _ _ _ _ _ _ _ xc xm _ _ _ _ _ hcn hmn (by first | exact .inl ⟨by simpa using e1, hm⟩ | exact .inr ⟨by simpa using e1, hc⟩) (HPR.out.below (HBw.out _ HB_w1.out))).mono ?_
              rintro e w2 ⟨⟨s, q, rfl, hsl, HN⟩, hB'⟩
              have HB_w2 := Lib.hid (HB_w1.out.trans (hB'.mono hz_w1))
              clear hB'
              clear q0 q1 q2 q3 q4 q5 c0 c1 c2 c3 c4 c5 c6 c7 c8 c9 c10 c11 c12 c13 c14
              have hz_w2 : w.heap.size + 1 + 1 ≤ w2.heap.size := by have := HB_w2.out.size; omega
              obtain ⟨q0, q1, q2, q3, q4, q5⟩ := ((HPb.out.below HB_w2.out hlt0).six)
              have c0 := (HCb.out.below HB_w2.out hlt1).cell 0
              have c1 := (HCb.out.below HB_w2.out hlt1).cell 1
              have c2 := (HCb.out.below HB_w2.out hlt1).cell 2
              have c3 := (HCb.out.below HB_w2.out hlt1).cell 3
              have c4 := (HCb.out.below HB_w2.out hlt1).cell 4
              have c5 := (HCb.out.below HB_w2.out hlt1).cell 5
              have c6 := (HCb.out.below HB_w2.out hlt1).cell 6
              have c7 := (HCb.out.below HB_w2.out hlt1).cell 7
              have c8 := (HCb.out.below HB_w2.out hlt1).cell 8
              have c9 := (HCb.out.below HB_w2.out hlt1).cell 9
              have c10 := (HCb.out.below HB_w2.out hlt1).cell 10
              have c11 := (HCb.out.below HB_w2.out hlt1).cell 11
              have c12 := (HCb.out.below HB_w2.out hlt1).cell 12
              have c13 := (HCb.out.below HB_w2.out hlt1).cell 13
              have c14 := (HCb.out.below HB_w2.out hlt1).cell 14
              simp only [List.getElem?_cons_zero, List.getElem?_cons_succ] at c0 c1 c2 c3 c4 c5 c6 c7 c8 c9 c10 c11 c12 c13 c14
              go_wp2_with fail
              refine (contains_any s.a s.l s.c q (k : Int) _ hsl HN.out.nums).mono ?_
              rintro e w' ⟨rfl, rfl⟩
              generalize decide ((k : Int) ∈ q) = rb
              cases rb
              · go_wp2_with fail
                go_ret
                exact ⟨⟨_, rfl⟩, HBw.out _ HB_w2.out⟩
              · cases hv0 : (xv == 0)
                · go_wp2_with fail
                  go_ret
                  exact ⟨⟨_, rfl⟩, HBw.out _ HB_w2.out⟩
                · go_wp2_with fail
                  go_ret
                  exact ⟨⟨_, rfl⟩, HBw.out _ HB_w2.out⟩
end Go.Proofs.YtkjjieloncdjhaaGreatDoor
