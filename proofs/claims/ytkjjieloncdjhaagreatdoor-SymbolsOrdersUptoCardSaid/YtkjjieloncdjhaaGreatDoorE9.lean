/- Check: the parents of a class. -/
import Derived.Test.YtkjjieloncdjhaaGreatDoorE7
import Derived.Test.YtkjjieloncdjhaaGreatDoorE5
namespace Go.Proofs.YtkjjieloncdjhaaGreatDoor
open Go Go.RowKit

def ParOk (n : Nat) (ts : List Ty) : Prop := ∀ t ∈ ts, t.kd = 10 → inR n t.sy = true

set_option maxRecDepth 100000 in
set_option maxHeartbeats 8000000 in
theorem checkParents_all (A : Option Addr) (n c k : Nat) (xs : List ClC) (ps : List (List Ty)) (x : ClC) (ts : List Ty) (m1 m2 m3 m4 m5 : Value) (w : World) (hl : n = xs.length) (hn : n ≤ 1048576) (hk : k < n) (hx : xs[k]? = some x) (hts : ps[k]? = some ts) (hcap : x.pr.l ≤ x.pr.c)
    (htp : ∀ y ∈ xs, y.tp.l ≤ 1048576) (han : ∀ t ∈ ts, t.an ≤ 9223372036854775807) (hV : ClsV w w.heap.size A xs ps) :
    Calls Tryz.prog 90 #[prgM A n c m1 m2 m3 m4 m5, .int .i64 k] w fun e w' => (∃ z : Int, e = .returned (.int .i64 z) ∧ (z = 0 → ParOk n ts)) ∧ Below w.heap.size w w' := by
  obtain ⟨b, o, hb, hA⟩ := hV.at_ k x hx
  obtain ⟨hlen, hT⟩ := hV.pa k x ts hx hts
  obtain rfl := hA.ad
  have hP := Bl.new w 30 [.slice (some ⟨b, o, none⟩) n c, m1, m2, m3, m4, m5]
  have HP := Lib.hid hP
  have q0 := hP.cell 0
  simp only [List.getElem?_cons_zero] at q0
  have HB := Lib.hid ((Below.refl w.heap.size w).alloc (Nat.le_refl _) (.cells #[.slice (some ⟨b, o, none⟩) n c, m1, m2, m3, m4, m5] 30))
  have kc := (hA.below HB.out hb).k5
  have hTl := hT.1
  rw [hTl] at kc
  generalize hxa : x.pr.a = af at kc
  have HXA := Lib.hid hxa
  have HT := Lib.hid hT
  have HV := Lib.hid hV
  have HL := Lib.hid hl
  have HX := Lib.hid hx
  have HTS := Lib.hid hts
  have HCAP := Lib.hid hcap
  have HTP := Lib.hid htp
  have HAN := Lib.hid han
  clear hxa hA hP hTl hT hV hl hx hts hcap htp han
  by_cases h0 : ts.length = 0
  · rw [h0] at kc
    go_enter Tryz.func90, Tryz.ntmps90
    go_wp2_with fail
    go_ret
    exact ⟨⟨_, rfl, fun h => by cases h⟩, HB.out⟩
  · have h0i : ¬ (ts.length : Int) = 0 := by omega
    have h0b : ((ts.length : Int) == 0) = false := by simpa using h0i
    by_cases h12 : 12 < ts.length
    · have h12i : (12 : Int) < (ts.length : Int) := by omega
      clear h0
      go_enter Tryz.func90, Tryz.ntmps90
      go_wp2_with fail
      go_ret
      exact ⟨⟨_, rfl, fun h => by cases h⟩, HB.out⟩
    · have h12i : ¬ (12 : Int) < (ts.length : Int) := by omega
      clear h0 h12
      go_enter Tryz.func90, Tryz.ntmps90
      go_wp2_with fail
      go_loopw [29] (fun i wr => ∃ j : Nat, j ≤ ts.length ∧ i = .int .i64 j ∧ Hid (ParOk n (ts.take j)) ∧ Below w.heap.size w wr ∧ Bl wr w.heap.size 30 [.slice (some ⟨b, o, none⟩) n c, m1, m2, m3, m4, m5]) (fun i _ => ts.length - (intOf i).toNat)
      case atStart => exact ⟨0, by omega, rfl, Lib.hid (by intro t ht; cases ht), HB.out, HP.out⟩
      case round =>
        obtain ⟨j, hj, rfl, HOk, hB, hbl⟩ := hrel
        have HBr := Lib.hid hB
        have HPr := Lib.hid hbl
        have hsz := hB.size
        clear hB hbl HB HP q0 kc
        by_cases hlt : j < ts.length
        · obtain ⟨t, ht⟩ : ∃ t, ts[j]? = some t := ⟨_, List.getElem?_eq_getElem hlt⟩
          obtain ⟨g, o', eA, hTy⟩ := HT.out.2 (by omega)
          rw [HXA.out] at eA
          subst eA
          obtain ⟨u0, u1, u2, u3, u4⟩ := (hTy.below HBr.out (Nat.le_refl _)).2 j t ht
          have HTK := Lib.hid (show ts.take (j + 1) = ts.take j ++ [t] from by
            obtain ⟨h1, h2⟩ := List.getElem?_eq_some_iff.1 ht
            rw [List.take_succ_eq_append_getElem h1, h2])
          have HSt := Lib.hid (fun (h : t.kd = 10 → inR n t.sy = true) => (show ParOk n (ts.take (j + 1)) from by
            rw [HTK.out]
            intro y hy
            rcases List.mem_append.1 hy with h1 | h1
            · exact HOk.out y h1
            · have e : y = t := by simpa using h1
              subst e
              exact h))
          have HCall := Lib.hid (fun (W : World) (hW : Below w.heap.size w W) => checkParent_all (some ⟨b, o, none⟩) n c k j xs ps x ts t m1 m2 m3 m4 m5 W HL.out hn hk HX.out HTS.out ht HCAP.out HTP.out (HAN.out t (List.mem_of_getElem? ht)) ((HV.out.below hW).mono hW.size))
          clear hTy ht
          obtain ⟨tk, tsy, tnm, nu, aa, an, ac⟩ := t
          dsimp only at u0 u1 u2 u3 u4 HSt HCall
          have hTb := Bl.new wr 59 [.int .i64 tk, .int .i64 tsy, .string tnm, .int .i64 nu, .slice aa an ac]
          have v0 := hTb.cell 0
          simp only [List.getElem?_cons_zero] at v0
          have HB2 := Lib.hid (HBr.out.alloc hsz (.cells #[.int .i64 tk, .int .i64 tsy, .string tnm, .int .i64 nu, .slice aa an ac] 59))
          have HP2 := Lib.hid (HPr.out.alloc (.cells #[.int .i64 tk, .int .i64 tsy, .string tnm, .int .i64 nu, .slice aa an ac] 59))
          have p0 := HP2.out.cell 0
          have p1 := HP2.out.cell 1
          have p2 := HP2.out.cell 2
          have p3 := HP2.out.cell 3
          have p4 := HP2.out.cell 4
          have p5 := HP2.out.cell 5
          simp only [List.getElem?_cons_zero, List.getElem?_cons_succ] at p0 p1 p2 p3 p4 p5
          clear hTb
          by_cases hskip : j = 0 ∧ tk = 1
          · obtain ⟨rfl, rfl⟩ := hskip
            have HS2 := Lib.hid (HSt.out (fun h => by cases h))
            simp only [Nat.zero_mul, Nat.add_zero] at u0 u1 u2 u3 u4
            go_wp2_with fail
            go_roundw
            case rel => exact ⟨0 + 1, by omega, by go_num, HS2, HB2.out, HP2.out⟩
            case measure => simp [intOf]; omega
          · have hsk : j = 0 → (tk == 1) = false := fun e => by
              have : tk ≠ 1 := fun h => hskip ⟨e, h⟩
              simpa using this
            by_cases hj0 : j = 0
            · have hsk2 := hsk hj0
              subst hj0
              simp only [Nat.zero_mul, Nat.add_zero] at u0 u1 u2 u3 u4
              clear hsk hskip
              go_wp2_with fail
              refine (HCall.out _ HB2.out).mono ?_
              rintro e w2 ⟨⟨z, rfl, hz⟩, hB'⟩
              have HB3 := Lib.hid (HB2.out.trans (hB'.mono HB2.out.size))
              have HP3 := Lib.hid (HP2.out.below hB' HP2.out.lt)
              have HZ := Lib.hid hz
              clear hB' hz p0 p1 p2 p3 p4 p5
              by_cases hz0 : z = 0
              · have HS2 := Lib.hid (HSt.out (fun _ => (HZ.out hz0).2))
                subst hz0
                go_wp2_with fail
                go_roundw
                case rel => exact ⟨0 + 1, by omega, by go_num, HS2, HB3.out, HP3.out⟩
                case measure => simp [intOf]; omega
              · have hz1 : (z == 0) = false := by simpa using hz0
                have HZ0 := Lib.hid hz0
                clear hz0
                go_wp2_with fail
                go_ret
                exact ⟨⟨_, rfl, fun h => absurd h HZ0.out⟩, HB3.out⟩
            · have hj0i : ((j : Int) == 0) = false := by
                have : ¬ (j : Int) = 0 := by omega
                simpa using this
              clear hsk hskip
              go_wp2_with fail
              refine (HCall.out _ HB2.out).mono ?_
              rintro e w2 ⟨⟨z, rfl, hz⟩, hB'⟩
              have HB3 := Lib.hid (HB2.out.trans (hB'.mono HB2.out.size))
              have HP3 := Lib.hid (HP2.out.below hB' HP2.out.lt)
              have HZ := Lib.hid hz
              clear hB' hz p0 p1 p2 p3 p4 p5
              by_cases hz0 : z = 0
              · have HS2 := Lib.hid (HSt.out (fun _ => (HZ.out hz0).2))
                subst hz0
                go_wp2_with fail
                go_roundw
                case rel => exact ⟨j + 1, by omega, by go_num, HS2, HB3.out, HP3.out⟩
                case measure => simp [intOf]; omega
              · have hz1 : (z == 0) = false := by simpa using hz0
                have HZ0 := Lib.hid hz0
                clear hz0
                go_wp2_with fail
                go_ret
                exact ⟨⟨_, rfl, fun h => absurd h HZ0.out⟩, HB3.out⟩
        · have hjn : j = ts.length := by omega
          subst hjn
          have HS2 := Lib.hid (show ParOk n ts from by
            have := HOk.out
            rwa [List.take_length] at this)
          go_wp2_with fail
          go_ret
          exact ⟨⟨_, rfl, fun _ => HS2.out⟩, HBr.out⟩
end Go.Proofs.YtkjjieloncdjhaaGreatDoor
namespace Go.Proofs.YtkjjieloncdjhaaGreatDoor
open Go Go.RowKit

set_option maxRecDepth 100000 in
set_option maxHeartbeats 8000000 in
theorem checkTypeMember_all (L k : Nat) (ca ma fa ta ya : Option Addr) (cn mn fn tn yn cc mc fc tc yc : Nat) (mi : Int) (w : World) (_ : cn ≤ 1048576) (_ : mn ≤ 1048576) (_ : fn ≤ 1048576) (_ : tn ≤ 1048576) (_ : yn ≤ 1048576) (hk : k < yn) (hP : PrgR L w ca ma fa ta ya cn mn fn tn yn) :
    Calls Tryz.prog 95 #[.agg #[.slice ca cn cc, .slice ma mn mc, .slice fa fn fc, .slice ta tn tc, .slice ya yn yc, .int .i64 mi], .int .i64 k] w fun e w' => (∃ z : Int, e = .returned (.int .i64 z)) ∧ Below w.heap.size w w' := by
  obtain ⟨b2, o2, xn, xo, xa, xl, xh, hA, hnm, _⟩ := hP.tm.2 k hk
  obtain rfl := hA.ad
  have HPR := Lib.hid hP
  have hB0 := Bl.new w 30 [.slice ca cn cc, .slice ma mn mc, .slice fa fn fc, .slice ta tn tc, .slice (some ⟨b2, o2, none⟩) yn yc, .int .i64 mi]
  have hB2 := Bl.new (w.alloc (.cells #[.slice ca cn cc, .slice ma mn mc, .slice fa fn fc, .slice ta tn tc, .slice (some ⟨b2, o2, none⟩) yn yc, .int .i64 mi] 30)) 79 [.string xn, .int .i64 xo, .int .i64 xa, .int .i64 xl.k, .int .i64 xl.s, .string xl.n, .int .i64 xl.u, .slice xl.a xl.l xl.c, .int .i64 xh.k, .int .i64 xh.s, .string xh.n, .int .i64 xh.u, .slice xh.a xh.l xh.c]
  rw [World.size_alloc] at hB2
  have HPb := Lib.hid (hB0.alloc (.cells #[.string xn, .int .i64 xo, .int .i64 xa, .int .i64 xl.k, .int .i64 xl.s, .string xl.n, .int .i64 xl.u, .slice xl.a xl.l xl.c, .int .i64 xh.k, .int .i64 xh.s, .string xh.n, .int .i64 xh.u, .slice xh.a xh.l xh.c] 79))
  have HCb := Lib.hid hB2
  have HB1 := Lib.hid ((Below.refl w.heap.size w).alloc (Nat.le_refl _) (.cells #[.slice ca cn cc, .slice ma mn mc, .slice fa fn fc, .slice ta tn tc, .slice (some ⟨b2, o2, none⟩) yn yc, .int .i64 mi] 30))
  have HB2 := Lib.hid (HB1.out.alloc (by simp) (.cells #[.string xn, .int .i64 xo, .int .i64 xa, .int .i64 xl.k, .int .i64 xl.s, .string xl.n, .int .i64 xl.u, .slice xl.a xl.l xl.c, .int .i64 xh.k, .int .i64 xh.s, .string xh.n, .int .i64 xh.u, .slice xh.a xh.l xh.c] 79))
  have HBw : Hid (∀ W', Below (w.heap.size + 1 + 1) ((w.alloc (.cells #[.slice ca cn cc, .slice ma mn mc, .slice fa fn fc, .slice ta tn tc, .slice (some ⟨b2, o2, none⟩) yn yc, .int .i64 mi] 30)).alloc (.cells #[.string xn, .int .i64 xo, .int .i64 xa, .int .i64 xl.k, .int .i64 xl.s, .string xl.n, .int .i64 xl.u, .slice xl.a xl.l xl.c, .int .i64 xh.k, .int .i64 xh.s, .string xh.n, .int .i64 xh.u, .slice xh.a xh.l xh.c] 79)) W' → Below w.heap.size w W') := Lib.hid (fun W' hB => HB2.out.trans (hB.mono (by omega)))
  have HB_W := Lib.hid (Below.refl (w.heap.size + 1 + 1) ((w.alloc (.cells #[.slice ca cn cc, .slice ma mn mc, .slice fa fn fc, .slice ta tn tc, .slice (some ⟨b2, o2, none⟩) yn yc, .int .i64 mi] 30)).alloc (.cells #[.string xn, .int .i64 xo, .int .i64 xa, .int .i64 xl.k, .int .i64 xl.s, .string xl.n, .int .i64 xl.u, .slice xl.a xl.l xl.c, .int .i64 xh.k, .int .i64 xh.s, .string xh.n, .int .i64 xh.u, .slice xh.a xh.l xh.c] 79)))
  have hsW : ((w.alloc (.cells #[.slice ca cn cc, .slice ma mn mc, .slice fa fn fc, .slice ta tn tc, .slice (some ⟨b2, o2, none⟩) yn yc, .int .i64 mi] 30)).alloc (.cells #[.string xn, .int .i64 xo, .int .i64 xa, .int .i64 xl.k, .int .i64 xl.s, .string xl.n, .int .i64 xl.u, .slice xl.a xl.l xl.c, .int .i64 xh.k, .int .i64 xh.s, .string xh.n, .int .i64 xh.u, .slice xh.a xh.l xh.c] 79)).heap.size = w.heap.size + 1 + 1 := by simp
  have hlt0 : w.heap.size < w.heap.size + 1 + 1 := by omega
  have hlt1 : w.heap.size + 1 < w.heap.size + 1 + 1 := by omega
  have qq := hB0.cell 4
  simp only [List.getElem?_cons_zero, List.getElem?_cons_succ] at qq
  have d0 := HCb.out.cell 0
  simp only [List.getElem?_cons_zero] at d0
  have hAA := hA.og (og_of_below HB1.out)
  obtain ⟨-, -, -, k0, k1, k2, k3, k4, k5, k6, k7, k8, k9, k10, k11, k12⟩ := hAA
  clear hB2 hB0 hP hA HB2
  go_enter Tryz.func95, Tryz.ntmps95
  go_wp2_with fail
  clear k0 k1 k2 k3 k4 k5 k6 k7 k8 k9 k10 k11 k12 qq d0
  generalize hW : ((w.alloc (.cells #[.slice ca cn cc, .slice ma mn mc, .slice fa fn fc, .slice ta tn tc, .slice (some ⟨b2, o2, none⟩) yn yc, .int .i64 mi] 30)).alloc (.cells #[.string xn, .int .i64 xo, .int .i64 xa, .int .i64 xl.k, .int .i64 xl.s, .string xl.n, .int .i64 xl.u, .slice xl.a xl.l xl.c, .int .i64 xh.k, .int .i64 xh.s, .string xh.n, .int .i64 xh.u, .slice xh.a xh.l xh.c] 79)) = W at *
  clear hW
  have hz_W : w.heap.size + 1 + 1 ≤ W.heap.size := by have := HB_W.out.size; omega
  obtain ⟨q0, q1, q2, q3, q4, q5⟩ := ((HPb.out.below HB_W.out hlt0).six)
  have c0 := (HCb.out.below HB_W.out hlt1).cell 0
  have c1 := (HCb.out.below HB_W.out hlt1).cell 1
  have c2 := (HCb.out.below HB_W.out hlt1).cell 2
  have c3 := (HCb.out.below HB_W.out hlt1).cell 3
  have c4 := (HCb.out.below HB_W.out hlt1).cell 4
  have c5 := (HCb.out.below HB_W.out hlt1).cell 5
  have c6 := (HCb.out.below HB_W.out hlt1).cell 6
  have c7 := (HCb.out.below HB_W.out hlt1).cell 7
  have c8 := (HCb.out.below HB_W.out hlt1).cell 8
  have c9 := (HCb.out.below HB_W.out hlt1).cell 9
  have c10 := (HCb.out.below HB_W.out hlt1).cell 10
  have c11 := (HCb.out.below HB_W.out hlt1).cell 11
  have c12 := (HCb.out.below HB_W.out hlt1).cell 12
  simp only [List.getElem?_cons_zero, List.getElem?_cons_succ] at c0 c1 c2 c3 c4 c5 c6 c7 c8 c9 c10 c11 c12
  refine (name_some xn _ hnm).mono ?_
  rintro e w1 ⟨⟨r1, rfl⟩, hB'⟩
  have HB_w1 := Lib.hid (HB_W.out.trans (hB'.mono hz_W))
  clear hB'
  clear q0 q1 q2 q3 q4 q5 c0 c1 c2 c3 c4 c5 c6 c7 c8 c9 c10 c11 c12
  have hz_w1 : w.heap.size + 1 + 1 ≤ w1.heap.size := by have := HB_w1.out.size; omega
  obtain ⟨q0, q1, q2, q3, q4, q5⟩ := ((HPb.out.below HB_w1.out hlt0).six)
  have c0 := (HCb.out.below HB_w1.out hlt1).cell 0
  have c1 := (HCb.out.below HB_w1.out hlt1).cell 1
  have c2 := (HCb.out.below HB_w1.out hlt1).cell 2
  have c3 := (HCb.out.below HB_w1.out hlt1).cell 3
  have c4 := (HCb.out.below HB_w1.out hlt1).cell 4
  have c5 := (HCb.out.below HB_w1.out hlt1).cell 5
  have c6 := (HCb.out.below HB_w1.out hlt1).cell 6
  have c7 := (HCb.out.below HB_w1.out hlt1).cell 7
  have c8 := (HCb.out.below HB_w1.out hlt1).cell 8
  have c9 := (HCb.out.below HB_w1.out hlt1).cell 9
  have c10 := (HCb.out.below HB_w1.out hlt1).cell 10
  have c11 := (HCb.out.below HB_w1.out hlt1).cell 11
  have c12 := (HCb.out.below HB_w1.out hlt1).cell 12
  simp only [List.getElem?_cons_zero, List.getElem?_cons_succ] at c0 c1 c2 c3 c4 c5 c6 c7 c8 c9 c10 c11 c12
  cases r1
  · go_wp2_with fail
    go_ret
    exact ⟨⟨_, rfl⟩, HBw.out _ HB_w1.out⟩
  · go_wp2_with fail
    cases hin : inR cn xo
    · refine (exists_is _ cn _ _ false hin _).mono ?_
      rintro e w' ⟨rfl, rfl⟩
      go_wp2_with fail
      go_ret
      exact ⟨⟨_, rfl⟩, HBw.out _ HB_w1.out⟩
    · refine (exists_is _ cn _ _ true hin _).mono ?_
      rintro e w' ⟨rfl, rfl⟩
      go_wp2_with fail
      refine (isArity_all _ _).mono ?_
      rintro e w' ⟨rfl, rfl⟩
      cases har : decide (0 ≤ xa ∧ xa ≤ 12)
      · go_wp2_with fail
        go_ret
        exact ⟨⟨_, rfl⟩, HBw.out _ HB_w1.out⟩
      · have hin' := inR_iff.1 hin
        obtain ⟨m, rfl⟩ : ∃ m : Nat, xo = (m : Int) := ⟨xo.toNat, by omega⟩
        have hmI : (m : Int) < (cn : Int) := by omega
        obtain ⟨bc, oc, y, hAy, hOy⟩ := (HPR.out.below (HBw.out _ HB_w1.out)).cl.2 m (by omega)
        obtain ⟨q, hNq⟩ := NumL.of hOy.nty
        have kk := hAy.k9
        have eC := hAy.ad
        rw [eC] at q0
        have hyl := hOy.ty
        have HNq := Lib.hid hNq
        clear hAy hOy hNq eC
        go_wp2_with fail
        refine (contains_any _ _ _ q (k : Int) _ hyl HNq.out.nums).mono ?_
        rintro e w' ⟨rfl, rfl⟩
        generalize decide ((k : Int) ∈ q) = rb
        cases rb
        · go_wp2_with fail
          go_ret
          exact ⟨⟨_, rfl⟩, HBw.out _ HB_w1.out⟩
        · go_wp2_with fail
          go_ret
          exact ⟨⟨_, rfl⟩, HBw.out _ HB_w1.out⟩
end Go.Proofs.YtkjjieloncdjhaaGreatDoor
