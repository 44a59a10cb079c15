/- Check: the main method; what a row of classes says of them all. -/
import Derived.Test.YtkjjieloncdjhaaGreatDoorE15
namespace Go.Proofs.YtkjjieloncdjhaaGreatDoor
open Go Go.RowKit

theorem ClAt.inj {w : World} {L L' : Nat} {a : Option Addr} {i b o b' o' : Nat} {x x' : ClC} (h : ClAt w L a i b o x) (h' : ClAt w L' a i b' o' x') : x = x' := by
  have e := h.ad.symm.trans h'.ad
  injection e with e
  injection e with e1 e2
  subst e1 e2
  have e0 := h.k0.symm.trans h'.k0
  have e1 := h.k1.symm.trans h'.k1
  have e2 := h.k2.symm.trans h'.k2
  have e3 := h.k3.symm.trans h'.k3
  have e4 := h.k4.symm.trans h'.k4
  have e5 := h.k5.symm.trans h'.k5
  have e6 := h.k6.symm.trans h'.k6
  have e7 := h.k7.symm.trans h'.k7
  have e8 := h.k8.symm.trans h'.k8
  have e9 := h.k9.symm.trans h'.k9
  have e10 := h.k10.symm.trans h'.k10
  have e11 := h.k11.symm.trans h'.k11
  have e12 := h.k12.symm.trans h'.k12
  clear h h'
  obtain ⟨nm, kd, fl, ow, ⟨ta, tl, tc⟩, ⟨pa, pl, pc⟩, ⟨qa, ql, qc⟩, ⟨fa, fll, fc⟩, ⟨ma, ml, mc⟩, ⟨ya, yl, yc⟩, ⟨sa, sl, sc⟩, ⟨ia, il, ic⟩, at'⟩ := x
  obtain ⟨nm', kd', fl', ow', ⟨ta', tl', tc'⟩, ⟨pa', pl', pc'⟩, ⟨qa', ql', qc'⟩, ⟨fa', fll', fc'⟩, ⟨ma', ml', mc'⟩, ⟨ya', yl', yc'⟩, ⟨sa', sl', sc'⟩, ⟨ia', il', ic'⟩, at''⟩ := x'
  simp only [Option.some.injEq, Value.string.injEq, Value.int.injEq, Value.slice.injEq, true_and] at e0 e1 e2 e3 e4 e5 e6 e7 e8 e9 e10 e11 e12
  obtain ⟨a1, a2, a3⟩ := e4
  obtain ⟨b1, b2, b3⟩ := e5
  obtain ⟨c1, c2, c3⟩ := e6
  obtain ⟨d1, d2, d3⟩ := e7
  obtain ⟨f1, f2, f3⟩ := e8
  obtain ⟨g1, g2, g3⟩ := e9
  obtain ⟨h1, h2, h3⟩ := e10
  obtain ⟨j1, j2, j3⟩ := e11
  subst e0 e1 e2 e3 a1 a2 a3 b1 b2 b3 c1 c2 c3 d1 d2 d3 f1 f2 f3 g1 g2 g3 h1 h2 h3 j1 j2 j3 e12
  rfl

theorem ClsV.ok {w : World} {B : Nat} {A : Option Addr} {n : Nat} {xs : List ClC} {ps : List (List Ty)} (hV : ClsV w B A xs ps) (h : ClRow w.heap.size w A n) (hl : n = xs.length) : ∀ x ∈ xs, ClOk w.heap.size w x := fun x hx => by
  obtain ⟨i, hi⟩ := List.getElem?_of_mem hx
  obtain ⟨b, o, _, hA⟩ := hV.at_ i x hi
  have hi' : i < n := by rw [hl]; exact (List.getElem?_eq_some_iff.1 hi).1
  obtain ⟨b', o', x', hA', hO⟩ := h.2 i hi'
  rw [hA.inj hA']
  exact hO

theorem ClsV.an {w : World} {A : Option Addr} {xs : List ClC} {ps : List (List Ty)} (hV : ClsV w w.heap.size A xs ps) (hO : ∀ x ∈ xs, ClOk w.heap.size w x) : ∀ ts ∈ ps, ∀ t ∈ ts, t.an ≤ 9223372036854775807 := fun ts hts t ht => by
  obtain ⟨i, hi⟩ := List.getElem?_of_mem hts
  have hil : i < xs.length := by rw [← hV.len]; exact (List.getElem?_eq_some_iff.1 hi).1
  obtain ⟨h1, h2⟩ := hV.pa i _ ts (List.getElem?_eq_getElem hil) hi
  obtain ⟨k, hk⟩ := List.getElem?_of_mem ht
  have hkl := (List.getElem?_eq_some_iff.1 hk).1
  obtain ⟨g, o, e, hT⟩ := h2.2 (by omega)
  obtain ⟨_, _, _, _, c4⟩ := hT.2 k t hk
  have hpr := (hO _ (List.getElem_mem hil)).pr
  obtain ⟨b, o', kd, sy, nu, nm, a', n', c', hA, _, hR⟩ := hpr.2 k (by rw [h2.1]; exact hkl)
  have e2 := e.symm.trans hA.ad
  injection e2 with e2
  injection e2 with e3 e4
  subst e3 e4
  have := c4.symm.trans hA.k4
  simp only [Option.some.injEq, Value.slice.injEq] at this
  rw [this.2.1]
  exact hR.1

/-- The owner of method k is no class, or a class. -/
def OwOk (w : World) (ma : Option Addr) (cn k : Nat) : Prop := ∃ (b o : Nat) (z : Int), ma = some ⟨b, o, none⟩ ∧ b < w.heap.size ∧ w.cell? ⟨b, o + k * 13 + 1, none⟩ = some (.int .i64 z) ∧ (z = -1 ∨ inR cn z = true)
theorem OwOk.below {w w' : World} {ma : Option Addr} {cn k : Nat} (h : OwOk w ma cn k) (hB : Below w.heap.size w w') : OwOk w' ma cn k := by
  obtain ⟨b, o, z, h1, h2, h3, h4⟩ := h
  exact ⟨b, o, z, h1, Nat.lt_of_lt_of_le h2 hB.size, (hB.cell (p := ⟨b, _, none⟩) h2).trans h3, h4⟩
theorem OwOk.at_ {w : World} {L : Nat} {ma : Option Addr} {cn k b o : Nat} {x : MeC} (h : OwOk w ma cn k) (hA : MeAt w L ma k b o x) : x.ow = -1 ∨ inR cn x.ow = true := by
  obtain ⟨b', o', z, h1, h2, h3, h4⟩ := h
  have e2 := h1.symm.trans hA.ad
  injection e2 with e2
  injection e2 with e3 e4
  subst e3 e4
  have := h3.symm.trans hA.k1
  simp only [Option.some.injEq, Value.int.injEq, true_and] at this
  rw [← this]
  exact h4
theorem OwOk.of {w : World} {L : Nat} {ma : Option Addr} {cn k b o : Nat} {x : MeC} (hA : MeAt w L ma k b o x) (h : x.ow = -1 ∨ inR cn x.ow = true) : OwOk w ma cn k := ⟨b, o, x.ow, hA.ad, hA.lt, hA.k1, h⟩

set_option maxRecDepth 100000 in
set_option maxHeartbeats 8000000 in
theorem checkMain_all (L : Nat) (ca ma fa ta ya : Option Addr) (cn mn fn tn yn cc mc fc tc yc : Nat) (mi : Int) (w : World) (_ : cn ≤ 1048576) (_ : mn ≤ 1048576) (hO : ∀ k, k < mn → OwOk w ma cn k) (hP : PrgR L w ca ma fa ta ya cn mn fn tn yn) :
    Calls Tryz.prog 64 #[.agg #[.slice ca cn cc, .slice ma mn mc, .slice fa fn fc, .slice ta tn tc, .slice ya yn yc, .int .i64 mi]] w fun e w' => (∃ z : Int, e = .returned (.int .i64 z)) ∧ Below w.heap.size w w' := by
  have HB1 := Lib.hid ((Below.refl w.heap.size w).alloc (Nat.le_refl _) (.cells #[.slice ca cn cc, .slice ma mn mc, .slice fa fn fc, .slice ta tn tc, .slice ya yn yc, .int .i64 mi] 30))
  have hB0 := Bl.new w 30 [.slice ca cn cc, .slice ma mn mc, .slice fa fn fc, .slice ta tn tc, .slice ya yn yc, .int .i64 mi]
  have HBl := Lib.hid hB0
  by_cases hm1 : mi = -1
  · subst hm1
    clear hB0 hO hP
    go_enter Tryz.func64, Tryz.ntmps64
    go_wp2_with fail
    go_ret
    exact ⟨⟨_, rfl⟩, HB1.out⟩
  · have hm2 : (mi == -1) = false := by simpa using hm1
    cases hin : inR mn mi with
    | false =>
      obtain ⟨q0, q1, q2, q3, q4, q5⟩ := hB0.six
      clear hB0 hO hP hm1
      go_enter Tryz.func64, Tryz.ntmps64
      go_wp2_with fail
      refine (exists_45 _ mn _ _ _ hin _).mono ?_
      rintro e w' ⟨rfl, rfl⟩
      go_wp2_with fail
      go_ret
      exact ⟨⟨_, rfl⟩, HB1.out⟩
    | true =>
      have hin' := inR_iff.1 hin
      obtain ⟨m, rfl⟩ : ∃ m : Nat, mi = (m : Int) := ⟨mi.toNat, by omega⟩
      have hmI : (m : Int) < (mn : Int) := by omega
      obtain ⟨b2, o2, x, hA, hOk⟩ := hP.me.2 m (by omega)
      have how := (hO m (by omega)).at_ hA
      obtain rfl := hA.ad
      obtain ⟨xn, xo, xf, xt, xp, xl, xr, xb, xat⟩ := x
      dsimp only at how
      obtain ⟨q0, q1, q2, q3, q4, q5⟩ := hB0.six
      have hAA := hA.og (og_of_below HB1.out)
      obtain ⟨-, -, -, k0, k1, k2, k3, k4, k5, k6, k7, k8, k9, k10, k11, k12⟩ := hAA
      dsimp only at k0 k1 k2 k3 k4 k5 k6 k7 k8 k9 k10 k11 k12
      have HB2 := Lib.hid (HB1.out.alloc (by simp) (.cells #[.string xn, .int .i64 xo, .int .i64 xf, .slice xt.a xt.l xt.c, .int .i64 xp, .slice xl.a xl.l xl.c, .int .i64 xr.k, .int .i64 xr.s, .string xr.n, .int .i64 xr.u, .slice xr.a xr.l xr.c, .pointer xb, .int .i64 xat] 64))
      have hN := Bl.new (w.alloc (.cells #[.slice ca cn cc, .slice (some ⟨b2, o2, none⟩) mn mc, .slice fa fn fc, .slice ta tn tc, .slice ya yn yc, .int .i64 (m : Int)] 30)) 64 [.string xn, .int .i64 xo, .int .i64 xf, .slice xt.a xt.l xt.c, .int .i64 xp, .slice xl.a xl.l xl.c, .int .i64 xr.k, .int .i64 xr.s, .string xr.n, .int .i64 xr.u, .slice xr.a xr.l xr.c, .pointer xb, .int .i64 xat]
      rw [World.size_alloc] at hN
      have d1 := hN.cell 1
      have d2 := hN.cell 2
      have d3 := hN.cell 3
      have d4 := hN.cell 4
      simp only [List.getElem?_cons_zero, List.getElem?_cons_succ] at d1 d2 d3 d4
      have p0 := (HBl.out.alloc (.cells #[.string xn, .int .i64 xo, .int .i64 xf, .slice xt.a xt.l xt.c, .int .i64 xp, .slice xl.a xl.l xl.c, .int .i64 xr.k, .int .i64 xr.s, .string xr.n, .int .i64 xr.u, .slice xr.a xr.l xr.c, .pointer xb, .int .i64 xat] 64)).cell 0
      simp only [List.getElem?_cons_zero] at p0
      have hxt := hOk.tp
      dsimp only at hxt
      clear hB0 hA hN hO hm1 hOk
      rcases how with rfl | hino
      · clear hP
        go_enter Tryz.func64, Tryz.ntmps64
        go_wp2_with fail
        refine (exists_45 _ mn _ _ _ hin _).mono ?_
        rintro e w' ⟨rfl, rfl⟩
        go_upto_region 6 with fail
        clear k0 k1 k2 k3 k4 k5 k6 k7 k8 k9 k10 k11 k12 q0 q1 q2 q3 q4 q5
        generalize hW : ((w.alloc (.cells #[.slice ca cn cc, .slice (some ⟨b2, o2, none⟩) mn mc, .slice fa fn fc, .slice ta tn tc, .slice ya yn yc, .int .i64 (m : Int)] 30)).alloc (.cells #[.string xn, .int .i64 (-1), .int .i64 xf, .slice xt.a xt.l xt.c, .int .i64 xp, .slice xl.a xl.l xl.c, .int .i64 xr.k, .int .i64 xr.s, .string xr.n, .int .i64 xr.u, .slice xr.a xr.l xr.c, .pointer xb, .int .i64 xat] 64)) = W at *
        clear hW
        go_wp2_with (first | (go_at_call 101; refine (has_any _ _ _).mono ?_; rintro e w' ⟨rfl, rfl⟩) | fail)
        all_goals
          go_ret
          exact ⟨⟨_, rfl⟩, HB2.out⟩
      · have hino' := inR_iff.1 hino
        obtain ⟨j, rfl⟩ : ∃ j : Nat, xo = (j : Int) := ⟨xo.toNat, by omega⟩
        have hjI : (j : Int) < (cn : Int) := by omega
        have hj1 : ((j : Int) == -1) = false := by simp
        obtain ⟨bc, oc, y, hAy, _⟩ := (hP.below HB2.out).cl.2 j (by omega)
        obtain rfl := hAy.ad
        obtain ⟨-, -, -, y0, y1, y2, y3, y4, y5, y6, y7, y8, y9, y10, y11, y12⟩ := hAy
        clear hP
        go_enter Tryz.func64, Tryz.ntmps64
        go_wp2_with fail
        refine (exists_45 _ mn _ _ _ hin _).mono ?_
        rintro e w' ⟨rfl, rfl⟩
        go_upto_region 6 with fail
        clear k0 k1 k2 k3 k4 k5 k6 k7 k8 k9 k10 k11 k12 q0 q1 q2 q3 q4 q5
        generalize hW : ((w.alloc (.cells #[.slice (some ⟨bc, oc, none⟩) cn cc, .slice (some ⟨b2, o2, none⟩) mn mc, .slice fa fn fc, .slice ta tn tc, .slice ya yn yc, .int .i64 (m : Int)] 30)).alloc (.cells #[.string xn, .int .i64 (j : Int), .int .i64 xf, .slice xt.a xt.l xt.c, .int .i64 xp, .slice xl.a xl.l xl.c, .int .i64 xr.k, .int .i64 xr.s, .string xr.n, .int .i64 xr.u, .slice xr.a xr.l xr.c, .pointer xb, .int .i64 xat] 64)) = W at *
        clear hW
        go_wp2_with (first | (go_at_call 101; refine (has_any _ _ _).mono ?_; rintro e w' ⟨rfl, rfl⟩) | fail)
        all_goals
          first
          | (go_ret
             exact ⟨⟨_, rfl⟩, HB2.out⟩)
          | (refine (outer_all y _).mono ?_
             rintro e w1 ⟨rfl, hB'⟩
             have HB3 := Lib.hid (HB2.out.trans (hB'.mono HB2.out.size))
             clear hB'
             go_wp2_with fail
             all_goals
               go_ret
               exact ⟨⟨_, rfl⟩, HB3.out⟩)
end Go.Proofs.YtkjjieloncdjhaaGreatDoor
