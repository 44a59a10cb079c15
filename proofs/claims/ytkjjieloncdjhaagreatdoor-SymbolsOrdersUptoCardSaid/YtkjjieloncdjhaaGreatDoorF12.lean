/- Few: it returns, whatever the program. -/
import Derived.Test.YtkjjieloncdjhaaGreatDoorF11
namespace Go.Proofs.YtkjjieloncdjhaaGreatDoor
open Go Go.RowKit

abbrev prgC (ca ma fa ta ya : Option Addr) (cn mn fn tn yn cc mc fc tc yc : Nat) (mi : Int) : List Value := [.slice ca cn cc, .slice ma mn mc, .slice fa fn fc, .slice ta tn tc, .slice ya yn yc, .int .i64 mi]

set_option maxRecDepth 100000 in
set_option maxHeartbeats 16000000 in
theorem few_any (ca ma fa ta ya : Option Addr) (cn mn fn tn yn cc mc fc tc yc : Nat) (mi : Int) (w : World) (hc : ClRow (w.heap.size + 1) w ca cn) (hm : MeRow (w.heap.size + 1) w ma mn) (hf : FiRow (w.heap.size + 1) w fa fn) (ht : TpRow (w.heap.size + 1) w ta tn) (hy : TmRow (w.heap.size + 1) w ya yn) :
    Calls Tryz.prog 13 #[.agg #[.slice ca cn cc, .slice ma mn mc, .slice fa fn fc, .slice ta tn tc, .slice ya yn yc, .int .i64 mi]] w fun e W' => BoolEnd e ∧ Below w.heap.size w W' := by
  have n1 := hc.1
  have n2 := hm.1
  have n3 := hf.1
  have n4 := ht.1
  have n5 := hy.1
  have e2 : ((w.alloc (.cells (prgC ca ma fa ta ya cn mn fn tn yn cc mc fc tc yc mi).toArray 30)).alloc (.cells #[.int .i64 3000] 3)).heap.size = w.heap.size + 1 + 1 := by simp
  have eP : Below w.heap.size w (w.alloc (.cells (prgC ca ma fa ta ya cn mn fn tn yn cc mc fc tc yc mi).toArray 30)) := (Below.refl _ _).alloc (Nat.le_refl _) _
  have oW : Og (w.heap.size + 1) w ((w.alloc (.cells (prgC ca ma fa ta ya cn mn fn tn yn cc mc fc tc yc mi).toArray 30)).alloc (.cells #[.int .i64 3000] 3)) := ((Og.refl _ w).alloc _).alloc _
  have HC := Lib.hid (hc.og oW)
  have HM := Lib.hid (hm.og oW)
  have HF := Lib.hid (hf.og oW)
  have HT := Lib.hid (ht.og oW)
  have HY := Lib.hid (hy.og oW)
  have HBel := Lib.hid (fun wr (h : Og (w.heap.size + 1) ((w.alloc (.cells (prgC ca ma fa ta ya cn mn fn tn yn cc mc fc tc yc mi).toArray 30)).alloc (.cells #[.int .i64 3000] 3)) wr) => (show Below w.heap.size w wr from ((eP.alloc (by simp) _).trans (h.below (by omega) (by omega)))))
  have HP := Lib.hid (fun wr (h : Og (w.heap.size + 1) ((w.alloc (.cells (prgC ca ma fa ta ya cn mn fn tn yn cc mc fc tc yc mi).toArray 30)).alloc (.cells #[.int .i64 3000] 3)) wr) => (show Bl wr w.heap.size 30 (prgC ca ma fa ta ya cn mn fn tn yn cc mc fc tc yc mi) from ((Bl.new w 30 (prgC ca ma fa ta ya cn mn fn tn yn cc mc fc tc yc mi)).alloc _).grown h (by intro e; injection e with e; omega)))
  have HP0 := Lib.hid eP
  have HL0 : Hid (LB (w.heap.size + 1) ((w.alloc (.cells (prgC ca ma fa ta ya cn mn fn tn yn cc mc fc tc yc mi).toArray 30)).alloc (.cells #[.int .i64 3000] 3))) := Lib.hid ⟨3000, by simpa using Bl.new (w.alloc (.cells (prgC ca ma fa ta ya cn mn fn tn yn cc mc fc tc yc mi).toArray 30)) 3 [.int .i64 3000]⟩
  have HO0 := Lib.hid (Og.refl (w.heap.size + 1) ((w.alloc (.cells (prgC ca ma fa ta ya cn mn fn tn yn cc mc fc tc yc mi).toArray 30)).alloc (.cells #[.int .i64 3000] 3)))
  generalize hW2 : (w.alloc (.cells (prgC ca ma fa ta ya cn mn fn tn yn cc mc fc tc yc mi).toArray 30)).alloc (.cells #[.int .i64 3000] 3) = W2 at HC HM HF HT HY HBel HP HL0 HO0
  have HW := Lib.hid hW2
  clear hc hm hf ht hy e2 eP oW hW2
  by_cases z0 : 25 < cn
  · have q0 : (25 : Int) < (cn : Int) := by omega
    go_enter Tryz.func13, Tryz.ntmps13
    go_wp2_with fail
    go_ret
    exact ⟨⟨_, rfl⟩, HP0.out⟩
  · skip
    by_cases z1 : 60 < mn
    · have q0 : ¬ (25 : Int) < (cn : Int) := by omega
      have q1 : (60 : Int) < (mn : Int) := by omega
      go_enter Tryz.func13, Tryz.ntmps13
      go_wp2_with fail
      go_ret
      exact ⟨⟨_, rfl⟩, HP0.out⟩
    · skip
      by_cases z2 : 60 < fn
      · have q0 : ¬ (25 : Int) < (cn : Int) := by omega
        have q1 : ¬ (60 : Int) < (mn : Int) := by omega
        have q2 : (60 : Int) < (fn : Int) := by omega
        go_enter Tryz.func13, Tryz.ntmps13
        go_wp2_with fail
        go_ret
        exact ⟨⟨_, rfl⟩, HP0.out⟩
      · skip
        by_cases z3 : 60 < tn
        · have q0 : ¬ (25 : Int) < (cn : Int) := by omega
          have q1 : ¬ (60 : Int) < (mn : Int) := by omega
          have q2 : ¬ (60 : Int) < (fn : Int) := by omega
          have q3 : (60 : Int) < (tn : Int) := by omega
          go_enter Tryz.func13, Tryz.ntmps13
          go_wp2_with fail
          go_ret
          exact ⟨⟨_, rfl⟩, HP0.out⟩
        · skip
          by_cases z4 : 60 < yn
          · have q0 : ¬ (25 : Int) < (cn : Int) := by omega
            have q1 : ¬ (60 : Int) < (mn : Int) := by omega
            have q2 : ¬ (60 : Int) < (fn : Int) := by omega
            have q3 : ¬ (60 : Int) < (tn : Int) := by omega
            have q4 : (60 : Int) < (yn : Int) := by omega
            go_enter Tryz.func13, Tryz.ntmps13
            go_wp2_with fail
            go_ret
            exact ⟨⟨_, rfl⟩, HP0.out⟩
          · skip
            have q0 : ¬ (25 : Int) < (cn : Int) := by omega
            have q1 : ¬ (60 : Int) < (mn : Int) := by omega
            have q2 : ¬ (60 : Int) < (fn : Int) := by omega
            have q3 : ¬ (60 : Int) < (tn : Int) := by omega
            have q4 : ¬ (60 : Int) < (yn : Int) := by omega
            go_enter Tryz.func13, Tryz.ntmps13
            go_wp2_with fail
            have hW3 : (w.alloc (.cells #[.slice ca cn cc, .slice ma mn mc, .slice fa fn fc, .slice ta tn tc, .slice ya yn yc, .int .i64 mi] 30)).alloc (.cells #[.int .i64 3000] 3) = W2 := HW.out
            rw [hW3]
            clear hW3
            go_loopw [43] (fun i wr => ∃ k : Nat, k ≤ cn ∧ i = .int .i64 k ∧ Og (w.heap.size + 1) W2 wr ∧ LB (w.heap.size + 1) wr) (fun i _ => cn - (intOf i).toNat)
            case atStart => exact ⟨0, by omega, rfl, HO0.out, HL0.out⟩
            case round =>
              obtain ⟨k, hk, rfl, hg, hL⟩ := hrel
              have HG := Lib.hid hg
              have HR := Lib.hid hL
              clear hg hL
              by_cases hlt : k < cn
              · obtain ⟨b, o, x, ⟨rfl, ne, lt, k0, k1, k2, k3, k4, k5, k6, k7, k8, k9, k10, k11, k12⟩, hok⟩ := (HC.out.og HG.out).2 k hlt
                have HX := Lib.hid hok
                have hnm := hok.nm
                have O1 := Lib.hid (HG.out.alloc (.cells x.cells.toArray 37))
                have L1 := Lib.hid (HR.out.alloc (.cells x.cells.toArray 37))
                have a1 := Lib.hid ((Og.refl (w.heap.size + 1) wr).alloc (.cells x.cells.toArray 37))
                have HB := Lib.hid (fun W' (hg' : Og (w.heap.size + 1) (wr.alloc (.cells x.cells.toArray 37)) W') => (show Bl W' wr.heap.size 37 x.cells from (Bl.new wr 37 x.cells).grown hg' (by have := HR.out.lt; intro e; injection e with e; omega)))
                have p1 := hok.tp
                have p2 := hok.pa
                have p3 := hok.fi
                have p4 := hok.me
                have p5 := hok.ty
                clear hok
                by_cases h100 : 100 < x.nm.size
                · have q : (100 : Int) < (x.nm.size : Int) := by omega
                  go_wp2_with fail
                  go_ret
                  exact ⟨⟨_, rfl⟩, HBel.out _ O1.out⟩
                · have q : ¬ (100 : Int) < (x.nm.size : Int) := by omega
                  by_cases hsum : 200 < x.tp.l + x.pa.l + x.fi.l + x.me.l + x.ty.l
                  · have qs : (200 : Int) < (x.tp.l : Int) + (x.pa.l : Int) + (x.fi.l : Int) + (x.me.l : Int) + (x.ty.l : Int) := by omega
                    go_wp2_with fail
                    go_ret
                    exact ⟨⟨_, rfl⟩, HBel.out _ O1.out⟩
                  · have qs : ¬ (200 : Int) < (x.tp.l : Int) + (x.pa.l : Int) + (x.fi.l : Int) + (x.me.l : Int) + (x.ty.l : Int) := by omega
                    go_wp2_with fail
                    refine (types_70 (TyRow.og a1.out HX.out.pr) L1.out).mono ?_
                    rintro e w1 ⟨⟨r, rfl⟩, hg, hl⟩
                    have G2 := Lib.hid (O1.out.trans hg)
                    have S2 := Lib.hid (a1.out.trans hg)
                    have L2 := Lib.hid hl
                    have HB2 := Lib.hid (fun W' (hg' : Og (w.heap.size + 1) w1 W') => HB.out W' (hg.trans hg'))
                    clear hg hl HB
                    have s10 : w1.cell? ⟨wr.heap.size, 10, none⟩ = some (.slice x.su.a x.su.l x.su.c) := (HB2.out w1 (Og.refl _ _)).cell 10
                    cases r
                    · go_wp2_with fail
                      go_ret
                      exact ⟨⟨_, rfl⟩, HBel.out _ G2.out⟩
                    · go_wp2_with fail
                      refine (trees_200 (TrRow.og S2.out HX.out.su) L2.out).mono ?_
                      rintro e w2 ⟨⟨r, rfl⟩, hg, hl⟩
                      have G3 := Lib.hid (G2.out.trans hg)
                      have S3 := Lib.hid (S2.out.trans hg)
                      have L3 := Lib.hid hl
                      have s11 : w2.cell? ⟨wr.heap.size, 11, none⟩ = some (.slice x.it.a x.it.l x.it.c) := (HB2.out w2 hg).cell 11
                      clear hg hl s10
                      cases r
                      · go_wp2_with fail
                        go_ret
                        exact ⟨⟨_, rfl⟩, HBel.out _ G3.out⟩
                      · go_wp2_with fail
                        refine (trees_200 (TrRow.og S3.out HX.out.it) L3.out).mono ?_
                        rintro e w3 ⟨⟨r, rfl⟩, hg, hl⟩
                        have G4 := Lib.hid (G3.out.trans hg)
                        have L4 := Lib.hid hl
                        clear hg hl s11
                        cases r
                        · go_wp2_with fail
                          go_ret
                          exact ⟨⟨_, rfl⟩, HBel.out _ G4.out⟩
                        · go_wp2_with fail
                          go_roundw
                          case rel => exact ⟨k + 1, by omega, by go_num, G4.out, L4.out⟩
                          case measure => simp [intOf]; omega
              · have hkn : k = cn := by omega
                subst hkn
                have pc : wr.cell? ⟨w.heap.size, 1, none⟩ = some (.slice ma mn mc) := (HP.out wr HG.out).cell 1
                go_wp2_with fail
                clear pc
                have HG0 := HG
                have HR0 := HR
                clear HG HR
                go_loopw [95] (fun i wr => ∃ k : Nat, k ≤ mn ∧ i = .int .i64 k ∧ Og (w.heap.size + 1) W2 wr ∧ LB (w.heap.size + 1) wr) (fun i _ => mn - (intOf i).toNat)
                case atStart => exact ⟨0, by omega, rfl, HG0.out, HR0.out⟩
                case round =>
                  obtain ⟨k, hk, rfl, hg, hL⟩ := hrel
                  have HG := Lib.hid hg
                  have HR := Lib.hid hL
                  clear hg hL
                  by_cases hlt : k < mn
                  · obtain ⟨b, o, x, ⟨rfl, ne, lt, k0, k1, k2, k3, k4, k5, k6, k7, k8, k9, k10, k11, k12⟩, hok⟩ := (HM.out.og HG.out).2 k hlt
                    have HX := Lib.hid hok
                    have hnm := hok.nm
                    have O1 := Lib.hid (HG.out.alloc (.cells x.cells.toArray 64))
                    have L1 := Lib.hid (HR.out.alloc (.cells x.cells.toArray 64))
                    have a1 := Lib.hid ((Og.refl (w.heap.size + 1) wr).alloc (.cells x.cells.toArray 64))
                    have HB := Lib.hid (fun W' (hg' : Og (w.heap.size + 1) (wr.alloc (.cells x.cells.toArray 64)) W') => (show Bl W' wr.heap.size 64 x.cells from (Bl.new wr 64 x.cells).grown hg' (by have := HR.out.lt; intro e; injection e with e; omega)))
                    have p1 := hok.tp
                    clear hok
                    by_cases h100 : 100 < x.nm.size
                    · have q : (100 : Int) < (x.nm.size : Int) := by omega
                      go_wp2_with fail
                      go_ret
                      exact ⟨⟨_, rfl⟩, HBel.out _ O1.out⟩
                    · have q : ¬ (100 : Int) < (x.nm.size : Int) := by omega
                      by_cases hsum : 50 < x.tp.l
                      · have qs : (50 : Int) < (x.tp.l : Int) := by omega
                        go_wp2_with fail
                        go_ret
                        exact ⟨⟨_, rfl⟩, HBel.out _ O1.out⟩
                      · have qs : ¬ (50 : Int) < (x.tp.l : Int) := by omega
                        go_wp2_with fail
                        refine (locals_any _ _ _ _ _ (LoRow.og a1.out HX.out.lo) L1.out).mono ?_
                        rintro e w1 ⟨⟨r, rfl⟩, hg, hl⟩
                        have G2 := Lib.hid (O1.out.trans hg)
                        have S2 := Lib.hid (a1.out.trans hg)
                        have L2 := Lib.hid hl
                        have HB2 := Lib.hid (fun W' (hg' : Og (w.heap.size + 1) w1 W') => HB.out W' (hg.trans hg'))
                        clear hg hl HB
                        have B2 := HB2.out w1 (Og.refl _ _)
                        have s6 : w1.cell? ⟨wr.heap.size, 6, none⟩ = some (.int .i64 x.re.k) := B2.cell 6
                        have s7 : w1.cell? ⟨wr.heap.size, 7, none⟩ = some (.int .i64 x.re.s) := B2.cell 7
                        have s8 : w1.cell? ⟨wr.heap.size, 8, none⟩ = some (.string x.re.n) := B2.cell 8
                        have s9 : w1.cell? ⟨wr.heap.size, 9, none⟩ = some (.int .i64 x.re.u) := B2.cell 9
                        have s10 : w1.cell? ⟨wr.heap.size, 10, none⟩ = some (.slice x.re.a x.re.l x.re.c) := B2.cell 10
                        clear B2
                        cases r
                        · go_wp2_with fail
                          go_ret
                          exact ⟨⟨_, rfl⟩, HBel.out _ G2.out⟩
                        · go_wp2_with fail
                          refine (types_one5 (t := x.re) rfl L2.out (HX.out.re.og S2.out)).mono ?_
                          rintro e w2 ⟨⟨r, rfl⟩, hg, hl⟩
                          have G3 := Lib.hid ((G2.out.alloc (.cells #[.int .i64 x.re.k, .int .i64 x.re.s, .string x.re.n, .int .i64 x.re.u, .slice x.re.a x.re.l x.re.c] 59)).trans hg)
                          have S3 := Lib.hid ((S2.out.alloc (.cells #[.int .i64 x.re.k, .int .i64 x.re.s, .string x.re.n, .int .i64 x.re.u, .slice x.re.a x.re.l x.re.c] 59)).trans hg)
                          have L3 := Lib.hid hl
                          have s11 : w2.cell? ⟨wr.heap.size, 11, none⟩ = some (.pointer x.bo) := (HB2.out w2 (((Og.refl _ w1).alloc (.cells #[.int .i64 x.re.k, .int .i64 x.re.s, .string x.re.n, .int .i64 x.re.u, .slice x.re.a x.re.l x.re.c] 59)).trans hg)).cell 11
                          clear hg hl s6 s7 s8 s9 s10
                          cases r
                          · go_wp2_with fail
                            go_ret
                            exact ⟨⟨_, rfl⟩, HBel.out _ G3.out⟩
                          · rcases HX.out.bo with hbo | ⟨bb, bo, t, hbo, hB, hTo, hTk⟩
                            · rw [hbo] at s11
                              go_wp2_with fail
                              go_roundw
                              case rel => exact ⟨k + 1, by omega, by go_num, G3.out, L3.out⟩
                              case measure => simp [intOf]; omega
                            · rw [hbo] at s11
                              obtain ⟨_, _, t0, t1, t2, t3, t4, t5, t6, t7, t8, t9, t10, t11⟩ := hB.og S3.out
                              have HTo := Lib.hid (hTo.og S3.out)
                              have HTk := Lib.hid (TrRow.og S3.out hTk)
                              clear hB hTo hTk
                              go_wp2_with fail
                              refine (trees_one (t := t) rfl L3.out HTo.out HTk.out).mono ?_
                              rintro e w3 ⟨⟨r, rfl⟩, hg, hl⟩
                              have G4 := Lib.hid ((G3.out.alloc (.cells #[.int .i64 t.kd, .int .i64 t.sy, .int .i64 t.nu, .string t.tx, .int .i64 t.tk, .int .i64 t.ts, .string t.tn, .int .i64 t.tu, .slice t.ta t.tl t.tc, .slice t.la t.ll t.lc, .slice t.ka t.kl t.kc, .int .i64 t.at'] 72)).trans hg)
                              have L4 := Lib.hid hl
                              clear hg hl s11 t0 t1 t2 t3 t4 t5 t6 t7 t8 t9 t10 t11
                              cases r
                              · go_wp2_with fail
                                go_ret
                                exact ⟨⟨_, rfl⟩, HBel.out _ G4.out⟩
                              · go_wp2_with fail
                                go_roundw
                                case rel => exact ⟨k + 1, by omega, by go_num, G4.out, L4.out⟩
                                case measure => simp [intOf]; omega
                  · have hkn : k = mn := by omega
                    subst hkn
                    have pc : wr.cell? ⟨w.heap.size, 2, none⟩ = some (.slice fa fn fc) := (HP.out wr HG.out).cell 2
                    go_wp2_with fail
                    clear pc
                    have HG0 := HG
                    have HR0 := HR
                    clear HG HR
                    go_loopw [140] (fun i wr => ∃ k : Nat, k ≤ fn ∧ i = .int .i64 k ∧ Og (w.heap.size + 1) W2 wr ∧ LB (w.heap.size + 1) wr) (fun i _ => fn - (intOf i).toNat)
                    case atStart => exact ⟨0, by omega, rfl, HG0.out, HR0.out⟩
                    case round =>
                      obtain ⟨k, hk, rfl, hg, hL⟩ := hrel
                      have HG := Lib.hid hg
                      have HR := Lib.hid hL
                      clear hg hL
                      by_cases hlt : k < fn
                      · obtain ⟨b, o, x, ⟨rfl, ne, lt, k0, k1, k2, k3, k4, k5, k6, k7, k8⟩, hok⟩ := (HF.out.og HG.out).2 k hlt
                        have HX := Lib.hid hok
                        have hnm := hok.nm
                        have O1 := Lib.hid (HG.out.alloc (.cells x.cells.toArray 74))
                        have L1 := Lib.hid (HR.out.alloc (.cells x.cells.toArray 74))
                        have a1 := Lib.hid ((Og.refl (w.heap.size + 1) wr).alloc (.cells x.cells.toArray 74))
                        have HB := Lib.hid (fun W' (hg' : Og (w.heap.size + 1) (wr.alloc (.cells x.cells.toArray 74)) W') => (show Bl W' wr.heap.size 74 x.cells from (Bl.new wr 74 x.cells).grown hg' (by have := HR.out.lt; intro e; injection e with e; omega)))
                        clear hok
                        by_cases h100 : 100 < x.nm.size
                        · have q : (100 : Int) < (x.nm.size : Int) := by omega
                          go_wp2_with fail
                          go_ret
                          exact ⟨⟨_, rfl⟩, HBel.out _ O1.out⟩
                        · have q : ¬ (100 : Int) < (x.nm.size : Int) := by omega
                          go_wp2_with fail
                          refine (types_one5 (s := wr.heap.size + 1) (t := x.ty) (by simp) L1.out (HX.out.ty.og a1.out)).mono ?_
                          rintro e w1 ⟨⟨r, rfl⟩, hg, hl⟩
                          have G2 := Lib.hid ((O1.out.alloc (.cells #[.int .i64 x.ty.k, .int .i64 x.ty.s, .string x.ty.n, .int .i64 x.ty.u, .slice x.ty.a x.ty.l x.ty.c] 59)).trans hg)
                          have L2 := Lib.hid hl
                          clear hg hl HB
                          cases r
                          · go_wp2_with fail
                            go_ret
                            exact ⟨⟨_, rfl⟩, HBel.out _ G2.out⟩
                          · go_wp2_with fail
                            go_roundw
                            case rel => exact ⟨k + 1, by omega, by go_num, G2.out, L2.out⟩
                            case measure => simp [intOf]; omega
                      · have hkn : k = fn := by omega
                        subst hkn
                        have pc : wr.cell? ⟨w.heap.size, 3, none⟩ = some (.slice ta tn tc) := (HP.out wr HG.out).cell 3
                        go_wp2_with fail
                        clear pc
                        have HG0 := HG
                        have HR0 := HR
                        clear HG HR
                        go_loopw [159] (fun i wr => ∃ k : Nat, k ≤ tn ∧ i = .int .i64 k ∧ Og (w.heap.size + 1) W2 wr ∧ LB (w.heap.size + 1) wr) (fun i _ => tn - (intOf i).toNat)
                        case atStart => exact ⟨0, by omega, rfl, HG0.out, HR0.out⟩
                        case round =>
                          obtain ⟨k, hk, rfl, hg, hL⟩ := hrel
                          have HG := Lib.hid hg
                          have HR := Lib.hid hL
                          clear hg hL
                          by_cases hlt : k < tn
                          · obtain ⟨b, o, x, ⟨rfl, ne, lt, k0, k1, k2, k3, k4, k5, k6, k7, k8, k9, k10, k11, k12, k13, k14⟩, hok⟩ := (HT.out.og HG.out).2 k hlt
                            have HX := Lib.hid hok
                            have hnm := hok.nm
                            have O1 := Lib.hid (HG.out.alloc (.cells x.cells.toArray 76))
                            have L1 := Lib.hid (HR.out.alloc (.cells x.cells.toArray 76))
                            have a1 := Lib.hid ((Og.refl (w.heap.size + 1) wr).alloc (.cells x.cells.toArray 76))
                            have HB := Lib.hid (fun W' (hg' : Og (w.heap.size + 1) (wr.alloc (.cells x.cells.toArray 76)) W') => (show Bl W' wr.heap.size 76 x.cells from (Bl.new wr 76 x.cells).grown hg' (by have := HR.out.lt; intro e; injection e with e; omega)))
                            clear hok
                            by_cases h100 : 100 < x.nm.size
                            · have q : (100 : Int) < (x.nm.size : Int) := by omega
                              go_wp2_with fail
                              go_ret
                              exact ⟨⟨_, rfl⟩, HBel.out _ O1.out⟩
                            · have q : ¬ (100 : Int) < (x.nm.size : Int) := by omega
                              go_wp2_with fail
                              refine (types_two (s := wr.heap.size + 1) (t := x.lo) (u := x.hi) (by simp) L1.out (HX.out.lo.og a1.out) (HX.out.hi.og a1.out)).mono ?_
                              rintro e w1 ⟨⟨r, rfl⟩, hg, hl⟩
                              have G2 := Lib.hid ((O1.out.alloc (.cells #[.int .i64 x.lo.k, .int .i64 x.lo.s, .string x.lo.n, .int .i64 x.lo.u, .slice x.lo.a x.lo.l x.lo.c, .int .i64 x.hi.k, .int .i64 x.hi.s, .string x.hi.n, .int .i64 x.hi.u, .slice x.hi.a x.hi.l x.hi.c] 59)).trans hg)
                              have L2 := Lib.hid hl
                              clear hg hl HB
                              cases r
                              · go_wp2_with fail
                                go_ret
                                exact ⟨⟨_, rfl⟩, HBel.out _ G2.out⟩
                              · go_wp2_with fail
                                go_roundw
                                case rel => exact ⟨k + 1, by omega, by go_num, G2.out, L2.out⟩
                                case measure => simp [intOf]; omega
                          · have hkn : k = tn := by omega
                            subst hkn
                            have pc : wr.cell? ⟨w.heap.size, 4, none⟩ = some (.slice ya yn yc) := (HP.out wr HG.out).cell 4
                            go_wp2_with fail
                            refine (contains_tm _ _ _ _ wr (HY.out.og HG.out) HR.out).mono ?_
                            rintro e w1 ⟨⟨r, rfl⟩, hg, hl⟩
                            have G2 := Lib.hid (HG.out.trans hg)
                            clear hg hl
                            go_wp2_with fail
                            go_ret
                            exact ⟨⟨_, rfl⟩, HBel.out _ G2.out⟩
end Go.Proofs.YtkjjieloncdjhaaGreatDoor
