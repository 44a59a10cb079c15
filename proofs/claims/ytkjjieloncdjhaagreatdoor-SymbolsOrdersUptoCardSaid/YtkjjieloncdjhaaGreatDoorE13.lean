/- Check: the locals of a method. -/
import Derived.Test.YtkjjieloncdjhaaGreatDoorE11
namespace Go.Proofs.YtkjjieloncdjhaaGreatDoor
open Go Go.RowKit
open Go.Maps (Keyed)

theorem keyS : Keyed Tryz.prog 9 := Maps.string_keyed Tryz.underlying9
theorem keyS_mk (s : ByteArray) (hs : s.size ≤ 9223372036854775807) : keyOf Tryz.prog 9 (.string s) = some (.string s.data.toList) := WideMaps.keyOf_string_mk Tryz.underlying9 (by unfold maxLen; omega)
/-- A map of strings. -/
def SeenS (w : World) (m n : Nat) : Prop := ∃ D, w.ownsMap (H := Unit) Tryz.prog 9 (plainElem Tryz.prog 4) m n D
theorem SeenS.look {w : World} {m n : Nat} (h : SeenS w m n) {x : ByteArray} (h1 : x.size ≤ 9223372036854775807) : ∃ b, (Instr.lookup 65 (.map (some m)) (.string x) false).run Tryz.prog w = .ok (.bool b) w := by
  obtain ⟨D, hD⟩ := h
  obtain ⟨y, hrun, _⟩ := look_bool hD keyS Tryz.underlying65 Tryz.underlying4 (zeroB _) (keyS_mk x h1)
  exact ⟨y, hrun⟩
theorem SeenS.below {w w' : World} {m n : Nat} (h : SeenS w m n) (hB : Below w.heap.size w w') : SeenS w' m n := by
  obtain ⟨D, hD⟩ := h
  exact ⟨D, hD.kept (row := none) ⟨hB.os, hB.tape, hB.output, hB.size, fun k hk _ => hB.block k hk⟩ (by simp)⟩

set_option maxRecDepth 100000 in
set_option maxHeartbeats 8000000 in
theorem checkLocals_all (L : Nat) (x : MeC) (w : World) (hO : MeOk L w x) (h0 : 0 ≤ x.pa) (h1 : x.pa ≤ x.lo.l) :
    Calls Tryz.prog 147 #[.agg x.cells.toArray] w fun e w' => (∃ z : Int, e = .returned (.int .i64 z)) ∧ Below w.heap.size w w' := by
  have hmm := @run_makeMap Tryz.prog
  have hlo := hO.lo
  have hlol := hO.lol
  have hloc := hO.loc
  obtain ⟨nm, ow, fl, tp, pa, ⟨la, ll, lc⟩, re, bo, at'⟩ := x
  dsimp only at h0 h1 hlo hlol hloc
  obtain ⟨p, rfl⟩ : ∃ p : Nat, pa = (p : Int) := ⟨pa.toNat, by omega⟩
  have hpl : p ≤ ll := by omega
  clear hO h0 h1
  have HB1 := Lib.hid ((Below.refl w.heap.size w).alloc (Nat.le_refl _) (.cells #[.string nm, .int .i64 ow, .int .i64 fl, .slice tp.a tp.l tp.c, .int .i64 (p : Int), .slice la ll lc, .int .i64 re.k, .int .i64 re.s, .string re.n, .int .i64 re.u, .slice re.a re.l re.c, .pointer bo, .int .i64 at'] 64))
  have hB := Bl.new w 64 [.string nm, .int .i64 ow, .int .i64 fl, .slice tp.a tp.l tp.c, .int .i64 (p : Int), .slice la ll lc, .int .i64 re.k, .int .i64 re.s, .string re.n, .int .i64 re.u, .slice re.a re.l re.c, .pointer bo, .int .i64 at']
  have HBl := Lib.hid hB
  have HLO := Lib.hid hlo
  have c4 := hB.cell 4
  have c5 := hB.cell 5
  simp only [List.getElem?_cons_zero, List.getElem?_cons_succ] at c4 c5
  have hi1 : ¬ (lc : Int) < (p : Int) := by omega
  have hi2 : (p : Int) ≤ (lc : Int) := by omega
  clear hB hlo
  go_enter Tryz.func147, Tryz.ntmps147
  go_wp2_with fail
  go_loopw [11] (fun i wr => ∃ k : Nat, k ≤ ll ∧ i = .int .i64 k ∧ Below w.heap.size w wr ∧ Bl wr w.heap.size 64 [.string nm, .int .i64 ow, .int .i64 fl, .slice tp.a tp.l tp.c, .int .i64 (p : Int), .slice la ll lc, .int .i64 re.k, .int .i64 re.s, .string re.n, .int .i64 re.u, .slice re.a re.l re.c, .pointer bo, .int .i64 at']) (fun i _ => ll - (intOf i).toNat)
  case atStart => exact ⟨0, by omega, rfl, HB1.out, HBl.out⟩
  case round =>
    obtain ⟨k, hk, rfl, hB, hbl⟩ := hrel
    have HB := Lib.hid hB
    have HBr := Lib.hid hbl
    clear hB hbl c4 c5 HB1 HBl
    by_cases hlt : k < ll
    · obtain ⟨b, o, f1, kd, sy, nu, n1, tn, a', n', c', hA, hnm, _, _⟩ := (LoRow.og (og_of_below HB.out) HLO.out).2 k hlt
      obtain ⟨rfl, -, hb, u0, u1, u2, u3, u4, u5, u6⟩ := hA
      have HB2 := Lib.hid (HB.out.alloc HB.out.size (.cells #[.string n1, .int .i64 f1, .int .i64 kd, .int .i64 sy, .string tn, .int .i64 nu, .slice a' n' c'] 129))
      have HBr2 := Lib.hid (HBr.out.alloc (.cells #[.string n1, .int .i64 f1, .int .i64 kd, .int .i64 sy, .string tn, .int .i64 nu, .slice a' n' c'] 129))
      have hN := Bl.new wr 129 [.string n1, .int .i64 f1, .int .i64 kd, .int .i64 sy, .string tn, .int .i64 nu, .slice a' n' c']
      have HN := Lib.hid hN
      have d0 := hN.cell 0
      simp only [List.getElem?_cons_zero] at d0
      clear hN
      go_wp2_with fail
      refine (name_some n1 _ hnm).mono ?_
      rintro e w1 ⟨⟨r1, rfl⟩, hB'⟩
      have HB3 := Lib.hid (HB2.out.trans (hB'.mono (by have := HB.out.size; simp; omega)))
      have HBr3 := Lib.hid (HBr2.out.below hB' HBr2.out.lt)
      have HN3 := Lib.hid (HN.out.below hB' HN.out.lt)
      clear hB' u0 u1 u2 u3 u4 u5 u6 d0 HB2 HBr2 HN
      have c4 := HBr3.out.cell 4
      have d1 := HN3.out.cell 1
      simp only [List.getElem?_cons_zero, List.getElem?_cons_succ] at c4 d1
      generalize wr.heap.size = gr at *
      cases r1
      · go_wp2_with fail
        go_ret
        exact ⟨⟨_, rfl⟩, HB3.out⟩
      · go_wp2_with (first | (go_at_call 101; refine (has_any _ _ _).mono ?_; rintro e w' ⟨rfl, rfl⟩) | fail)
        all_goals
          first
          | (go_ret; exact ⟨⟨_, rfl⟩, HB3.out⟩)
          | (go_roundw
             case rel => exact ⟨k + 1, by omega, by go_num, HB3.out, HBr3.out⟩
             case measure => simp [intOf]; omega)
    · have hkn : k = ll := by omega
      subst hkn
      have c4 := (HBr.out.alloc (.map #[] 0)).cell 4
      have c5 := (HBr.out.alloc (.map #[] 0)).cell 5
      simp only [List.getElem?_cons_zero, List.getElem?_cons_succ] at c4 c5
      have HS := Lib.hid (show SeenS (wr.alloc (.map #[] 0)) wr.heap.size 0 from ⟨_, World.ownsMap_made (H := Unit) wr Tryz.prog 9 (plainElem Tryz.prog 4)⟩)
      have HB2 := Lib.hid (HB.out.alloc HB.out.size (.map #[] 0))
      have HG := Lib.hid (show w.heap.size ≤ wr.heap.size from HB.out.size)
      have HRow := Lib.hid (LoRow.og (og_of_below HB2.out) HLO.out)
      rcases la with _ | ⟨g, o, fz⟩
      · have hp0 : p = 0 := by
          apply Classical.byContradiction
          intro hne
          obtain ⟨b, o, f1, kd, sy, nu, n1, tn, a', n', c', hA, _⟩ := HRow.out.2 0 (by omega)
          cases hA.ad
        subst hp0
        go_wp2_with fail
        refine wp_loop_rounds 1 ?_
        rw [rounds_succ]
        go_wp2_with fail
        go_ret
        exact ⟨⟨_, rfl⟩, HB2.out⟩
      · go_wp2_with fail
        have HR0 := Lib.hid (show LoRow L w (some ⟨g, o, fz⟩) k from HLO.out)
        have hmw : w.heap.size ≤ wr.heap.size := HG.out
        generalize wr.heap.size = m at *
        go_loopw [54] (fun i wr => ∃ j : Nat, j ≤ p ∧ i = .int .i64 j ∧ SeenS wr m j ∧ Below w.heap.size w wr) (fun i _ => p - (intOf i).toNat)
        case atStart => exact ⟨0, by omega, rfl, HS.out, HB2.out⟩
        case round =>
          obtain ⟨j, hj, rfl, hM, hB⟩ := hrel
          have HM := Lib.hid hM
          have HBq := Lib.hid hB
          clear hM hB c4 c5 HS HB2 HRow
          by_cases hlt2 : j < p
          · obtain ⟨b, o', f1, kd, sy, nu, n1, tn, a', n', c', hA, hnm, _, _⟩ := (LoRow.og (og_of_below HBq.out) HR0.out).2 j (by omega)
            obtain ⟨ead, -, hb, u0, u1, u2, u3, u4, u5, u6⟩ := hA
            injection ead with ead
            injection ead with e1 e2 e3
            subst e1 e2 e3
            have HB2 := Lib.hid (HBq.out.alloc HBq.out.size (.cells #[.string n1, .int .i64 f1, .int .i64 kd, .int .i64 sy, .string tn, .int .i64 nu, .slice a' n' c'] 129))
            have HM2 := Lib.hid (HM.out.below ((Below.refl wr.heap.size wr).alloc (Nat.le_refl _) (.cells #[.string n1, .int .i64 f1, .int .i64 kd, .int .i64 sy, .string tn, .int .i64 nu, .slice a' n' c'] 129)))
            have hN := Bl.new wr 129 [.string n1, .int .i64 f1, .int .i64 kd, .int .i64 sy, .string tn, .int .i64 nu, .slice a' n' c']
            have d0 := hN.cell 0
            simp only [List.getElem?_cons_zero] at d0
            have HN := Lib.hid hN
            clear hN
            obtain ⟨r, hr⟩ := HM2.out.look hnm
            cases r
            · obtain ⟨D, hD⟩ := HM2.out
              have HD := Lib.hid hD
              have hkey := keyS_mk n1 hnm
              clear hD
              go_wp2_with (at_mapUpdate; refine wpList_mapUpdate_own _ rfl _ _ _ 65 rfl 9 4 keyS Tryz.underlying65 _ m j _ rfl HD.out (by unfold maxLen; omega) _ _ (.string n1.data.toList) rfl rfl hkey _ [] (plainElem_bool Tryz.underlying4 true) ?_)
              intro w2 hown2 hgrow2
              have HM3 := Lib.hid (show SeenS w2 m (j + 1) from ⟨_, hown2⟩)
              have HB3 := Lib.hid (HB2.out.grown hgrow2 HB2.out.size (fun i e => by cases e; exact hmw))
              clear hown2 hgrow2 hr
              go_wp2_with fail
              go_roundw
              case rel => exact ⟨j + 1, by omega, by go_num, HM3.out, HB3.out⟩
              case measure => simp [intOf]; omega
            · go_wp2_with fail
              go_ret
              exact ⟨⟨_, rfl⟩, HB2.out⟩
          · have hjn : j = p := by omega
            subst hjn
            go_wp2_with fail
            go_ret
            exact ⟨⟨_, rfl⟩, HBq.out⟩
end Go.Proofs.YtkjjieloncdjhaaGreatDoor
namespace Go.Proofs.YtkjjieloncdjhaaGreatDoor
open Go Go.RowKit

abbrev zeroCl : List Value := [.string ⟨#[]⟩, .int .i64 0, .int .i64 0, .int .i64 0, .slice none 0 0, .slice none 0 0, .slice none 0 0, .slice none 0 0, .slice none 0 0, .slice none 0 0, .slice none 0 0, .slice none 0 0, .int .i64 0]

set_option maxRecDepth 100000 in
set_option maxHeartbeats 8000000 in
theorem checkOwner_all (L k : Nat) (ca ma fa ta ya : Option Addr) (cn mn fn tn yn cc mc fc tc yc : Nat) (mi : Int) (w : World) (_ : cn ≤ 1048576) (_ : mn ≤ 1048576) (hk : k < mn) (b2 o2 : Nat) (x : MeC) (hA : MeAt w L ma k b2 o2 x) (how : x.ow = -1 ∨ inR cn x.ow = true) (hP : PrgR L w ca ma fa ta ya cn mn fn tn yn) :
    Calls Tryz.prog 148 #[.agg #[.slice ca cn cc, .slice ma mn mc, .slice fa fn fc, .slice ta tn tc, .slice ya yn yc, .int .i64 mi], .int .i64 k] w fun e w' => (∃ z : Int, e = .returned (.int .i64 z)) ∧ Below w.heap.size w w' := by
  obtain ⟨xn, xo, xf, xt, xp, xl, xr, xb, xat⟩ := x
  dsimp only at how
  obtain rfl := hA.ad
  rcases how with rfl | hin
  · have HPR := Lib.hid hP
    have hB0 := Bl.new w 30 [.slice ca cn cc, .slice (some ⟨b2, o2, none⟩) mn mc, .slice fa fn fc, .slice ta tn tc, .slice ya yn yc, .int .i64 mi]
    have hB2 := Bl.new (w.alloc (.cells #[.slice ca cn cc, .slice (some ⟨b2, o2, none⟩) mn mc, .slice fa fn fc, .slice ta tn tc, .slice ya yn yc, .int .i64 mi] 30)) 64 [.string xn, .int .i64 (-1), .int .i64 xf, .slice xt.a xt.l xt.c, .int .i64 xp, .slice xl.a xl.l xl.c, .int .i64 xr.k, .int .i64 xr.s, .string xr.n, .int .i64 xr.u, .slice xr.a xr.l xr.c, .pointer xb, .int .i64 xat]
    rw [World.size_alloc] at hB2
    have HPb := Lib.hid (hB0.alloc (.cells #[.string xn, .int .i64 (-1), .int .i64 xf, .slice xt.a xt.l xt.c, .int .i64 xp, .slice xl.a xl.l xl.c, .int .i64 xr.k, .int .i64 xr.s, .string xr.n, .int .i64 xr.u, .slice xr.a xr.l xr.c, .pointer xb, .int .i64 xat] 64))
    have HCb := Lib.hid hB2
    have HB1 := Lib.hid ((Below.refl w.heap.size w).alloc (Nat.le_refl _) (.cells #[.slice ca cn cc, .slice (some ⟨b2, o2, none⟩) mn mc, .slice fa fn fc, .slice ta tn tc, .slice ya yn yc, .int .i64 mi] 30))
    have HB2 := Lib.hid (HB1.out.alloc (by simp) (.cells #[.string xn, .int .i64 (-1), .int .i64 xf, .slice xt.a xt.l xt.c, .int .i64 xp, .slice xl.a xl.l xl.c, .int .i64 xr.k, .int .i64 xr.s, .string xr.n, .int .i64 xr.u, .slice xr.a xr.l xr.c, .pointer xb, .int .i64 xat] 64))
    have HBw : Hid (∀ W', Below (w.heap.size + 1 + 1) ((w.alloc (.cells #[.slice ca cn cc, .slice (some ⟨b2, o2, none⟩) mn mc, .slice fa fn fc, .slice ta tn tc, .slice ya yn yc, .int .i64 mi] 30)).alloc (.cells #[.string xn, .int .i64 (-1), .int .i64 xf, .slice xt.a xt.l xt.c, .int .i64 xp, .slice xl.a xl.l xl.c, .int .i64 xr.k, .int .i64 xr.s, .string xr.n, .int .i64 xr.u, .slice xr.a xr.l xr.c, .pointer xb, .int .i64 xat] 64)) W' → Below w.heap.size w W') := Lib.hid (fun W' hB => HB2.out.trans (hB.mono (by omega)))
    have HB_W := Lib.hid (Below.refl (w.heap.size + 1 + 1) ((w.alloc (.cells #[.slice ca cn cc, .slice (some ⟨b2, o2, none⟩) mn mc, .slice fa fn fc, .slice ta tn tc, .slice ya yn yc, .int .i64 mi] 30)).alloc (.cells #[.string xn, .int .i64 (-1), .int .i64 xf, .slice xt.a xt.l xt.c, .int .i64 xp, .slice xl.a xl.l xl.c, .int .i64 xr.k, .int .i64 xr.s, .string xr.n, .int .i64 xr.u, .slice xr.a xr.l xr.c, .pointer xb, .int .i64 xat] 64)))
    have hsW : ((w.alloc (.cells #[.slice ca cn cc, .slice (some ⟨b2, o2, none⟩) mn mc, .slice fa fn fc, .slice ta tn tc, .slice ya yn yc, .int .i64 mi] 30)).alloc (.cells #[.string xn, .int .i64 (-1), .int .i64 xf, .slice xt.a xt.l xt.c, .int .i64 xp, .slice xl.a xl.l xl.c, .int .i64 xr.k, .int .i64 xr.s, .string xr.n, .int .i64 xr.u, .slice xr.a xr.l xr.c, .pointer xb, .int .i64 xat] 64)).heap.size = w.heap.size + 1 + 1 := by simp
    have hlt0 : w.heap.size < w.heap.size + 1 + 1 := by omega
    have hlt1 : w.heap.size + 1 < w.heap.size + 1 + 1 := by omega
    have qq := hB0.cell 1
    simp only [List.getElem?_cons_zero, List.getElem?_cons_succ] at qq
    have d0 := HCb.out.cell 0
    simp only [List.getElem?_cons_zero] at d0
    have hZ := Bl.new ((w.alloc (.cells #[.slice ca cn cc, .slice (some ⟨b2, o2, none⟩) mn mc, .slice fa fn fc, .slice ta tn tc, .slice ya yn yc, .int .i64 mi] 30)).alloc (.cells #[.string xn, .int .i64 (-1), .int .i64 xf, .slice xt.a xt.l xt.c, .int .i64 xp, .slice xl.a xl.l xl.c, .int .i64 xr.k, .int .i64 xr.s, .string xr.n, .int .i64 xr.u, .slice xr.a xr.l xr.c, .pointer xb, .int .i64 xat] 64)) 37 zeroCl
    rw [hsW] at hZ
    have HB3 := Lib.hid (HB2.out.alloc (by simp; omega) (.cells zeroCl.toArray 37))
    have d1 := (HCb.out.alloc (.cells zeroCl.toArray 37)).cell 1
    have d2 := (HCb.out.alloc (.cells zeroCl.toArray 37)).cell 2
    have z1 := hZ.cell 1
    have z2 := hZ.cell 2
    have q0 := (HPb.out.alloc (.cells zeroCl.toArray 37)).cell 0
    have hAA := hA.og (og_of_below HB1.out)
    obtain ⟨-, -, -, k0, k1, k2, k3, k4, k5, k6, k7, k8, k9, k10, k11, k12⟩ := hAA
    dsimp only at k0 k1 k2 k3 k4 k5 k6 k7 k8 k9 k10 k11 k12
    simp only [List.getElem?_cons_zero, List.getElem?_cons_succ] at d1 d2 z1 z2 q0
    clear d0 hB2 hB0 hP HPR hA q0
    go_enter Tryz.func148, Tryz.ntmps148
    go_wp2_with (first | (go_at_call 101; refine (has_any _ _ _).mono ?_; rintro e w' ⟨rfl, rfl⟩) | fail)
    all_goals
      go_ret
      exact ⟨⟨_, rfl⟩, HB3.out⟩
  · have hin' := inR_iff.1 hin
    obtain ⟨m, rfl⟩ : ∃ m : Nat, xo = (m : Int) := ⟨xo.toNat, by omega⟩
    have hmI : (m : Int) < (cn : Int) := by omega
    have hm1 : ((m : Int) == -1) = false := by simp
    obtain ⟨bc, oc, y, hAy, hOy⟩ := hP.cl.2 m (by omega)
    obtain rfl := hAy.ad
    have HPR := Lib.hid hP
    have hB0 := Bl.new w 30 [.slice (some ⟨bc, oc, none⟩) cn cc, .slice (some ⟨b2, o2, none⟩) mn mc, .slice fa fn fc, .slice ta tn tc, .slice ya yn yc, .int .i64 mi]
    have hB2 := Bl.new (w.alloc (.cells #[.slice (some ⟨bc, oc, none⟩) cn cc, .slice (some ⟨b2, o2, none⟩) mn mc, .slice fa fn fc, .slice ta tn tc, .slice ya yn yc, .int .i64 mi] 30)) 64 [.string xn, .int .i64 (m : Int), .int .i64 xf, .slice xt.a xt.l xt.c, .int .i64 xp, .slice xl.a xl.l xl.c, .int .i64 xr.k, .int .i64 xr.s, .string xr.n, .int .i64 xr.u, .slice xr.a xr.l xr.c, .pointer xb, .int .i64 xat]
    rw [World.size_alloc] at hB2
    have HPb := Lib.hid (hB0.alloc (.cells #[.string xn, .int .i64 (m : Int), .int .i64 xf, .slice xt.a xt.l xt.c, .int .i64 xp, .slice xl.a xl.l xl.c, .int .i64 xr.k, .int .i64 xr.s, .string xr.n, .int .i64 xr.u, .slice xr.a xr.l xr.c, .pointer xb, .int .i64 xat] 64))
    have HCb := Lib.hid hB2
    have HB1 := Lib.hid ((Below.refl w.heap.size w).alloc (Nat.le_refl _) (.cells #[.slice (some ⟨bc, oc, none⟩) cn cc, .slice (some ⟨b2, o2, none⟩) mn mc, .slice fa fn fc, .slice ta tn tc, .slice ya yn yc, .int .i64 mi] 30))
    have HB2 := Lib.hid (HB1.out.alloc (by simp) (.cells #[.string xn, .int .i64 (m : Int), .int .i64 xf, .slice xt.a xt.l xt.c, .int .i64 xp, .slice xl.a xl.l xl.c, .int .i64 xr.k, .int .i64 xr.s, .string xr.n, .int .i64 xr.u, .slice xr.a xr.l xr.c, .pointer xb, .int .i64 xat] 64))
    have HBw : Hid (∀ W', Below (w.heap.size + 1 + 1) ((w.alloc (.cells #[.slice (some ⟨bc, oc, none⟩) cn cc, .slice (some ⟨b2, o2, none⟩) mn mc, .slice fa fn fc, .slice ta tn tc, .slice ya yn yc, .int .i64 mi] 30)).alloc (.cells #[.string xn, .int .i64 (m : Int), .int .i64 xf, .slice xt.a xt.l xt.c, .int .i64 xp, .slice xl.a xl.l xl.c, .int .i64 xr.k, .int .i64 xr.s, .string xr.n, .int .i64 xr.u, .slice xr.a xr.l xr.c, .pointer xb, .int .i64 xat] 64)) W' → Below w.heap.size w W') := Lib.hid (fun W' hB => HB2.out.trans (hB.mono (by omega)))
    have HB_W := Lib.hid (Below.refl (w.heap.size + 1 + 1) ((w.alloc (.cells #[.slice (some ⟨bc, oc, none⟩) cn cc, .slice (some ⟨b2, o2, none⟩) mn mc, .slice fa fn fc, .slice ta tn tc, .slice ya yn yc, .int .i64 mi] 30)).alloc (.cells #[.string xn, .int .i64 (m : Int), .int .i64 xf, .slice xt.a xt.l xt.c, .int .i64 xp, .slice xl.a xl.l xl.c, .int .i64 xr.k, .int .i64 xr.s, .string xr.n, .int .i64 xr.u, .slice xr.a xr.l xr.c, .pointer xb, .int .i64 xat] 64)))
    have hsW : ((w.alloc (.cells #[.slice (some ⟨bc, oc, none⟩) cn cc, .slice (some ⟨b2, o2, none⟩) mn mc, .slice fa fn fc, .slice ta tn tc, .slice ya yn yc, .int .i64 mi] 30)).alloc (.cells #[.string xn, .int .i64 (m : Int), .int .i64 xf, .slice xt.a xt.l xt.c, .int .i64 xp, .slice xl.a xl.l xl.c, .int .i64 xr.k, .int .i64 xr.s, .string xr.n, .int .i64 xr.u, .slice xr.a xr.l xr.c, .pointer xb, .int .i64 xat] 64)).heap.size = w.heap.size + 1 + 1 := by simp
    have hlt0 : w.heap.size < w.heap.size + 1 + 1 := by omega
    have hlt1 : w.heap.size + 1 < w.heap.size + 1 + 1 := by omega
    have qq := hB0.cell 1
    simp only [List.getElem?_cons_zero, List.getElem?_cons_succ] at qq
    have d0 := HCb.out.cell 0
    simp only [List.getElem?_cons_zero] at d0
    have hZ := Bl.new ((w.alloc (.cells #[.slice (some ⟨bc, oc, none⟩) cn cc, .slice (some ⟨b2, o2, none⟩) mn mc, .slice fa fn fc, .slice ta tn tc, .slice ya yn yc, .int .i64 mi] 30)).alloc (.cells #[.string xn, .int .i64 (m : Int), .int .i64 xf, .slice xt.a xt.l xt.c, .int .i64 xp, .slice xl.a xl.l xl.c, .int .i64 xr.k, .int .i64 xr.s, .string xr.n, .int .i64 xr.u, .slice xr.a xr.l xr.c, .pointer xb, .int .i64 xat] 64)) 37 zeroCl
    rw [hsW] at hZ
    have HB3 := Lib.hid (HB2.out.alloc (by simp; omega) (.cells zeroCl.toArray 37))
    have d1 := (HCb.out.alloc (.cells zeroCl.toArray 37)).cell 1
    have d2 := (HCb.out.alloc (.cells zeroCl.toArray 37)).cell 2
    have z1 := hZ.cell 1
    have z2 := hZ.cell 2
    have q0 := (HPb.out.alloc (.cells zeroCl.toArray 37)).cell 0
    have hAA := hA.og (og_of_below HB1.out)
    obtain ⟨-, -, -, k0, k1, k2, k3, k4, k5, k6, k7, k8, k9, k10, k11, k12⟩ := hAA
    dsimp only at k0 k1 k2 k3 k4 k5 k6 k7 k8 k9 k10 k11 k12
    simp only [List.getElem?_cons_zero, List.getElem?_cons_succ] at d1 d2 z1 z2 q0
    obtain ⟨q, hNq⟩ := NumL.of hOy.nme
    obtain ⟨-, -, -, y0, y1, y2, y3, y4, y5, y6, y7, y8, y9, y10, y11, y12⟩ := hAy.og (og_of_below HB3.out)
    have hyl := hOy.me
    have hY := Bl.new ((w.alloc (.cells #[.slice (some ⟨bc, oc, none⟩) cn cc, .slice (some ⟨b2, o2, none⟩) mn mc, .slice fa fn fc, .slice ta tn tc, .slice ya yn yc, .int .i64 mi] 30)).alloc (.cells #[.string xn, .int .i64 (m : Int), .int .i64 xf, .slice xt.a xt.l xt.c, .int .i64 xp, .slice xl.a xl.l xl.c, .int .i64 xr.k, .int .i64 xr.s, .string xr.n, .int .i64 xr.u, .slice xr.a xr.l xr.c, .pointer xb, .int .i64 xat] 64)) 37 y.cells
    rw [hsW] at hY
    have HY := Lib.hid hY
    have HC4 := Lib.hid (HCb.out.alloc (.cells y.cells.toArray 37))
    have HB4 := Lib.hid (HB2.out.alloc (by simp; omega) (.cells y.cells.toArray 37))
    have HNq := Lib.hid (hNq.below HB4.out)
    clear d0 hB2 hB0 hA hOy hNq hAy hZ hY HPb HCb HBw HB_W HPR
    go_enter Tryz.func148, Tryz.ntmps148
    go_upto_region 5 with fail
    clear y0 y1 y2 y3 y4 y5 y6 y7 y8 y9 y10 y11 y12 k0 k1 k2 k3 k4 k5 k6 k7 k8 k9 k10 k11 k12 d1 d2 z1 z2 q0 qq HB3
    generalize hW : (((w.alloc (.cells #[.slice (some ⟨bc, oc, none⟩) cn cc, .slice (some ⟨b2, o2, none⟩) mn mc, .slice fa fn fc, .slice ta tn tc, .slice ya yn yc, .int .i64 mi] 30)).alloc (.cells #[.string xn, .int .i64 (m : Int), .int .i64 xf, .slice xt.a xt.l xt.c, .int .i64 xp, .slice xl.a xl.l xl.c, .int .i64 xr.k, .int .i64 xr.s, .string xr.n, .int .i64 xr.u, .slice xr.a xr.l xr.c, .pointer xb, .int .i64 xat] 64)).alloc (.cells y.cells.toArray 37)) = W at *
    clear hW
    have d1 := HC4.out.cell 1
    have d2 := HC4.out.cell 2
    have e1 := HY.out.cell 1
    have e2 := HY.out.cell 2
    have e8 := HY.out.cell 8
    simp only [List.getElem?_cons_zero, List.getElem?_cons_succ] at d1 d2 e1 e2 e8
    go_wp2_with fail
    refine (contains_any _ _ _ q (k : Int) _ hyl HNq.out.nums).mono ?_
    rintro e w' ⟨rfl, rfl⟩
    generalize decide ((k : Int) ∈ q) = rb
    cases rb
    · go_wp2_with fail
      go_ret
      exact ⟨⟨_, rfl⟩, HB4.out⟩
    · go_wp2_with (first | (go_at_call 101; refine (has_any _ _ _).mono ?_; rintro e w' ⟨rfl, rfl⟩) | fail)
      all_goals
        go_ret
        exact ⟨⟨_, rfl⟩, HB4.out⟩
end Go.Proofs.YtkjjieloncdjhaaGreatDoor
