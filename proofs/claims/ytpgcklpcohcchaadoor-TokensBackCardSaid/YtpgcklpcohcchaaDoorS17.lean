/- Raw: the tokens of a text whose bytes are all right. -/
import Derived.Test.YtpgcklpcohcchaaDoorS16
namespace Go.Proofs.YtpgcklpcohcchaaDoor
open Go Go.RowKit

set_option maxRecDepth 100000 in
set_option maxHeartbeats 12800000 in
theorem raw_run (X : Nat → Prop) (w : World) (s : ByteArray) (hX : ∀ b, X b → b < w.heap.size) (htb : Tab w) (hx0 : X 0) (hc : bytesF s = none) :
    Calls Tryd.prog 7 #[.string s] w (LayRes X w (rawFin (rawS s))) := by
  have hs := bytesF_size hc
  have ck := checkBytes_any s ((w.alloc (.cells #[.slice none 0 0] 23)).alloc (.cells #[.int .i64 0, .int .i64 0] 26))
  rw [hc] at ck
  have CK := Lib.hid ck
  have hmf := hmf
  have hb0 := ((Below.refl w.heap.size w).alloc (Nat.le_refl _) (.cells #[.slice none 0 0] 23)).alloc (by simp) (.cells #[.int .i64 0, .int .i64 0] 26)
  have hsz : ((w.alloc (.cells #[.slice none 0 0] 23)).alloc (.cells #[.int .i64 0, .int .i64 0] 26)).heap.size = w.heap.size + 1 + 1 := by simp
  have hp : Bl ((w.alloc (.cells #[.slice none 0 0] 23)).alloc (.cells #[.int .i64 0, .int .i64 0] 26)) w.heap.size 23 [.slice none 0 0] := (Bl.new w 23 [.slice none 0 0]).alloc _
  have hq : Bl ((w.alloc (.cells #[.slice none 0 0] 23)).alloc (.cells #[.int .i64 0, .int .i64 0] 26)) (w.heap.size + 1) 26 [.int .i64 0, .int .i64 0] := by
    have := Bl.new (w.alloc (.cells #[.slice none 0 0] 23)) 26 [.int .i64 0, .int .i64 0]
    simpa using this
  have hk0 := KX.below hb0 hX
  have hX2 : ∀ b, X b → b < ((w.alloc (.cells #[.slice none 0 0] 23)).alloc (.cells #[.int .i64 0, .int .i64 0] 26)).heap.size := fun b hb => by have := hX b hb; omega
  have hst := raw_start (s := s) hX2 hp.lt hq.lt
  rw [hsz] at hst
  have hk1 := KX.below ((Below.refl _ _).alloc (Nat.le_refl _) (.cells #[.string s, .int .i64 0, .slice none 0 0, .slice none 0 0, .int .i64 0, .int .i64 0, .int .i64 0] 42)) hX2
  have HP := Lib.hid (hp.alloc (.cells #[.string s, .int .i64 0, .slice none 0 0, .slice none 0 0, .int .i64 0, .int .i64 0, .int .i64 0] 42))
  have HQ := Lib.hid (hq.alloc (.cells #[.string s, .int .i64 0, .slice none 0 0, .slice none 0 0, .int .i64 0, .int .i64 0, .int .i64 0] 42))
  have HK3 := Lib.hid (hk0.trans hk1)
  have HT3 := Lib.hid (htb.kx (hk0.trans hk1) hx0)
  have HST := Lib.hid hst
  have HXP := Lib.hid (fun (b : Nat) (hb : X b) => (show b ≠ w.heap.size ∧ b ≠ w.heap.size + 1 by have := hX b hb; omega))
  have hpq : w.heap.size ≠ w.heap.size + 1 := by omega
  have HPQ := Lib.hid hpq
  have HX := Lib.hid hX
  have HX0 := Lib.hid hx0
  clear hX htb hx0 hc ck hb0 hsz hp hq hk0 hX2 hst hk1 hpq
  go_enter_defers Tryd.func7, Tryd.ntmps7
  go_wp2_with fail
  refine CK.out.mono ?_
  rintro e w2 ⟨rfl, rfl⟩
  clear CK
  go_simp
  go_wp2_with fail
  generalize hW3 : World.alloc _ (Obj.cells #[Value.string s, .int .i64 0, .slice none 0 0, .slice none 0 0, .int .i64 0, .int .i64 0, .int .i64 0] 42) = W3 at *
  clear hW3
  generalize w.heap.size + 1 + 1 = rb at *
  generalize w.heap.size + 1 = q at *
  generalize hpw : w.heap.size = p at *
  clear hpw
  have CS := Lib.hid (skip_ro _ _ _ _ _ _ HST.out hs (Nat.zero_le _))
  cases hk : skipF s (s.size + 1) 0 with
  | error a =>
    have hrs : rawS s = .error (a, 27) := by unfold rawS; rw [hk]
    have HRS := Lib.hid hrs
    simp only [hk] at CS
    clear hk hrs
    refine CS.out.mono ?_
    rintro e W5 ⟨rfl, hka⟩
    refine doorR_panic (by rfl) (by rfl) (hka.bl (.inr (.inl rfl)) HP.out) (hka.bl (.inr (.inr rfl)) HQ.out) HPQ.out (fun w' h => ?_)
    rw [HRS.out]
    refine ⟨rfl, (HK3.out.trans (hka.mono (fun _ h => .inl h))).trans (h X (fun b hb => ⟨?_, (HXP.out b hb).1, (HXP.out b hb).2⟩))⟩
    have l1 := HX.out b hb
    have l2 := hka.size
    have l3 := HP.out.lt
    omega
  | ok k0 =>
    have hrs : rawS s = rawL s (s.size + 1) ⟨k0, [], 0, 0, 0⟩ [] := by unfold rawS; rw [hk]
    have HRS := Lib.hid hrs
    clear hrs
    simp only [hk] at CS
    have hk0 := skipF_ok _ _ _ (by omega) (Nat.zero_le _) hk
    clear hk
    refine CS.out.mono ?_
    rintro e W5 ⟨rfl, h5, k5⟩
    have H5 := Lib.hid h5
    have K5 := Lib.hid k5
    clear h5 k5 CS
    go_simp
    go_wp2_with fail
    go_loopg [] (s.size + 1) (fun gh wr => ∃ (r1 : RSt) (bs1 : List Brk), s.size < r1.pos + gh ∧ RG s r1 bs1 ∧ comB s r1.pos = false ∧ RO (XR X p q) wr rb s r1 bs1 ∧ KX (XR X p q) W3 wr ∧ rawL s gh r1 bs1 = rawL s (s.size + 1) ⟨k0, [], 0, 0, 0⟩ [])
    case atStart => exact ⟨⟨k0, [], 0, 0, 0⟩, [], by simp only; omega, ⟨⟨hk0.2.1, Nat.zero_le _, Nat.le_refl _, Nat.le_refl _, by simp⟩, by simp, by simp⟩, hk0.2.2, H5.out, K5.out, rfl⟩
    case round =>
      obtain ⟨r1, bs1, hgk, hg, hcm, hR, hK, hV⟩ := hrel
      have hV' := hV
      obtain ⟨g', rfl⟩ : ∃ g', gk = g' + 1 := ⟨gk - 1, by have := hg.ri.pos; omega⟩
      rw [rawL_succ s g' r1 bs1] at hV'
      have hR0 := hR
      obtain ⟨vn, hr, ho, hx⟩ := hR0
      obtain ⟨vo, b1, b2, b4, ao⟩ := hr.bl
      have d0 : wr.cell? ⟨rb, 0, none⟩ = some (.string s) := b1.cell 0
      have d1 : wr.cell? ⟨rb, 1, none⟩ = some (.int .i64 r1.pos) := b1.cell 1
      have HTW := Lib.hid (HT3.out.kx hK (.inl HX0.out))
      have hps := hg.ri.pos
      have HR := Lib.hid hR
      have HK := Lib.hid hK
      have HG := Lib.hid hg
      have HCM := Lib.hid hcm
      by_cases hlt : r1.pos < s.size
      · rw [if_pos hlt] at hV'
        have HV := Lib.hid hV'
        have CN := Lib.hid (scanner_any rb s r1.pos wr hs hps d0 d1 HTW.out)
        have CT := Lib.hid (fun n => step_any (XR X p q) (wr.drewN n) rb s r1 bs1 (HR.out.keep (drewN_below (Below.refl _ _) n)) hs HG.out hlt (fun i hi => HTW.out i hi) (.inl HX0.out))
        have q1 : (r1.pos : Int) < (s.size : Int) := by omega
        unfold mv at CN
        have hpr := fun r2 bs2 h => rstep_ok (r' := r2) (bs' := bs2) hg hlt hcm h
        clear hR hK hV hV' hg hcm hr ho hx b1 b2 b4 ao d0
        have hK9 : (scanK (pk s r1.pos) (pk s (r1.pos + 1))) = 27 ∨ (scanK (pk s r1.pos) (pk s (r1.pos + 1))) = 28 ∨ (scanK (pk s r1.pos) (pk s (r1.pos + 1))) = 29 ∨ (scanK (pk s r1.pos) (pk s (r1.pos + 1))) = 30 ∨ (scanK (pk s r1.pos) (pk s (r1.pos + 1))) = 31 ∨ (scanK (pk s r1.pos) (pk s (r1.pos + 1))) = 32 ∨ (scanK (pk s r1.pos) (pk s (r1.pos + 1))) = 51 ∨ (scanK (pk s r1.pos) (pk s (r1.pos + 1))) = 52 ∨ (scanK (pk s r1.pos) (pk s (r1.pos + 1))) = 53 := by
          have h1 := quotK_in (pk s r1.pos) (pk s (r1.pos + 1))
          have h2 := cls_lt (pk s r1.pos)
          unfold scanK
          split <;> omega
        generalize scanK (pk s r1.pos) (pk s (r1.pos + 1)) = K at *
        cases hst : rstepF s r1 bs1 with
        | error f =>
          rw [hst] at CT HV
          clear hst hpr
          simp only at HV
          go_wp2_with fail
          refine CN.out.mono ?_
          rintro e w6 ⟨rfl, n1, rfl⟩
          go_simp
          rcases hK9 with rfl | rfl | rfl | rfl | rfl | rfl | rfl | rfl | rfl
          all_goals
            go_wp2_with fail
            refine (CT.out _).mono ?_
            rintro e w7 ⟨rfl, k7⟩
            have hka := (HK.out.drewN n1).trans k7
            refine doorR_panic (by rfl) (by rfl) (hka.bl (.inr (.inl rfl)) HP.out) (hka.bl (.inr (.inr rfl)) HQ.out) HPQ.out (fun w' h => ?_)
            rw [HRS.out, ← HV.out]
            refine ⟨rfl, (HK3.out.trans (hka.mono (fun _ h => .inl h))).trans (h X (fun b hb => ⟨?_, (HXP.out b hb).1, (HXP.out b hb).2⟩))⟩
            have l1 := HX.out b hb
            have l2 := hka.size
            have l3 := HP.out.lt
            omega
        | ok y =>
          obtain ⟨r2, bs2⟩ := y
          obtain ⟨hg2, hp2⟩ := hpr _ _ hst
          have hps2 := hg2.ri.pos
          rw [hst] at CT HV
          clear hst hpr
          simp only at HV
          have CS := Lib.hid (fun W hR => skip_ro (XR X p q) W rb s r2 bs2 hR hs hps2)
          cases hk : skipF s (s.size + 1) r2.pos with
          | error a =>
            simp only [hk] at CS HV
            clear hk
            go_wp2_with fail
            refine CN.out.mono ?_
            rintro e w6 ⟨rfl, n1, rfl⟩
            go_simp
            rcases hK9 with rfl | rfl | rfl | rfl | rfl | rfl | rfl | rfl | rfl
            all_goals
              go_wp2_with fail
              refine (CT.out _).mono ?_
              rintro e w7 ⟨rfl, h7, k7⟩
              have H7 := Lib.hid h7
              have HKA := Lib.hid ((HK.out.drewN n1).trans k7)
              clear h7 k7
              go_simp
              go_wp2_with fail
              refine (CS.out _ H7.out).mono ?_
              rintro e w8 ⟨rfl, k8⟩
              have hka := HKA.out.trans k8
              refine doorR_panic (by rfl) (by rfl) (hka.bl (.inr (.inl rfl)) HP.out) (hka.bl (.inr (.inr rfl)) HQ.out) HPQ.out (fun w' h => ?_)
              rw [HRS.out, ← HV.out]
              refine ⟨rfl, (HK3.out.trans (hka.mono (fun _ h => .inl h))).trans (h X (fun b hb => ⟨?_, (HXP.out b hb).1, (HXP.out b hb).2⟩))⟩
              have l1 := HX.out b hb
              have l2 := hka.size
              have l3 := HP.out.lt
              omega
          | ok k1 =>
            have hk1 := skipF_ok _ _ _ (by omega) hps2 hk
            simp only [hk] at CS HV
            clear hk
            have hg3 : RG s { r2 with pos := k1 } bs2 := ⟨hg2.ri.move (by have := hg2.ri.told; omega) hk1.2.1, by have := hg2.few; simp only; omega, hg2.brk⟩
            have HG3 := Lib.hid hg3
            have HCM3 := Lib.hid hk1.2.2
            have hprog : r1.pos < k1 := by omega
            clear hg3 hg2 hk1
            go_wp2_with fail
            refine CN.out.mono ?_
            rintro e w6 ⟨rfl, n1, rfl⟩
            go_simp
            rcases hK9 with rfl | rfl | rfl | rfl | rfl | rfl | rfl | rfl | rfl
            all_goals
              go_wp2_with fail
              refine (CT.out _).mono ?_
              rintro e w7 ⟨rfl, h7, k7⟩
              have H7 := Lib.hid h7
              have HKA := Lib.hid ((HK.out.drewN n1).trans k7)
              clear h7 k7
              go_simp
              go_wp2_with fail
              refine (CS.out _ H7.out).mono ?_
              rintro e w8 ⟨rfl, h8, k8⟩
              have H8 := Lib.hid h8
              have HKB := Lib.hid (HKA.out.trans k8)
              clear h8 k8
              go_simp
              go_wp2_with fail
              go_roundg g'
              case rel => exact ⟨{ r2 with pos := k1 }, bs2, by simp only; omega, HG3.out, HCM3.out, H8.out, HKB.out, HV.out⟩
              case measure => omega
      · rw [if_neg hlt] at hV'
        have HV := Lib.hid hV'
        have q1 : ¬ (r1.pos : Int) < (s.size : Int) := by omega
        cases bs1 with
        | nil =>
          obtain ⟨va, vc, rfl⟩ := row_len ho
          simp only [List.length_nil] at *
          have d3 : wr.cell? ⟨rb, 3, none⟩ = some (.slice va 0 vc) := b1.cell 3
          obtain ⟨oa, oc, rfl⟩ := row_len b2
          have d2 : wr.cell? ⟨rb, 2, none⟩ = some (.slice oa r1.out.length oc) := b1.cell 2
          have hpB := hK.bl (.inr (.inl rfl)) HP.out
          have hqB := hK.bl (.inr (.inr rfl)) HQ.out
          have p0 : wr.cell? ⟨p, 0, none⟩ = some (.slice none 0 0) := hpB.cell 0
          have f0 := hpB.froz 0
          have e1 : wr.cell? ⟨q, 0, none⟩ = some (.int .i64 0) := hqB.cell 0
          have f1 := hqB.froz 0
          have e2 : wr.cell? ⟨q, 1, none⟩ = some (.int .i64 0) := hqB.cell 1
          have f2 := hqB.froz 1
          have hpq := HPQ.out
          have HPB := Lib.hid hpB
          have HQB := Lib.hid hqB
          have H2 := Lib.hid b2
          have H4 := Lib.hid b4
          clear hR hK hV hV' hg hcm hr ho hx b1 b2 b4 ao d0 hpB hqB
          go_wp2_with fail
          have hfin := lay_finish (X := X) (v := .slice oa r1.out.length oc) HPB.out HQB.out HPQ.out H2.out (H4.out p (.inl (.inr (.inl rfl)))).2.2 (H4.out q (.inl (.inr (.inr rfl)))).2.2 (fun b hb => ⟨(HXP.out b hb).1, (HXP.out b hb).2, (H4.out b (.inl (.inl hb))).1⟩)
          have HFIN := Lib.hid hfin
          refine doorR_ret (by rfl) (by rfl) (v := .slice oa r1.out.length oc) hfin.1 hfin.2.1 (fun w' h => ?_)
          rw [HRS.out, ← HV.out]
          obtain ⟨f1, f2⟩ := HFIN.out.2.2 w' h
          exact ⟨_, rfl, f1, (HK3.out.trans (HK.out.mono (fun _ h => .inl h))).trans f2, fun b hb => (H4.out b (.inl (.inl hb))).2.2⟩
        | cons b rest =>
          obtain ⟨g, cap, rfl, k0, k1, k2⟩ := brk_cells ho
          have d3 : wr.cell? ⟨rb, 3, none⟩ = some (.slice (some ⟨g, 0, none⟩) (rest.length + 1) cap) := b1.cell 3
          have hrest : rest.length ≤ 63 := by have := hg.brk; simp at this; omega
          clear hR hK hV hV' hg hcm hr ho hx b1 b2 b4 ao d0
          obtain ⟨bm, bp, bl⟩ := b
          simp only at k1
          generalize hrl : rest.length = n at *
          clear hrl
          have hq1 : IntKind.i64.wrap (n : Int) = (n : Int) := by rw [IntKind.wrap_i64]; omega
          have hq4 : IntKind.i64.wrap ((n : Int) + 1 - 1) = (n : Int) := by rw [IntKind.wrap_i64]; omega
          have hq2 : (0 : Int) ≤ (n : Int) := by omega
          have hq3 : (n : Int) < (n : Int) + 1 := by omega
          have hq5 : (0 : Int) < (n : Int) + 1 := by omega
          go_wp2_with fail
          refine (fail_any _ _ _).mono ?_
          rintro e w6 ⟨rfl, rfl⟩
          have hka := HK.out
          refine doorR_panic (by rfl) (by rfl) (hka.bl (.inr (.inl rfl)) HP.out) (hka.bl (.inr (.inr rfl)) HQ.out) HPQ.out (fun w' h => ?_)
          rw [HRS.out, ← HV.out]
          refine ⟨rfl, (HK3.out.trans (hka.mono (fun _ h => .inl h))).trans (h X (fun b hb => ⟨?_, (HXP.out b hb).1, (HXP.out b hb).2⟩))⟩
          have l1 := HX.out b hb
          have l2 := hka.size
          have l3 := HP.out.lt
          omega

theorem raw_any (X : Nat → Prop) (w : World) (s : ByteArray) (hX : ∀ b, X b → b < w.heap.size) (htb : Tab w) (hx0 : X 0) :
    Calls Tryd.prog 7 #[.string s] w (LayRes X w (rawF s)) := by
  cases hc : bytesF s with
  | some f =>
    have e : rawF s = .error f := by simp only [rawF, hc]
    rw [e]
    exact raw_bad X w s hX f hc
  | none =>
    have e : rawF s = rawFin (rawS s) := by simp only [rawF, hc]
    rw [e]
    exact raw_run X w s hX htb hx0 hc
end Go.Proofs.YtpgcklpcohcchaaDoor
