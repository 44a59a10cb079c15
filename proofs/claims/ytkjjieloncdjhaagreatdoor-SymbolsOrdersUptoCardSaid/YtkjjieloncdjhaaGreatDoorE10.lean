/- Check: a field. -/
import Derived.Test.YtkjjieloncdjhaaGreatDoorE5
namespace Go.Proofs.YtkjjieloncdjhaaGreatDoor
open Go Go.RowKit

set_option maxRecDepth 100000 in
set_option maxHeartbeats 8000000 in
theorem checkField_all (L k : Nat) (ca ma fa ta ya : Option Addr) (cn mn fn tn yn cc mc fc tc yc : Nat) (mi : Int) (w : World) (_ : cn ≤ 1048576) (_ : mn ≤ 1048576) (_ : fn ≤ 1048576) (_ : tn ≤ 1048576) (_ : yn ≤ 1048576) (hk : k < fn) (hP : PrgR L w ca ma fa ta ya cn mn fn tn yn) :
    Calls Tryz.prog 93 #[.agg #[.slice ca cn cc, .slice ma mn mc, .slice fa fn fc, .slice ta tn tc, .slice ya yn yc, .int .i64 mi], .int .i64 k] w fun e w' => (∃ z : Int, e = .returned (.int .i64 z)) ∧ Below w.heap.size w w' := by
  obtain ⟨b2, o2, ⟨xn, xo, xf, xt, xat⟩, hA, hOk⟩ := hP.fi.2 k hk
  have hnm := hOk.nm
  obtain rfl := hA.ad
  clear hOk
  dsimp only at hnm
  have HPR := Lib.hid hP
  have hB0 := Bl.new w 30 [.slice ca cn cc, .slice ma mn mc, .slice (some ⟨b2, o2, none⟩) fn fc, .slice ta tn tc, .slice ya yn yc, .int .i64 mi]
  have hB2 := Bl.new (w.alloc (.cells #[.slice ca cn cc, .slice ma mn mc, .slice (some ⟨b2, o2, none⟩) fn fc, .slice ta tn tc, .slice ya yn yc, .int .i64 mi] 30)) 74 [.string xn, .int .i64 xo, .int .i64 xf, .int .i64 xt.k, .int .i64 xt.s, .string xt.n, .int .i64 xt.u, .slice xt.a xt.l xt.c, .int .i64 xat]
  rw [World.size_alloc] at hB2
  have HPb := Lib.hid (hB0.alloc (.cells #[.string xn, .int .i64 xo, .int .i64 xf, .int .i64 xt.k, .int .i64 xt.s, .string xt.n, .int .i64 xt.u, .slice xt.a xt.l xt.c, .int .i64 xat] 74))
  have HCb := Lib.hid hB2
  have HB1 := Lib.hid ((Below.refl w.heap.size w).alloc (Nat.le_refl _) (.cells #[.slice ca cn cc, .slice ma mn mc, .slice (some ⟨b2, o2, none⟩) fn fc, .slice ta tn tc, .slice ya yn yc, .int .i64 mi] 30))
  have HB2 := Lib.hid (HB1.out.alloc (by simp) (.cells #[.string xn, .int .i64 xo, .int .i64 xf, .int .i64 xt.k, .int .i64 xt.s, .string xt.n, .int .i64 xt.u, .slice xt.a xt.l xt.c, .int .i64 xat] 74))
  have HBw : Hid (∀ W', Below (w.heap.size + 1 + 1) ((w.alloc (.cells #[.slice ca cn cc, .slice ma mn mc, .slice (some ⟨b2, o2, none⟩) fn fc, .slice ta tn tc, .slice ya yn yc, .int .i64 mi] 30)).alloc (.cells #[.string xn, .int .i64 xo, .int .i64 xf, .int .i64 xt.k, .int .i64 xt.s, .string xt.n, .int .i64 xt.u, .slice xt.a xt.l xt.c, .int .i64 xat] 74)) W' → Below w.heap.size w W') := Lib.hid (fun W' hB => HB2.out.trans (hB.mono (by omega)))
  have HB_W := Lib.hid (Below.refl (w.heap.size + 1 + 1) ((w.alloc (.cells #[.slice ca cn cc, .slice ma mn mc, .slice (some ⟨b2, o2, none⟩) fn fc, .slice ta tn tc, .slice ya yn yc, .int .i64 mi] 30)).alloc (.cells #[.string xn, .int .i64 xo, .int .i64 xf, .int .i64 xt.k, .int .i64 xt.s, .string xt.n, .int .i64 xt.u, .slice xt.a xt.l xt.c, .int .i64 xat] 74)))
  have hsW : ((w.alloc (.cells #[.slice ca cn cc, .slice ma mn mc, .slice (some ⟨b2, o2, none⟩) fn fc, .slice ta tn tc, .slice ya yn yc, .int .i64 mi] 30)).alloc (.cells #[.string xn, .int .i64 xo, .int .i64 xf, .int .i64 xt.k, .int .i64 xt.s, .string xt.n, .int .i64 xt.u, .slice xt.a xt.l xt.c, .int .i64 xat] 74)).heap.size = w.heap.size + 1 + 1 := by simp
  have hlt0 : w.heap.size < w.heap.size + 1 + 1 := by omega
  have hlt1 : w.heap.size + 1 < w.heap.size + 1 + 1 := by omega
  have qq := hB0.cell 2
  simp only [List.getElem?_cons_zero, List.getElem?_cons_succ] at qq
  have d0 := HCb.out.cell 0
  simp only [List.getElem?_cons_zero] at d0
  have hAA := hA.og (og_of_below HB1.out)
  obtain ⟨-, -, -, k0, k1, k2, k3, k4, k5, k6, k7, k8⟩ := hAA
  dsimp only at k0 k1 k2 k3 k4 k5 k6 k7 k8
  have d2 := HCb.out.cell 2
  simp only [List.getElem?_cons_zero, List.getElem?_cons_succ] at d2
  clear hB2 hB0 hP hA HB2
  go_enter Tryz.func93, Tryz.ntmps93
  have hmx : Tryz.prog.follows .mixedOrders = true := by kernel_rfl
  go_upto_region 2 with fail
  clear k0 k1 k2 k3 k4 k5 k6 k7 k8 qq d0
  generalize hW : ((w.alloc (.cells #[.slice ca cn cc, .slice ma mn mc, .slice (some ⟨b2, o2, none⟩) fn fc, .slice ta tn tc, .slice ya yn yc, .int .i64 mi] 30)).alloc (.cells #[.string xn, .int .i64 xo, .int .i64 xf, .int .i64 xt.k, .int .i64 xt.s, .string xt.n, .int .i64 xt.u, .slice xt.a xt.l xt.c, .int .i64 xat] 74)) = W at *
  clear hW
  refine anyC_region (c := 7) (S := (fun w' : World => w'.cell? ⟨w.heap.size + 1, 2, none⟩ = some (.int .i64 xf))) hmx ?_
  have hS1 : (fun w' : World => w'.cell? ⟨w.heap.size + 1, 2, none⟩ = some (.int .i64 xf)) W.drew := d2
  refine anyC_take0 (i := 0) (v := ?_) (some 13) (by rfl) rfl (by kernel_rfl) (by kernel_rfl) (by kernel_rfl) (fun _ _ _ h => h) (Or.inl ⟨by rfl, ?_⟩) (by decide) (Or.inr (by assumption)) ?_
  rotate_left
  · (intro w; go_simp; try with_reducible rfl)
  (try simp only [Act.put, List.setIfInBounds_toArray, List.set_cons_zero, List.set_cons_succ])
  refine anyC_take0 (i := 3) (v := ?_) (some 16) (by rfl) rfl (by kernel_rfl) (by kernel_rfl) (by kernel_rfl) (fun _ _ _ h => h) (Or.inl ⟨by rfl, ?_⟩) (by decide) (Or.inr (by assumption)) ?_
  rotate_left
  · (intro w; go_simp; try with_reducible rfl)
  (try simp only [Act.put, List.setIfInBounds_toArray, List.set_cons_zero, List.set_cons_succ])
  refine anyC_take (i := 1) (v := ?_) (some 14) (by rfl) rfl (by kernel_rfl) (by kernel_rfl) (by kernel_rfl) (by kernel_rfl) (by kernel_rfl) (fun _ _ _ h => h) (Or.inl ⟨by rfl, ?_⟩) (by assumption) ?_
  rotate_left
  · (intro w hSw; (try dsimp only at hSw); go_simp; try with_reducible rfl)
  (try simp only [Act.put, List.setIfInBounds_toArray, List.set_cons_zero, List.set_cons_succ])
  refine anyC_take (i := 4) (v := ?_) (some 17) (by rfl) rfl (by kernel_rfl) (by kernel_rfl) (by kernel_rfl) (by kernel_rfl) (by kernel_rfl) (fun _ _ _ h => h) (Or.inl ⟨by rfl, ?_⟩) (by assumption) ?_
  rotate_left
  · (intro w hSw; (try dsimp only at hSw); go_simp; try with_reducible rfl)
  (try simp only [Act.put, List.setIfInBounds_toArray, List.set_cons_zero, List.set_cons_succ])
  refine anyC_one (i := 2) (by kernel_rfl) rfl (by rfl) (fun K hK => ?_)
  go_simp
  refine (has_any _ _ _).mono ?_
  rintro e w' ⟨rfl, rfl⟩
  refine hK.out _ _ (.inr (.inr hS1)) ?_
  clear hK K
  (try simp only [Act.put, List.setIfInBounds_toArray, List.set_cons_zero, List.set_cons_succ])
  refine anyC_one (i := 5) (by kernel_rfl) rfl (by rfl) (fun K hK => ?_)
  go_simp
  refine (has_any _ _ _).mono ?_
  rintro e w' ⟨rfl, rfl⟩
  refine hK.out _ _ (.inr (.inr hS1)) ?_
  clear hK K
  (try simp only [Act.put, List.setIfInBounds_toArray, List.set_cons_zero, List.set_cons_succ])
  refine anyC_one (i := 6) (by kernel_rfl) rfl (by rfl) (fun K hK => ?_)
  go_simp
  refine hK.out _ _ (.inr (.inr hS1)) ?_
  clear hK K
  (try simp only [Act.put, List.setIfInBounds_toArray, List.set_cons_zero, List.set_cons_succ])
  refine anyC_one (i := 7) (by kernel_rfl) rfl (by rfl) (fun K hK => ?_)
  go_simp
  refine hK.out _ _ (.inl rfl) ?_
  apply anyC_end
  rotate_left
  · kernel_rfl
  have HB_D := Lib.hid HB_W.out.drew
  clear hS1 d2
  generalize hD : W.drew = D at *
  clear hD
  have hz_D : w.heap.size + 1 + 1 ≤ D.heap.size := by have := HB_D.out.size; omega
  obtain ⟨q0, q1, q2, q3, q4, q5⟩ := ((HPb.out.below HB_D.out hlt0).six)
  have c0 := (HCb.out.below HB_D.out hlt1).cell 0
  have c1 := (HCb.out.below HB_D.out hlt1).cell 1
  have c2 := (HCb.out.below HB_D.out hlt1).cell 2
  have c3 := (HCb.out.below HB_D.out hlt1).cell 3
  have c4 := (HCb.out.below HB_D.out hlt1).cell 4
  have c5 := (HCb.out.below HB_D.out hlt1).cell 5
  have c6 := (HCb.out.below HB_D.out hlt1).cell 6
  have c7 := (HCb.out.below HB_D.out hlt1).cell 7
  have c8 := (HCb.out.below HB_D.out hlt1).cell 8
  simp only [List.getElem?_cons_zero, List.getElem?_cons_succ] at c0 c1 c2 c3 c4 c5 c6 c7 c8
  go_wp2_with fail
  refine (name_some xn _ hnm).mono ?_
  rintro e w1 ⟨⟨r1, rfl⟩, hB'⟩
  have HB_w1 := Lib.hid (HB_D.out.trans (hB'.mono hz_D))
  clear hB'
  clear q0 q1 q2 q3 q4 q5 c0 c1 c2 c3 c4 c5 c6 c7 c8
  have hz_w1 : w.heap.size + 1 + 1 ≤ w1.heap.size := by have := HB_w1.out.size; omega
  obtain ⟨q0, q1, q2, q3, q4, q5⟩ := ((HPb.out.below HB_w1.out hlt0).six)
  have c0 := (HCb.out.below HB_w1.out hlt1).cell 0
  have c1 := (HCb.out.below HB_w1.out hlt1).cell 1
  have c2 := (HCb.out.below HB_w1.out hlt1).cell 2
  have c3 := (HCb.out.below HB_w1.out hlt1).cell 3
  have c4 := (HCb.out.below HB_w1.out hlt1).cell 4
  have c5 := (HCb.out.below HB_w1.out hlt1).cell 5
  have c6 := (HCb.out.below HB_w1.out hlt1).cell 6
  have c7 := (HCb.out.below HB_w1.out hlt1).cell 7
  have c8 := (HCb.out.below HB_w1.out hlt1).cell 8
  simp only [List.getElem?_cons_zero, List.getElem?_cons_succ] at c0 c1 c2 c3 c4 c5 c6 c7 c8
  cases r1
  · go_wp2_with fail
    go_ret
    exact ⟨⟨_, rfl⟩, HBw.out _ HB_w1.out⟩
  · cases hv : hasF xf 128 <;> cases hl : hasF xf 256 <;> cases h5 : hasF xf 512
    all_goals
      go_wp2_with (first | (go_at_call 101; refine (has_any _ _ _).mono ?_; rintro e w' ⟨rfl, rfl⟩) | fail)
    all_goals
      first
      | (go_ret; exact ⟨⟨_, rfl⟩, HBw.out _ HB_w1.out⟩)
      | skip
    all_goals
      cases hin : inR cn xo
      · refine (exists_is _ cn _ _ false hin _).mono ?_
        rintro e w' ⟨rfl, rfl⟩
        go_wp2_with fail
        go_ret
        exact ⟨⟨_, rfl⟩, HBw.out _ HB_w1.out⟩
      · refine (exists_is _ cn _ _ true hin _).mono ?_
        rintro e w' ⟨rfl, rfl⟩
        have hin' := inR_iff.1 hin
        obtain ⟨m, rfl⟩ : ∃ m : Nat, xo = (m : Int) := ⟨xo.toNat, by omega⟩
        have hmI : (m : Int) < (cn : Int) := by omega
        obtain ⟨bc, oc, y, hAy, hOy⟩ := (HPR.out.below (HBw.out _ HB_w1.out)).cl.2 m (by omega)
        obtain ⟨q, hNq⟩ := NumL.of hOy.nfi
        obtain ⟨q2, hNq2⟩ := NumL.of hOy.npa
        have kk := hAy.k7
        have kk2 := hAy.k6
        have eC := hAy.ad
        rw [eC] at q0
        have hyl := hOy.fi
        have hyl2 := hOy.pa
        have HNq := Lib.hid hNq
        have HNq2 := Lib.hid hNq2
        clear hAy hOy hNq hNq2 eC
        go_wp2_with fail
        refine (contains_any _ _ _ q (k : Int) _ hyl HNq.out.nums).mono ?_
        rintro e w' ⟨rfl, rfl⟩
        generalize decide ((k : Int) ∈ q) = rb
        cases rb
        · go_wp2_with fail
          go_ret
          exact ⟨⟨_, rfl⟩, HBw.out _ HB_w1.out⟩
        · go_wp2_with fail
          all_goals
            first
            | (go_ret; exact ⟨⟨_, rfl⟩, HBw.out _ HB_w1.out⟩)
            | (refine (contains_any _ _ _ q2 (k : Int) _ hyl2 HNq2.out.nums).mono ?_
               rintro e w' ⟨rfl, rfl⟩
               generalize decide ((k : Int) ∈ q2) = rb2
               cases rb2
               · go_wp2_with fail
                 go_ret
                 exact ⟨⟨_, rfl⟩, HBw.out _ HB_w1.out⟩
               · go_wp2_with fail
                 go_ret
                 exact ⟨⟨_, rfl⟩, HBw.out _ HB_w1.out⟩)
end Go.Proofs.YtkjjieloncdjhaaGreatDoor
