/- SymbolsFinds: the walk. -/
import Derived.Test.YtjhedehhanaokaaGreatDoorF14
import Derived.Test.YtjhedehhanaokaaGreatDoorL21
import Derived.Test.YtjhedehhanaokaaGreatDoorC
import Derived.BigQuiet
namespace Go.Proofs.YtjhedehhanaokaaGreatDoor
open Go Go.RowKit

set_option maxRecDepth 100000 in
set_option maxHeartbeats 8000000 in
theorem finds_any (ow a0 b0 : Int) (ca ma fa ta ya : Option Addr) (cn mn fn tn yn cc mc fc tc yc : Nat) (mi : Int) (w : World)
    (hc : ∀ L, w.heap.size ≤ L → ClRow L w ca cn) (hm : ∀ L, w.heap.size ≤ L → MeRow L w ma mn) (hf : ∀ L, w.heap.size ≤ L → FiRow L w fa fn) (ht : ∀ L, w.heap.size ≤ L → TpRow L w ta tn) (hy : ∀ L, w.heap.size ≤ L → TmRow L w ya yn) :
    Calls Tryz.prog 4 #[.agg #[.slice ca cn cc, .slice ma mn mc, .slice fa fn fc, .slice ta tn tc, .slice ya yn yc, .int .i64 mi], .int .i64 ow, .agg #[.int .i64 a0, .int .i64 b0]] w fun e W' => e = .returned (.bool true) ∧ Below w.heap.size w W' := by
  have hn := (hc w.heap.size (Nat.le_refl _)).1
  obtain ⟨xs, HX⟩ : ∃ xs : Nat → ClC, ∀ i, i < cn → ∃ b o, ClAt w w.heap.size ca i b o (xs i) := by
    have h := (hc w.heap.size (Nat.le_refl _)).2
    refine ⟨fun i => if hi : i < cn then Classical.choose (Classical.choose_spec (Classical.choose_spec (h i hi))) else ⟨⟨#[]⟩, 0, 0, 0, ⟨none, 0, 0⟩, ⟨none, 0, 0⟩, ⟨none, 0, 0⟩, ⟨none, 0, 0⟩, ⟨none, 0, 0⟩, ⟨none, 0, 0⟩, ⟨none, 0, 0⟩, ⟨none, 0, 0⟩, 0⟩, fun i hi => ?_⟩
    refine ⟨Classical.choose (h i hi), Classical.choose (Classical.choose_spec (h i hi)), ?_⟩
    simp only [dif_pos hi]
    exact (Classical.choose_spec (Classical.choose_spec (Classical.choose_spec (h i hi)))).1
  have F := Lib.hid (((Frs.nil w).snoc (by simp) 30 [.slice ca cn cc, .slice ma mn mc, .slice fa fn fc, .slice ta tn tc, .slice ya yn yc, .int .i64 mi]).snoc (by simp) 31 [.int .i64 a0, .int .i64 b0])
  have oF : ∀ L, w.heap.size ≤ L → Og L w ((w.alloc (.cells #[.slice ca cn cc, .slice ma mn mc, .slice fa fn fc, .slice ta tn tc, .slice ya yn yc, .int .i64 mi] 30)).alloc (.cells #[.int .i64 a0, .int .i64 b0] 31)) := fun L _ => ((Og.refl L w).alloc _).alloc _
  have hsz : ((w.alloc (.cells #[.slice ca cn cc, .slice ma mn mc, .slice fa fn fc, .slice ta tn tc, .slice ya yn yc, .int .i64 mi] 30)).alloc (.cells #[.int .i64 a0, .int .i64 b0] 31)).heap.size = w.heap.size + 1 + 1 := by simp
  have hfew := few_any ca ma fa ta ya cn mn fn tn yn cc mc fc tc yc mi ((w.alloc (.cells #[.slice ca cn cc, .slice ma mn mc, .slice fa fn fc, .slice ta tn tc, .slice ya yn yc, .int .i64 mi] 30)).alloc (.cells #[.int .i64 a0, .int .i64 b0] 31)) ((hc _ (by simp; omega)).og (oF _ (by simp; omega))) ((hm _ (by simp; omega)).og (oF _ (by simp; omega))) ((hf _ (by simp; omega)).og (oF _ (by simp; omega))) ((ht _ (by simp; omega)).og (oF _ (by simp; omega))) ((hy _ (by simp; omega)).og (oF _ (by simp; omega)))
  rw [hsz] at hfew
  have HFew := Lib.hid hfew
  clear hfew
  have HX2 : Hid (∀ W', Below (w.heap.size + 1 + 1) ((w.alloc (.cells #[.slice ca cn cc, .slice ma mn mc, .slice fa fn fc, .slice ta tn tc, .slice ya yn yc, .int .i64 mi] 30)).alloc (.cells #[.int .i64 a0, .int .i64 b0] 31)) W' → ∀ i, i < cn → ∃ b o, ClAt W' w.heap.size ca i b o (xs i)) := Lib.hid (fun W' hB i hi => by
    obtain ⟨b, o, hA⟩ := HX i hi
    exact ⟨b, o, (hA.below F.out.be hA.lt).below hB (by have := hA.lt; omega)⟩)
  have HBw : Hid (∀ W', Below (w.heap.size + 1 + 1) ((w.alloc (.cells #[.slice ca cn cc, .slice ma mn mc, .slice fa fn fc, .slice ta tn tc, .slice ya yn yc, .int .i64 mi] 30)).alloc (.cells #[.int .i64 a0, .int .i64 b0] 31)) W' → Below w.heap.size w W') := Lib.hid (fun W' hB => F.out.be.trans (hB.mono (by omega)))
  have HS : Hid (∀ W', Below (w.heap.size + 1 + 1) ((w.alloc (.cells #[.slice ca cn cc, .slice ma mn mc, .slice fa fn fc, .slice ta tn tc, .slice ya yn yc, .int .i64 mi] 30)).alloc (.cells #[.int .i64 a0, .int .i64 b0] 31)) W' → (fun w' : World => w'.cell? ⟨w.heap.size, 0, none⟩ = some (.slice ca cn cc) ∧ w'.cell? ⟨w.heap.size, 1, none⟩ = some (.slice ma mn mc) ∧ w'.cell? ⟨w.heap.size, 2, none⟩ = some (.slice fa fn fc) ∧ w'.cell? ⟨w.heap.size, 3, none⟩ = some (.slice ta tn tc) ∧ w'.cell? ⟨w.heap.size, 4, none⟩ = some (.slice ya yn yc) ∧ w'.cell? ⟨w.heap.size, 5, none⟩ = some (.int .i64 mi)) W') := Lib.hid (fun W' hB => by
    have h := (F.out.bl 0 _ _ rfl).below hB (by omega)
    exact ⟨h.cell 0, h.cell 1, h.cell 2, h.cell 3, h.cell 4, h.cell 5⟩)
  have HQ : Hid (∀ W', Below (w.heap.size + 1 + 1) ((w.alloc (.cells #[.slice ca cn cc, .slice ma mn mc, .slice fa fn fc, .slice ta tn tc, .slice ya yn yc, .int .i64 mi] 30)).alloc (.cells #[.int .i64 a0, .int .i64 b0] 31)) W' → W'.cell? ⟨w.heap.size + 1, 0, none⟩ = some (.int .i64 a0)) := Lib.hid (fun W' hB => ((F.out.bl 1 _ _ rfl).below hB (by omega)).cell 0)
  have hmx : Tryz.prog.follows .mixedOrders = true := by kernel_rfl
  clear hc hm hf ht hy oF HX
  go_enter Tryz.func4, Tryz.ntmps4
  go_upto_region 2 with fail
  generalize (b0.tmod 2 == 0) = ob
  clear F
  generalize hW : (w.alloc (.cells #[.slice ca cn cc, .slice ma mn mc, .slice fa fn fc, .slice ta tn tc, .slice ya yn yc, .int .i64 mi] 30)).alloc (.cells #[.int .i64 a0, .int .i64 b0] 31) = S0 at *
  clear hW
  have hS0 : w.heap.size + 1 + 1 ≤ S0.heap.size := by omega
  obtain ⟨p0, p1, p2, p3, p4, p5⟩ := HS.out S0 (Below.refl _ _)
  go_wp2_with fail
  clear p0 p1 p2 p3 p4 p5
  refine HFew.out.mono ?_
  rintro e w1 ⟨⟨r, rfl⟩, hB⟩
  have HB := Lib.hid hB
  have hs1 : w.heap.size + 1 + 1 ≤ w1.heap.size := by have := hB.size; omega
  obtain ⟨p0, p1, p2, p3, p4, p5⟩ := HS.out w1 HB.out
  have q0 := HQ.out w1 HB.out
  clear hB HFew
  cases r
  · go_wp2_with fail
    refine (awake_any _).mono ?_
    rintro e w2 ⟨rfl, hB2⟩
    have HB2 := Lib.hid (HBw.out w2 (HB.out.trans (hB2.mono hs1)))
    clear hB2
    go_wp2_with fail
    go_ret
    exact ⟨rfl, HB2.out⟩
  · by_cases hz : 0 < cn
    · have qz : (0 : Int) < (cn : Int) := by omega
      by_cases hneg : 0 ≤ a0
      · have hm0 : 0 ≤ a0.tmod (cn : Int) := Int.tmod_nonneg _ hneg
        have hm1 : a0.tmod (cn : Int) < (cn : Int) := Int.tmod_lt_of_pos _ qz
        obtain ⟨k, hk⟩ : ∃ k : Nat, a0.tmod (cn : Int) = (k : Int) := ⟨(a0.tmod (cn : Int)).toNat, by omega⟩
        have hk0 : (0 : Int) ≤ (k : Int) := by omega
        have hk1 : (k : Int) < (cn : Int) := by omega
        have hkn : k < cn := by omega
        have hcz : ((cn : Int) == 0) = false := by simp; omega
        have hcz' : ¬ (cn : Int) = 0 := by omega
        obtain ⟨b, o, hA⟩ := HX2.out w1 HB.out k hkn
        have a0' := hA.k0
        have a1' := hA.lt
        have hAd := hA.ad
        subst hAd
        clear hA
        go_wp2_with fail
        go_quiet (fail)
        go_wp2_with fail
        have HB' := Lib.hid (show Below (w.heap.size + 1 + 1) S0 (w1.drewN nq) from ⟨HB.out.os, HB.out.tape, HB.out.output, HB.out.size, HB.out.block⟩)
        clear HB p0 p1 p2 p3 p4 p5 q0 a0' a1'
        have HB := HB'
        clear HB'
        obtain ⟨p0, p1, p2, p3, p4, p5⟩ := HS.out _ HB.out
        refine anyC_region (c := 14) (S := (fun w' : World => w'.cell? ⟨w.heap.size, 0, none⟩ = some (.slice (some ⟨b, o, none⟩) cn cc) ∧ w'.cell? ⟨w.heap.size, 1, none⟩ = some (.slice ma mn mc) ∧ w'.cell? ⟨w.heap.size, 2, none⟩ = some (.slice fa fn fc) ∧ w'.cell? ⟨w.heap.size, 3, none⟩ = some (.slice ta tn tc) ∧ w'.cell? ⟨w.heap.size, 4, none⟩ = some (.slice ya yn yc) ∧ w'.cell? ⟨w.heap.size, 5, none⟩ = some (.int .i64 mi))) hmx ?_
        have hSS0 := HS.out _ HB.out.drew
        refine anyC_one (i := 0) (by kernel_rfl) rfl (by rfl) (fun K hK => ?_)
        go_simp
        refine (awake_any _).mono ?_
        rintro e w2 ⟨rfl, hB2⟩
        have HB2 := Lib.hid (HB.out.drew.trans (hB2.mono hs1))
        have hS1 := HS.out w2 HB2.out
        clear hB2
        refine hK.out _ _ (.inr (.inr hS1)) ?_
        clear hK K
        (try simp only [Act.put, List.setIfInBounds_toArray, List.set_cons_zero, List.set_cons_succ])
        refine anyC_one (i := 1) (by kernel_rfl) rfl (by rfl) (fun K hK => ?_)
        go_simp
        refine hK.out _ _ (.inr (.inr hS1)) ?_
        clear hK K
        (try simp only [Act.put, List.setIfInBounds_toArray, List.set_cons_zero, List.set_cons_succ])
        refine anyC_take (i := 2) (v := ?_) (some 39) (by rfl) rfl (by kernel_rfl) (by kernel_rfl) (by kernel_rfl) (by kernel_rfl) (by kernel_rfl) (fun _ _ _ h => h) (Or.inl ⟨by rfl, ?_⟩) (by assumption) ?_
        rotate_left
        · (intro w hSw; (try dsimp only at hSw); go_simp; try with_reducible rfl)
        (try simp only [Act.put, List.setIfInBounds_toArray, List.set_cons_zero, List.set_cons_succ])
        refine anyC_take0 (i := 3) (v := ?_) (some 40) (by rfl) rfl (by kernel_rfl) (by kernel_rfl) (by kernel_rfl) (fun _ _ _ h => h) (Or.inl ⟨by rfl, ?_⟩) (by decide) (Or.inr (by assumption)) ?_
        rotate_left
        · (intro w; go_simp; try with_reducible rfl)
        (try simp only [Act.put, List.setIfInBounds_toArray, List.set_cons_zero, List.set_cons_succ])
        refine anyC_take0 (i := 4) (v := ?_) (some 41) (by rfl) rfl (by kernel_rfl) (by kernel_rfl) (by kernel_rfl) (fun _ _ _ h => h) (Or.inl ⟨by rfl, ?_⟩) (by decide) (Or.inr (by assumption)) ?_
        rotate_left
        · (intro w; go_simp; try with_reducible rfl)
        (try simp only [Act.put, List.setIfInBounds_toArray, List.set_cons_zero, List.set_cons_succ])
        refine anyC_take0 (i := 5) (v := ?_) (some 42) (by rfl) rfl (by kernel_rfl) (by kernel_rfl) (by kernel_rfl) (fun _ _ _ h => h) (Or.inl ⟨by rfl, ?_⟩) (by decide) (Or.inr (by assumption)) ?_
        rotate_left
        · (intro w; go_simp; try with_reducible rfl)
        (try simp only [Act.put, List.setIfInBounds_toArray, List.set_cons_zero, List.set_cons_succ])
        refine anyC_take (i := 7) (v := ?_) (some 44) (by rfl) rfl (by kernel_rfl) (by kernel_rfl) (by kernel_rfl) (by kernel_rfl) (by kernel_rfl) (fun _ _ _ h => h) (Or.inl ⟨by rfl, ?_⟩) (by assumption) ?_
        rotate_left
        · (intro w hSw; (try dsimp only at hSw); go_simp; try with_reducible rfl)
        (try simp only [Act.put, List.setIfInBounds_toArray, List.set_cons_zero, List.set_cons_succ])
        refine anyC_take0 (i := 8) (v := ?_) (some 45) (by rfl) rfl (by kernel_rfl) (by kernel_rfl) (by kernel_rfl) (fun _ _ _ h => h) (Or.inl ⟨by rfl, ?_⟩) (by decide) (Or.inr (by assumption)) ?_
        rotate_left
        · (intro w; go_simp; try with_reducible rfl)
        (try simp only [Act.put, List.setIfInBounds_toArray, List.set_cons_zero, List.set_cons_succ])
        refine anyC_take0 (i := 9) (v := ?_) (some 46) (by rfl) rfl (by kernel_rfl) (by kernel_rfl) (by kernel_rfl) (fun _ _ _ h => h) (Or.inl ⟨by rfl, ?_⟩) (by decide) (Or.inr (by assumption)) ?_
        rotate_left
        · (intro w; go_simp; try with_reducible rfl)
        (try simp only [Act.put, List.setIfInBounds_toArray, List.set_cons_zero, List.set_cons_succ])
        refine anyC_take0 (i := 10) (v := ?_) (some 47) (by rfl) rfl (by kernel_rfl) (by kernel_rfl) (by kernel_rfl) (fun _ _ _ h => h) (Or.inl ⟨by rfl, ?_⟩) (by decide) (Or.inr (by assumption)) ?_
        rotate_left
        · (intro w; go_simp; try with_reducible rfl)
        (try simp only [Act.put, List.setIfInBounds_toArray, List.set_cons_zero, List.set_cons_succ])
        refine anyC_one (i := 6) (by kernel_rfl) rfl (by rfl) (fun K hK => ?_)
        go_simp
        refine (find_any w.heap.size ow (xs k).nm ob xs (some ⟨b, o, none⟩) ma fa ta ya cn mn fn tn yn cc mc fc tc yc mi w2 hn (HX2.out w2 HB2.out)).mono ?_
        rintro e w3 ⟨⟨z1, rfl, hz1⟩, hB3⟩
        have HB3 := Lib.hid (HB2.out.trans (hB3.mono (Nat.le_trans hS0 HB2.out.size)))
        have HZ1 := Lib.hid hz1
        have hS2 := HS.out w3 HB3.out
        clear hB3 hz1
        refine hK.out _ _ (.inr (.inr hS2)) ?_
        clear hK K
        (try simp only [Act.put, List.setIfInBounds_toArray, List.set_cons_zero, List.set_cons_succ])
        refine anyC_one (i := 11) (by kernel_rfl) rfl (by rfl) (fun K hK => ?_)
        go_simp
        refine (refFind_any w.heap.size ow (xs k).nm ob xs (some ⟨b, o, none⟩) ma fa ta ya cn mn fn tn yn cc mc fc tc yc mi w3 hn (HX2.out w3 HB3.out)).mono ?_
        rintro e w4 ⟨⟨z2, rfl, hz2⟩, hB4⟩
        have HB4 := Lib.hid (HB3.out.trans (hB4.mono (Nat.le_trans hS0 HB3.out.size)))
        have hS3 := HS.out w4 HB4.out
        obtain rfl := HZ1.out.unique hz2
        clear hB4 hz2
        refine hK.out _ _ (.inr (.inr hS3)) ?_
        clear hK K
        (try simp only [Act.put, List.setIfInBounds_toArray, List.set_cons_zero, List.set_cons_succ])
        refine anyC_one (i := 12) (by kernel_rfl) rfl (by rfl) (fun K hK => ?_)
        go_simp
        refine hK.out _ _ (.inr (.inr hS3)) ?_
        clear hK K
        (try simp only [Act.put, List.setIfInBounds_toArray, List.set_cons_zero, List.set_cons_succ])
        refine anyC_one (i := 13) (by kernel_rfl) rfl (by rfl) (fun K hK => ?_)
        go_simp
        refine hK.out _ _ (.inr (.inr hS3)) ?_
        clear hK K
        (try simp only [Act.put, List.setIfInBounds_toArray, List.set_cons_zero, List.set_cons_succ])
        refine anyC_one (i := 14) (by kernel_rfl) rfl (by rfl) (fun K hK => ?_)
        go_simp
        refine hK.out _ _ (.inl rfl) ?_
        apply anyC_end
        rotate_left
        · kernel_rfl
        go_wp2_with fail
        go_ret
        exact ⟨rfl, HBw.out w4 HB4.out⟩
      · have qn : ¬ (0 : Int) ≤ a0 := hneg
        go_wp2_with fail
        refine anyC_region (c := 14) (S := (fun w' : World => w'.cell? ⟨w.heap.size, 0, none⟩ = some (.slice ca cn cc) ∧ w'.cell? ⟨w.heap.size, 1, none⟩ = some (.slice ma mn mc) ∧ w'.cell? ⟨w.heap.size, 2, none⟩ = some (.slice fa fn fc) ∧ w'.cell? ⟨w.heap.size, 3, none⟩ = some (.slice ta tn tc) ∧ w'.cell? ⟨w.heap.size, 4, none⟩ = some (.slice ya yn yc) ∧ w'.cell? ⟨w.heap.size, 5, none⟩ = some (.int .i64 mi))) hmx ?_
        have hSS0 := HS.out _ HB.out.drew
        refine anyC_one (i := 0) (by kernel_rfl) rfl (by rfl) (fun K hK => ?_)
        go_simp
        refine (awake_any _).mono ?_
        rintro e w2 ⟨rfl, hB2⟩
        have HB2 := Lib.hid (HB.out.drew.trans (hB2.mono hs1))
        have hS1 := HS.out w2 HB2.out
        clear hB2
        refine hK.out _ _ (.inr (.inr hS1)) ?_
        clear hK K
        (try simp only [Act.put, List.setIfInBounds_toArray, List.set_cons_zero, List.set_cons_succ])
        refine anyC_one (i := 1) (by kernel_rfl) rfl (by rfl) (fun K hK => ?_)
        go_simp
        refine hK.out _ _ (.inr (.inr hS1)) ?_
        clear hK K
        (try simp only [Act.put, List.setIfInBounds_toArray, List.set_cons_zero, List.set_cons_succ])
        refine anyC_take (i := 2) (v := ?_) (some 39) (by rfl) rfl (by kernel_rfl) (by kernel_rfl) (by kernel_rfl) (by kernel_rfl) (by kernel_rfl) (fun _ _ _ h => h) (Or.inl ⟨by rfl, ?_⟩) (by assumption) ?_
        rotate_left
        · (intro w hSw; (try dsimp only at hSw); go_simp; try with_reducible rfl)
        (try simp only [Act.put, List.setIfInBounds_toArray, List.set_cons_zero, List.set_cons_succ])
        refine anyC_take0 (i := 3) (v := ?_) (some 40) (by rfl) rfl (by kernel_rfl) (by kernel_rfl) (by kernel_rfl) (fun _ _ _ h => h) (Or.inl ⟨by rfl, ?_⟩) (by decide) (Or.inr (by assumption)) ?_
        rotate_left
        · (intro w; go_simp; try with_reducible rfl)
        (try simp only [Act.put, List.setIfInBounds_toArray, List.set_cons_zero, List.set_cons_succ])
        refine anyC_take0 (i := 4) (v := ?_) (some 41) (by rfl) rfl (by kernel_rfl) (by kernel_rfl) (by kernel_rfl) (fun _ _ _ h => h) (Or.inl ⟨by rfl, ?_⟩) (by decide) (Or.inr (by assumption)) ?_
        rotate_left
        · (intro w; go_simp; try with_reducible rfl)
        (try simp only [Act.put, List.setIfInBounds_toArray, List.set_cons_zero, List.set_cons_succ])
        refine anyC_take0 (i := 5) (v := ?_) (some 42) (by rfl) rfl (by kernel_rfl) (by kernel_rfl) (by kernel_rfl) (fun _ _ _ h => h) (Or.inl ⟨by rfl, ?_⟩) (by decide) (Or.inr (by assumption)) ?_
        rotate_left
        · (intro w; go_simp; try with_reducible rfl)
        (try simp only [Act.put, List.setIfInBounds_toArray, List.set_cons_zero, List.set_cons_succ])
        refine anyC_take (i := 7) (v := ?_) (some 44) (by rfl) rfl (by kernel_rfl) (by kernel_rfl) (by kernel_rfl) (by kernel_rfl) (by kernel_rfl) (fun _ _ _ h => h) (Or.inl ⟨by rfl, ?_⟩) (by assumption) ?_
        rotate_left
        · (intro w hSw; (try dsimp only at hSw); go_simp; try with_reducible rfl)
        (try simp only [Act.put, List.setIfInBounds_toArray, List.set_cons_zero, List.set_cons_succ])
        refine anyC_take0 (i := 8) (v := ?_) (some 45) (by rfl) rfl (by kernel_rfl) (by kernel_rfl) (by kernel_rfl) (fun _ _ _ h => h) (Or.inl ⟨by rfl, ?_⟩) (by decide) (Or.inr (by assumption)) ?_
        rotate_left
        · (intro w; go_simp; try with_reducible rfl)
        (try simp only [Act.put, List.setIfInBounds_toArray, List.set_cons_zero, List.set_cons_succ])
        refine anyC_take0 (i := 9) (v := ?_) (some 46) (by rfl) rfl (by kernel_rfl) (by kernel_rfl) (by kernel_rfl) (fun _ _ _ h => h) (Or.inl ⟨by rfl, ?_⟩) (by decide) (Or.inr (by assumption)) ?_
        rotate_left
        · (intro w; go_simp; try with_reducible rfl)
        (try simp only [Act.put, List.setIfInBounds_toArray, List.set_cons_zero, List.set_cons_succ])
        refine anyC_take0 (i := 10) (v := ?_) (some 47) (by rfl) rfl (by kernel_rfl) (by kernel_rfl) (by kernel_rfl) (fun _ _ _ h => h) (Or.inl ⟨by rfl, ?_⟩) (by decide) (Or.inr (by assumption)) ?_
        rotate_left
        · (intro w; go_simp; try with_reducible rfl)
        (try simp only [Act.put, List.setIfInBounds_toArray, List.set_cons_zero, List.set_cons_succ])
        refine anyC_one (i := 6) (by kernel_rfl) rfl (by rfl) (fun K hK => ?_)
        go_simp
        refine (find_any w.heap.size ow ⟨#[65]⟩ ob xs ca ma fa ta ya cn mn fn tn yn cc mc fc tc yc mi w2 hn (HX2.out w2 HB2.out)).mono ?_
        rintro e w3 ⟨⟨z1, rfl, hz1⟩, hB3⟩
        have HB3 := Lib.hid (HB2.out.trans (hB3.mono (Nat.le_trans hS0 HB2.out.size)))
        have HZ1 := Lib.hid hz1
        have hS2 := HS.out w3 HB3.out
        clear hB3 hz1
        refine hK.out _ _ (.inr (.inr hS2)) ?_
        clear hK K
        (try simp only [Act.put, List.setIfInBounds_toArray, List.set_cons_zero, List.set_cons_succ])
        refine anyC_one (i := 11) (by kernel_rfl) rfl (by rfl) (fun K hK => ?_)
        go_simp
        refine (refFind_any w.heap.size ow ⟨#[65]⟩ ob xs ca ma fa ta ya cn mn fn tn yn cc mc fc tc yc mi w3 hn (HX2.out w3 HB3.out)).mono ?_
        rintro e w4 ⟨⟨z2, rfl, hz2⟩, hB4⟩
        have HB4 := Lib.hid (HB3.out.trans (hB4.mono (Nat.le_trans hS0 HB3.out.size)))
        have hS3 := HS.out w4 HB4.out
        obtain rfl := HZ1.out.unique hz2
        clear hB4 hz2
        refine hK.out _ _ (.inr (.inr hS3)) ?_
        clear hK K
        (try simp only [Act.put, List.setIfInBounds_toArray, List.set_cons_zero, List.set_cons_succ])
        refine anyC_one (i := 12) (by kernel_rfl) rfl (by rfl) (fun K hK => ?_)
        go_simp
        refine hK.out _ _ (.inr (.inr hS3)) ?_
        clear hK K
        (try simp only [Act.put, List.setIfInBounds_toArray, List.set_cons_zero, List.set_cons_succ])
        refine anyC_one (i := 13) (by kernel_rfl) rfl (by rfl) (fun K hK => ?_)
        go_simp
        refine hK.out _ _ (.inr (.inr hS3)) ?_
        clear hK K
        (try simp only [Act.put, List.setIfInBounds_toArray, List.set_cons_zero, List.set_cons_succ])
        refine anyC_one (i := 14) (by kernel_rfl) rfl (by rfl) (fun K hK => ?_)
        go_simp
        refine hK.out _ _ (.inl rfl) ?_
        apply anyC_end
        rotate_left
        · kernel_rfl
        go_wp2_with fail
        go_ret
        exact ⟨rfl, HBw.out w4 HB4.out⟩
    · have qz : ¬ (0 : Int) < (cn : Int) := by omega
      go_wp2_with fail
      refine anyC_region (c := 14) (S := (fun w' : World => w'.cell? ⟨w.heap.size, 0, none⟩ = some (.slice ca cn cc) ∧ w'.cell? ⟨w.heap.size, 1, none⟩ = some (.slice ma mn mc) ∧ w'.cell? ⟨w.heap.size, 2, none⟩ = some (.slice fa fn fc) ∧ w'.cell? ⟨w.heap.size, 3, none⟩ = some (.slice ta tn tc) ∧ w'.cell? ⟨w.heap.size, 4, none⟩ = some (.slice ya yn yc) ∧ w'.cell? ⟨w.heap.size, 5, none⟩ = some (.int .i64 mi))) hmx ?_
      have hSS0 := HS.out _ HB.out.drew
      refine anyC_one (i := 0) (by kernel_rfl) rfl (by rfl) (fun K hK => ?_)
      go_simp
      refine (awake_any _).mono ?_
      rintro e w2 ⟨rfl, hB2⟩
      have HB2 := Lib.hid (HB.out.drew.trans (hB2.mono hs1))
      have hS1 := HS.out w2 HB2.out
      clear hB2
      refine hK.out _ _ (.inr (.inr hS1)) ?_
      clear hK K
      (try simp only [Act.put, List.setIfInBounds_toArray, List.set_cons_zero, List.set_cons_succ])
      refine anyC_one (i := 1) (by kernel_rfl) rfl (by rfl) (fun K hK => ?_)
      go_simp
      refine hK.out _ _ (.inr (.inr hS1)) ?_
      clear hK K
      (try simp only [Act.put, List.setIfInBounds_toArray, List.set_cons_zero, List.set_cons_succ])
      refine anyC_take (i := 2) (v := ?_) (some 39) (by rfl) rfl (by kernel_rfl) (by kernel_rfl) (by kernel_rfl) (by kernel_rfl) (by kernel_rfl) (fun _ _ _ h => h) (Or.inl ⟨by rfl, ?_⟩) (by assumption) ?_
      rotate_left
      · (intro w hSw; (try dsimp only at hSw); go_simp; try with_reducible rfl)
      (try simp only [Act.put, List.setIfInBounds_toArray, List.set_cons_zero, List.set_cons_succ])
      refine anyC_take0 (i := 3) (v := ?_) (some 40) (by rfl) rfl (by kernel_rfl) (by kernel_rfl) (by kernel_rfl) (fun _ _ _ h => h) (Or.inl ⟨by rfl, ?_⟩) (by decide) (Or.inr (by assumption)) ?_
      rotate_left
      · (intro w; go_simp; try with_reducible rfl)
      (try simp only [Act.put, List.setIfInBounds_toArray, List.set_cons_zero, List.set_cons_succ])
      refine anyC_take0 (i := 4) (v := ?_) (some 41) (by rfl) rfl (by kernel_rfl) (by kernel_rfl) (by kernel_rfl) (fun _ _ _ h => h) (Or.inl ⟨by rfl, ?_⟩) (by decide) (Or.inr (by assumption)) ?_
      rotate_left
      · (intro w; go_simp; try with_reducible rfl)
      (try simp only [Act.put, List.setIfInBounds_toArray, List.set_cons_zero, List.set_cons_succ])
      refine anyC_take0 (i := 5) (v := ?_) (some 42) (by rfl) rfl (by kernel_rfl) (by kernel_rfl) (by kernel_rfl) (fun _ _ _ h => h) (Or.inl ⟨by rfl, ?_⟩) (by decide) (Or.inr (by assumption)) ?_
      rotate_left
      · (intro w; go_simp; try with_reducible rfl)
      (try simp only [Act.put, List.setIfInBounds_toArray, List.set_cons_zero, List.set_cons_succ])
      refine anyC_take (i := 7) (v := ?_) (some 44) (by rfl) rfl (by kernel_rfl) (by kernel_rfl) (by kernel_rfl) (by kernel_rfl) (by kernel_rfl) (fun _ _ _ h => h) (Or.inl ⟨by rfl, ?_⟩) (by assumption) ?_
      rotate_left
      · (intro w hSw; (try dsimp only at hSw); go_simp; try with_reducible rfl)
      (try simp only [Act.put, List.setIfInBounds_toArray, List.set_cons_zero, List.set_cons_succ])
      refine anyC_take0 (i := 8) (v := ?_) (some 45) (by rfl) rfl (by kernel_rfl) (by kernel_rfl) (by kernel_rfl) (fun _ _ _ h => h) (Or.inl ⟨by rfl, ?_⟩) (by decide) (Or.inr (by assumption)) ?_
      rotate_left
      · (intro w; go_simp; try with_reducible rfl)
      (try simp only [Act.put, List.setIfInBounds_toArray, List.set_cons_zero, List.set_cons_succ])
      refine anyC_take0 (i := 9) (v := ?_) (some 46) (by rfl) rfl (by kernel_rfl) (by kernel_rfl) (by kernel_rfl) (fun _ _ _ h => h) (Or.inl ⟨by rfl, ?_⟩) (by decide) (Or.inr (by assumption)) ?_
      rotate_left
      · (intro w; go_simp; try with_reducible rfl)
      (try simp only [Act.put, List.setIfInBounds_toArray, List.set_cons_zero, List.set_cons_succ])
      refine anyC_take0 (i := 10) (v := ?_) (some 47) (by rfl) rfl (by kernel_rfl) (by kernel_rfl) (by kernel_rfl) (fun _ _ _ h => h) (Or.inl ⟨by rfl, ?_⟩) (by decide) (Or.inr (by assumption)) ?_
      rotate_left
      · (intro w; go_simp; try with_reducible rfl)
      (try simp only [Act.put, List.setIfInBounds_toArray, List.set_cons_zero, List.set_cons_succ])
      refine anyC_one (i := 6) (by kernel_rfl) rfl (by rfl) (fun K hK => ?_)
      go_simp
      refine (find_any w.heap.size ow ⟨#[65]⟩ ob xs ca ma fa ta ya cn mn fn tn yn cc mc fc tc yc mi w2 hn (HX2.out w2 HB2.out)).mono ?_
      rintro e w3 ⟨⟨z1, rfl, hz1⟩, hB3⟩
      have HB3 := Lib.hid (HB2.out.trans (hB3.mono (Nat.le_trans hS0 HB2.out.size)))
      have HZ1 := Lib.hid hz1
      have hS2 := HS.out w3 HB3.out
      clear hB3 hz1
      refine hK.out _ _ (.inr (.inr hS2)) ?_
      clear hK K
      (try simp only [Act.put, List.setIfInBounds_toArray, List.set_cons_zero, List.set_cons_succ])
      refine anyC_one (i := 11) (by kernel_rfl) rfl (by rfl) (fun K hK => ?_)
      go_simp
      refine (refFind_any w.heap.size ow ⟨#[65]⟩ ob xs ca ma fa ta ya cn mn fn tn yn cc mc fc tc yc mi w3 hn (HX2.out w3 HB3.out)).mono ?_
      rintro e w4 ⟨⟨z2, rfl, hz2⟩, hB4⟩
      have HB4 := Lib.hid (HB3.out.trans (hB4.mono (Nat.le_trans hS0 HB3.out.size)))
      have hS3 := HS.out w4 HB4.out
      obtain rfl := HZ1.out.unique hz2
      clear hB4 hz2
      refine hK.out _ _ (.inr (.inr hS3)) ?_
      clear hK K
      (try simp only [Act.put, List.setIfInBounds_toArray, List.set_cons_zero, List.set_cons_succ])
      refine anyC_one (i := 12) (by kernel_rfl) rfl (by rfl) (fun K hK => ?_)
      go_simp
      refine hK.out _ _ (.inr (.inr hS3)) ?_
      clear hK K
      (try simp only [Act.put, List.setIfInBounds_toArray, List.set_cons_zero, List.set_cons_succ])
      refine anyC_one (i := 13) (by kernel_rfl) rfl (by rfl) (fun K hK => ?_)
      go_simp
      refine hK.out _ _ (.inr (.inr hS3)) ?_
      clear hK K
      (try simp only [Act.put, List.setIfInBounds_toArray, List.set_cons_zero, List.set_cons_succ])
      refine anyC_one (i := 14) (by kernel_rfl) rfl (by rfl) (fun K hK => ?_)
      go_simp
      refine hK.out _ _ (.inl rfl) ?_
      apply anyC_end
      rotate_left
      · kernel_rfl
      go_wp2_with fail
      go_ret
      exact ⟨rfl, HBw.out w4 HB4.out⟩
end Go.Proofs.YtjhedehhanaokaaGreatDoor
