/- Check: a parent, the parents. -/
import Derived.Test.YtkjjieloncdjhaaGreatDoorE6
namespace Go.Proofs.YtkjjieloncdjhaaGreatDoor
open Go Go.RowKit

theorem Tys.take {w : World} {B g o : Nat} {ts : List Ty} (h : Tys w B g o ts) (i : Nat) : Tys w B g o (ts.take i) := ⟨h.1, fun k t ht => by
  rw [List.getElem?_take] at ht
  split at ht
  · exact h.2 k t ht
  · cases ht⟩

set_option maxRecDepth 100000 in
set_option maxHeartbeats 8000000 in
theorem checkParent_all (A : Option Addr) (n c k i : Nat) (xs : List ClC) (ps : List (List Ty)) (x : ClC) (ts : List Ty) (t : Ty) (m1 m2 m3 m4 m5 : Value) (w : World) (hl : n = xs.length) (_ : n ≤ 1048576) (hk : k < n) (hx : xs[k]? = some x) (hts : ps[k]? = some ts) (ht : ts[i]? = some t) (hcap : x.pr.l ≤ x.pr.c)
    (htp : ∀ y ∈ xs, y.tp.l ≤ 1048576) (han : t.an ≤ 9223372036854775807) (hV : ClsV w w.heap.size A xs ps) :
    Calls Tryz.prog 142 #[prgM A n c m1 m2 m3 m4 m5, .int .i64 k, .int .i64 i] w fun e w' => (∃ z : Int, e = .returned (.int .i64 z) ∧ (z = 0 → t.kd = 10 ∧ inR n t.sy = true)) ∧ Below w.heap.size w w' := by
  obtain ⟨b, o, hb, hA⟩ := hV.at_ k x hx
  obtain ⟨hlen, hT⟩ := hV.pa k x ts hx hts
  obtain rfl := hA.ad
  obtain ⟨nm, kd, fl, ow, tp, ⟨pra, prl, prc⟩, pa, fi, me, ty, su, it, at'⟩ := x
  obtain ⟨hTl, hTr⟩ := hT
  dsimp only at hTl hTr hcap
  subst hTl
  have hi : i < ts.length := (List.getElem?_eq_some_iff.1 ht).1
  obtain ⟨g, o', e, hTy⟩ := hTr (by omega)
  subst e
  have hmx : Tryz.prog.follows .mixedOrders = true := by kernel_rfl
  have HL := Lib.hid hl
  clear hl
  have hB0 := Bl.new w 30 [.slice (some ⟨b, o, none⟩) n c, m1, m2, m3, m4, m5]
  have HB1 := Lib.hid ((Below.refl w.heap.size w).alloc (Nat.le_refl _) (.cells #[.slice (some ⟨b, o, none⟩) n c, m1, m2, m3, m4, m5] 30))
  have HB2' := Lib.hid (HB1.out.alloc (by simp) (.cells (⟨nm, kd, fl, ow, tp, ⟨some ⟨g, o', none⟩, ts.length, prc⟩, pa, fi, me, ty, su, it, at'⟩ : ClC).cells.toArray 37))
  have q0 := (hB0.alloc (.cells (⟨nm, kd, fl, ow, tp, ⟨some ⟨g, o', none⟩, ts.length, prc⟩, pa, fi, me, ty, su, it, at'⟩ : ClC).cells.toArray 37)).cell 0
  have q00 := hB0.cell 0
  have hC := Bl.new (w.alloc (.cells #[.slice (some ⟨b, o, none⟩) n c, m1, m2, m3, m4, m5] 30)) 37 (⟨nm, kd, fl, ow, tp, ⟨some ⟨g, o', none⟩, ts.length, prc⟩, pa, fi, me, ty, su, it, at'⟩ : ClC).cells
  rw [World.size_alloc] at hC
  have c5 := hC.cell 5
  simp only [List.getElem?_cons_zero, List.getElem?_cons_succ] at q0 q00 c5
  obtain ⟨-, -, -, k0, k1, k2, k3, k4, k5, k6, k7, k8, k9, k10, k11, k12⟩ := hA.below HB1.out hb
  dsimp only at k0 k1 k2 k3 k4 k5 k6 k7 k8 k9 k10 k11 k12
  obtain ⟨u0, u1, u2, u3, u4⟩ := (hTy.below HB2'.out (Nat.le_refl _)).2 i t ht
  have hgb := hTy.1
  obtain ⟨tk, tsy, tnm, nu, aa, an, ac⟩ := t
  dsimp only at u0 u1 u2 u3 u4 han
  have hii : (i : Int) < (ts.length : Int) := by omega
  have hip : (i : Int) ≤ (prc : Int) := by omega
  have hip' : ¬ (prc : Int) < (i : Int) := by omega
  by_cases h10 : tk = 10
  · subst h10
    cases hin : inR n tsy with
    | false =>
      have hTb := Bl.new ((w.alloc (.cells #[.slice (some ⟨b, o, none⟩) n c, m1, m2, m3, m4, m5] 30)).alloc (.cells (⟨nm, kd, fl, ow, tp, ⟨some ⟨g, o', none⟩, ts.length, prc⟩, pa, fi, me, ty, su, it, at'⟩ : ClC).cells.toArray 37)) 59 [.int .i64 10, .int .i64 tsy, .string tnm, .int .i64 nu, .slice aa an ac]
      have HB3 := Lib.hid (HB2'.out.alloc (by simp; omega) (.cells #[.int .i64 10, .int .i64 tsy, .string tnm, .int .i64 nu, .slice aa an ac] 59))
      have v0 := hTb.cell 0
      have v1 := hTb.cell 1
      have q1 := ((hB0.alloc (.cells (⟨nm, kd, fl, ow, tp, ⟨some ⟨g, o', none⟩, ts.length, prc⟩, pa, fi, me, ty, su, it, at'⟩ : ClC).cells.toArray 37)).alloc (.cells #[.int .i64 10, .int .i64 tsy, .string tnm, .int .i64 nu, .slice aa an ac] 59)).cell 0
      simp only [List.getElem?_cons_zero, List.getElem?_cons_succ, World.size_alloc] at v0 v1 q1
      clear hTb hC hB0
      have hd : decide (0 ≤ tsy ∧ tsy < (n : Int)) = false := hin
      go_enter Tryz.func142, Tryz.ntmps142
      go_wp2_with fail
      refine (exists_is _ n _ _ false hd _).mono ?_
      rintro e w' ⟨rfl, rfl⟩
      go_wp2_with fail
      go_ret
      exact ⟨⟨_, rfl, fun h => by cases h⟩, HB3.out⟩
    | true =>
      have hin' := inR_iff.1 hin
      obtain ⟨m, rfl⟩ : ∃ m : Nat, tsy = (m : Int) := ⟨tsy.toNat, by omega⟩
      have hm : m < n := by omega
      obtain ⟨y, hy⟩ : ∃ y, xs[m]? = some y := ⟨_, List.getElem?_eq_getElem (by rw [← HL.out]; exact hm)⟩
      obtain ⟨b', o2, _, hAy⟩ := hV.at_ m y hy
      have eY := hAy.ad
      injection eY with eY
      injection eY with eY1 eY2
      subst eY1 eY2
      have hytp := htp y (List.mem_of_getElem? hy)
      have hTb := Bl.new ((w.alloc (.cells #[.slice (some ⟨b, o, none⟩) n c, m1, m2, m3, m4, m5] 30)).alloc (.cells (⟨nm, kd, fl, ow, tp, ⟨some ⟨g, o', none⟩, ts.length, prc⟩, pa, fi, me, ty, su, it, at'⟩ : ClC).cells.toArray 37)) 59 [.int .i64 10, .int .i64 (m : Int), .string tnm, .int .i64 nu, .slice aa an ac]
      have hYb := Bl.new (((w.alloc (.cells #[.slice (some ⟨b, o, none⟩) n c, m1, m2, m3, m4, m5] 30)).alloc (.cells (⟨nm, kd, fl, ow, tp, ⟨some ⟨g, o', none⟩, ts.length, prc⟩, pa, fi, me, ty, su, it, at'⟩ : ClC).cells.toArray 37)).alloc (.cells #[.int .i64 10, .int .i64 (m : Int), .string tnm, .int .i64 nu, .slice aa an ac] 59)) 37 y.cells
      have HB3 := Lib.hid (HB2'.out.alloc (by simp; omega) (.cells #[.int .i64 10, .int .i64 (m : Int), .string tnm, .int .i64 nu, .slice aa an ac] 59))
      have HB4 := Lib.hid (HB3.out.alloc (by simp; omega) (.cells y.cells.toArray 37))
      have v0 := hTb.cell 0
      have v1 := hTb.cell 1
      have q1 := ((hB0.alloc (.cells (⟨nm, kd, fl, ow, tp, ⟨some ⟨g, o', none⟩, ts.length, prc⟩, pa, fi, me, ty, su, it, at'⟩ : ClC).cells.toArray 37)).alloc (.cells #[.int .i64 10, .int .i64 (m : Int), .string tnm, .int .i64 nu, .slice aa an ac] 59)).cell 0
      simp only [List.getElem?_cons_zero, List.getElem?_cons_succ, World.size_alloc] at v0 v1 q1
      obtain ⟨-, -, -, y0, y1, y2, y3, y4, y5, y6, y7, y8, y9, y10, y11, y12⟩ := hAy.below HB3.out hb
      have HCb := Lib.hid (show Bl ((((w.alloc (.cells #[.slice (some ⟨b, o, none⟩) n c, m1, m2, m3, m4, m5] 30)).alloc (.cells (⟨nm, kd, fl, ow, tp, ⟨some ⟨g, o', none⟩, ts.length, prc⟩, pa, fi, me, ty, su, it, at'⟩ : ClC).cells.toArray 37)).alloc (.cells #[.int .i64 10, .int .i64 (m : Int), .string tnm, .int .i64 nu, .slice aa an ac] 59)).alloc (.cells y.cells.toArray 37)) (w.heap.size + 1) 37 (⟨nm, kd, fl, ow, tp, ⟨some ⟨g, o', none⟩, ts.length, prc⟩, pa, fi, me, ty, su, it, at'⟩ : ClC).cells from (hC.alloc _).alloc _)
      have HTb := Lib.hid (show Bl ((((w.alloc (.cells #[.slice (some ⟨b, o, none⟩) n c, m1, m2, m3, m4, m5] 30)).alloc (.cells (⟨nm, kd, fl, ow, tp, ⟨some ⟨g, o', none⟩, ts.length, prc⟩, pa, fi, me, ty, su, it, at'⟩ : ClC).cells.toArray 37)).alloc (.cells #[.int .i64 10, .int .i64 (m : Int), .string tnm, .int .i64 nu, .slice aa an ac] 59)).alloc (.cells y.cells.toArray 37)) (w.heap.size + 1 + 1) 59 [.int .i64 10, .int .i64 (m : Int), .string tnm, .int .i64 nu, .slice aa an ac] from by simpa using hTb.alloc (.cells y.cells.toArray 37))
      have HYb := Lib.hid (show Bl ((((w.alloc (.cells #[.slice (some ⟨b, o, none⟩) n c, m1, m2, m3, m4, m5] 30)).alloc (.cells (⟨nm, kd, fl, ow, tp, ⟨some ⟨g, o', none⟩, ts.length, prc⟩, pa, fi, me, ty, su, it, at'⟩ : ClC).cells.toArray 37)).alloc (.cells #[.int .i64 10, .int .i64 (m : Int), .string tnm, .int .i64 nu, .slice aa an ac] 59)).alloc (.cells y.cells.toArray 37)) (w.heap.size + 1 + 1 + 1) 37 y.cells from by simpa using hYb)
      have HTk := Lib.hid (show Tys ((((w.alloc (.cells #[.slice (some ⟨b, o, none⟩) n c, m1, m2, m3, m4, m5] 30)).alloc (.cells (⟨nm, kd, fl, ow, tp, ⟨some ⟨g, o', none⟩, ts.length, prc⟩, pa, fi, me, ty, su, it, at'⟩ : ClC).cells.toArray 37)).alloc (.cells #[.int .i64 10, .int .i64 (m : Int), .string tnm, .int .i64 nu, .slice aa an ac] 59)).alloc (.cells y.cells.toArray 37)) (w.heap.size + 1 + 1 + 1 + 1) g o' (ts.take i) from (hTy.below HB4.out (by omega)).take i)
      have hs4 : ((((w.alloc (.cells #[.slice (some ⟨b, o, none⟩) n c, m1, m2, m3, m4, m5] 30)).alloc (.cells (⟨nm, kd, fl, ow, tp, ⟨some ⟨g, o', none⟩, ts.length, prc⟩, pa, fi, me, ty, su, it, at'⟩ : ClC).cells.toArray 37)).alloc (.cells #[.int .i64 10, .int .i64 (m : Int), .string tnm, .int .i64 nu, .slice aa an ac] 59)).alloc (.cells y.cells.toArray 37)).heap.size = w.heap.size + 1 + 1 + 1 + 1 := by simp
      have C := (HCb.out.thirteen)
      have Y := (HYb.out.thirteen)
      have hd : decide (0 ≤ (m : Int) ∧ (m : Int) < (n : Int)) = true := hin
      clear hTb hC hB0 hYb hA hAy hTy hV
      go_enter Tryz.func142, Tryz.ntmps142
      go_wp2_with fail
      refine (exists_is _ n _ _ true hd _).mono ?_
      rintro e w' ⟨rfl, rfl⟩
      obtain ⟨C0, C1, C2, C3, C4, C5, C6, C7, C8, C9, C10, C11, C12⟩ := C
      obtain ⟨Y0, Y1, Y2, Y3, Y4, Y5, Y6, Y7, Y8, Y9, Y10, Y11, Y12⟩ := Y
      go_wp2_with fail
      clear k0 k1 k2 k3 k4 k5 k6 k7 k8 k9 k10 k11 k12 y0 y1 y2 y3 y4 y5 y6 y7 y8 y9 y10 y11 y12 u0 u1 u2 u3 u4 v0 v1 q0 q00 q1 c5
      refine (fits_all (⟨nm, kd, fl, ow, tp, ⟨some ⟨g, o', none⟩, ts.length, prc⟩, pa, fi, me, ty, su, it, at'⟩ : ClC) y (i : Int) _).mono ?_
      rintro e w1 ⟨rfl, hB'⟩
      have HBw : Hid (∀ W', Below (w.heap.size + 1 + 1 + 1 + 1) ((((w.alloc (.cells #[.slice (some ⟨b, o, none⟩) n c, m1, m2, m3, m4, m5] 30)).alloc (.cells (⟨nm, kd, fl, ow, tp, ⟨some ⟨g, o', none⟩, ts.length, prc⟩, pa, fi, me, ty, su, it, at'⟩ : ClC).cells.toArray 37)).alloc (.cells #[.int .i64 10, .int .i64 (m : Int), .string tnm, .int .i64 nu, .slice aa an ac] 59)).alloc (.cells y.cells.toArray 37)) W' → Below w.heap.size w W') := Lib.hid (fun W' hB => HB4.out.trans (hB.mono (by omega)))
      rw [hs4] at hB'
      have HBx := Lib.hid hB'
      have hz1 : w.heap.size + 1 + 1 + 1 + 1 ≤ w1.heap.size := Nat.le_trans (Nat.le_of_eq hs4.symm) hB'.size
      have c2 := (HCb.out.below hB' (by omega)).cell 2
      have c5 := (HCb.out.below hB' (by omega)).cell 5
      have t1 := (HTb.out.below hB' (by omega)).cell 1
      have t4 := (HTb.out.below hB' (by omega)).cell 4
      have d2 := (HYb.out.below hB' (by omega)).cell 2
      have d4 := (HYb.out.below hB' (by omega)).cell 4
      simp only [List.getElem?_cons_zero, List.getElem?_cons_succ] at c2 c5 t1 t4 d2 d4
      have HTk1 := Lib.hid (show Tys w1 w1.heap.size g o' (ts.take i) from HTk.out.below hB' hz1)
      have HTw := HTk1
      clear hB' HTk1 HTk C0 C1 C2 C3 C4 C5 C6 C7 C8 C9 C10 C11 C12 Y0 Y1 Y2 Y3 Y4 Y5 Y6 Y7 Y8 Y9 Y10 Y11 Y12
      cases hft : fitsF (⟨nm, kd, fl, ow, tp, ⟨some ⟨g, o', none⟩, ts.length, prc⟩, pa, fi, me, ty, su, it, at'⟩ : ClC) y (i : Int)
      · go_wp2_with fail
        go_ret
        exact ⟨⟨_, rfl, fun _ => ⟨by trivial, (by first | exact hin | trivial)⟩⟩, HBw.out _ HBx.out⟩
      · go_wp2_with fail
        refine (has_any _ _ _).mono ?_
        rintro e w' ⟨rfl, rfl⟩
        cases hf2 : hasF y.fl 2
        · by_cases han2 : y.tp.l = an
          · have ha1 : ((y.tp.l : Int) == (an : Int)) = true := by rw [han2]; simp
            subst han2
            go_upto_region 14 with fail
            refine anyC_region (c := 7) (S := (fun w' : World => w'.cell? ⟨w.heap.size + 1, 5, none⟩ = some (.slice (some ⟨g, o', none⟩) ts.length prc) ∧ w'.cell? ⟨w.heap.size + 1 + 1, 1, none⟩ = some (.int .i64 (m : Int)))) hmx ?_
            have hS1 : (fun w' : World => w'.cell? ⟨w.heap.size + 1, 5, none⟩ = some (.slice (some ⟨g, o', none⟩) ts.length prc) ∧ w'.cell? ⟨w.heap.size + 1 + 1, 1, none⟩ = some (.int .i64 (m : Int))) w1.drew := ⟨c5, t1⟩
            refine anyC_take0 (i := 0) (v := ?_) (some 54) (by rfl) rfl (by kernel_rfl) (by kernel_rfl) (by kernel_rfl) (fun _ _ _ h => h) (Or.inl ⟨by rfl, ?_⟩) (by decide) (Or.inr (by assumption)) ?_
            rotate_left
            · (intro w; go_simp; try with_reducible rfl)
            (try simp only [Act.put, List.setIfInBounds_toArray, List.set_cons_zero, List.set_cons_succ])
            refine anyC_take0 (i := 2) (v := ?_) (some 56) (by rfl) rfl (by kernel_rfl) (by kernel_rfl) (by kernel_rfl) (fun _ _ _ h => h) (Or.inl ⟨by rfl, ?_⟩) (by decide) (Or.inr (by assumption)) ?_
            rotate_left
            · (intro w; go_simp; try with_reducible rfl)
            (try simp only [Act.put, List.setIfInBounds_toArray, List.set_cons_zero, List.set_cons_succ])
            refine anyC_take0 (i := 5) (v := ?_) (some 59) (by rfl) rfl (by kernel_rfl) (by kernel_rfl) (by kernel_rfl) (fun _ _ _ h => h) (Or.inl ⟨by rfl, ?_⟩) (by decide) (Or.inr (by assumption)) ?_
            rotate_left
            · (intro w; go_simp; try with_reducible rfl)
            (try simp only [Act.put, List.setIfInBounds_toArray, List.set_cons_zero, List.set_cons_succ])
            refine anyC_take (i := 6) (v := ?_) (some 60) (by rfl) rfl (by kernel_rfl) (by kernel_rfl) (by kernel_rfl) (by kernel_rfl) (by kernel_rfl) (fun _ _ _ h => h) (Or.inl ⟨by rfl, ?_⟩) (by assumption) ?_
            rotate_left
            · (intro w hSw; (try dsimp only at hSw); go_simp; try with_reducible rfl)
            (try simp only [Act.put, List.setIfInBounds_toArray, List.set_cons_zero, List.set_cons_succ])
            refine anyC_one (i := 1) (by kernel_rfl) rfl (by rfl) (fun K hK => ?_)
            go_simp
            refine hK.out _ _ (.inr (.inr hS1)) ?_
            clear hK K
            (try simp only [Act.put, List.setIfInBounds_toArray, List.set_cons_zero, List.set_cons_succ])
            refine anyC_one (i := 3) (by kernel_rfl) rfl (by rfl) (fun K hK => ?_)
            go_simp
            refine hK.out _ _ (.inr (.inr hS1)) ?_
            clear hK K
            (try simp only [Act.put, List.setIfInBounds_toArray, List.set_cons_zero, List.set_cons_succ])
            refine anyC_one (i := 4) (by kernel_rfl) rfl (by rfl) (fun K hK => ?_)
            go_simp
            refine (parentsOf_any (some ⟨g, o', none⟩) i prc (ts.take i) w1.drew (by simp; omega) (by omega) (fun _ => ⟨g, o', rfl, HTw.out⟩)).mono ?_
            rintro e w2 ⟨v2, rfl, ho, hB2⟩
            have hq2 := QRow.of ho
            obtain ⟨A2, cap2, rfl⟩ := hq2.slice
            have HN2 := Lib.hid hq2.nums
            have HB2 := Lib.hid (HBx.out.drew.trans (hB2.mono (Nat.le_trans hz1 (Nat.le_refl _))))
            have hS2 : (fun w' : World => w'.cell? ⟨w.heap.size + 1, 5, none⟩ = some (.slice (some ⟨g, o', none⟩) ts.length prc) ∧ w'.cell? ⟨w.heap.size + 1 + 1, 1, none⟩ = some (.int .i64 (m : Int))) w2 := ⟨(hB2.cell (p := ⟨w.heap.size + 1, 5, none⟩) (by show w.heap.size + 1 < w1.drew.heap.size; exact Nat.lt_of_lt_of_le (by omega) hz1)).trans c5, (hB2.cell (p := ⟨w.heap.size + 1 + 1, 1, none⟩) (by show w.heap.size + 1 + 1 < w1.drew.heap.size; exact Nat.lt_of_lt_of_le (by omega) hz1)).trans t1⟩
            have hls := symsOf_le (ts.take i)
            have hlt' : (ts.take i).length ≤ i := List.length_take_le _ _
            clear ho hq2 hB2
            refine hK.out _ _ (.inr (.inr hS2)) ?_
            clear hK K
            (try simp only [Act.put, List.setIfInBounds_toArray, List.set_cons_zero, List.set_cons_succ])
            refine anyC_one (i := 7) (by kernel_rfl) rfl (by rfl) (fun K hK => ?_)
            go_simp
            refine (contains_any A2 _ cap2 _ (m : Int) _ (by omega) HN2.out).mono ?_
            rintro e w' ⟨rfl, rfl⟩
            generalize decide ((m : Int) ∈ symsOf (ts.take i)) = rb at *
            refine hK.out _ _ (.inr (.inr hS2)) ?_
            clear hK K
            (try simp only [Act.put, List.setIfInBounds_toArray, List.set_cons_zero, List.set_cons_succ])
            refine anyC_one (i := 8) (by kernel_rfl) rfl (by rfl) (fun K hK => ?_)
            go_simp
            refine hK.out _ _ (.inr (.inl (by simp))) ?_
            apply anyC_end
            rotate_left
            · kernel_rfl
            have hC2 := (HCb.out.below HB2.out (by omega)).cell 2
            have hY2 := (HYb.out.below HB2.out (by omega)).cell 2
            simp only [List.getElem?_cons_zero, List.getElem?_cons_succ] at hC2 hY2
            have HE := Lib.hid (HBw.out _ HB2.out)
            clear hS1 hS2 c5 t1 c2 d2 d4 t4
            cases rb
            · go_wp2_with (first | (go_at_call 101; refine (has_any _ _ _).mono ?_; rintro e w' ⟨rfl, rfl⟩) | fail)
              all_goals
                go_ret
                exact ⟨⟨_, rfl, fun _ => ⟨by trivial, (by first | exact hin | trivial)⟩⟩, HE.out⟩
            · go_wp2_with fail
              go_ret
              exact ⟨⟨_, rfl, fun _ => ⟨by trivial, (by first | exact hin | trivial)⟩⟩, HE.out⟩
          · have ha1 : ((y.tp.l : Int) == (an : Int)) = false := by
              have : ¬ (y.tp.l : Int) = (an : Int) := by omega
              simpa using this
            go_wp2_with fail
            go_ret
            exact ⟨⟨_, rfl, fun _ => ⟨by trivial, (by first | exact hin | trivial)⟩⟩, HBw.out _ HBx.out⟩
        · go_wp2_with fail
          go_ret
          exact ⟨⟨_, rfl, fun _ => ⟨by trivial, (by first | exact hin | trivial)⟩⟩, HBw.out _ HBx.out⟩
  · have hTb := Bl.new ((w.alloc (.cells #[.slice (some ⟨b, o, none⟩) n c, m1, m2, m3, m4, m5] 30)).alloc (.cells (⟨nm, kd, fl, ow, tp, ⟨some ⟨g, o', none⟩, ts.length, prc⟩, pa, fi, me, ty, su, it, at'⟩ : ClC).cells.toArray 37)) 59 [.int .i64 tk, .int .i64 tsy, .string tnm, .int .i64 nu, .slice aa an ac]
    have HB3 := Lib.hid (HB2'.out.alloc (by simp; omega) (.cells #[.int .i64 tk, .int .i64 tsy, .string tnm, .int .i64 nu, .slice aa an ac] 59))
    have v0 := hTb.cell 0
    simp only [List.getElem?_cons_zero, World.size_alloc] at v0
    have hk10 : (tk == 10) = false := by simpa using h10
    clear hTb hC hB0
    go_enter Tryz.func142, Tryz.ntmps142
    go_wp2_with fail
    go_ret
    exact ⟨⟨_, rfl, fun h => by cases h⟩, HB3.out⟩
end Go.Proofs.YtkjjieloncdjhaaGreatDoor
