/- Ancestors. -/
import Derived.Test.YtkjjieloncdjhaaGreatDoorR3
import Derived.Test.YtkjjieloncdjhaaGreatDoorL14
namespace Go.Proofs.YtkjjieloncdjhaaGreatDoor
open Go Go.RowKit Go.Sort
open Go.Maps (Keyed)

theorem wf_i64 {x : Int} (h0 : 0 ≤ x) (h1 : x ≤ 9223372036854775807) : (Lit.int .i64 x).wf = true := by
  have e1 : (-9223372036854775808 : Int) ≤ x := by omega
  simp only [Lit.wf, Bool.and_eq_true, decide_eq_true_eq]
  exact ⟨e1, h1⟩

/-- The state of the search: the program's box, the map's box, the map, the list's box, the list. -/
structure AncW (n₀ Bp m Bs Ba : Nat) (pl : List Value) (l : List Int) (v : Value) (w0 w : World) : Prop where
  bp : Bl w Bp 30 pl
  bs : Bl w Bs 89 [.map (some m)]
  mp : ∃ D, w.ownsMap (H := Unit) Tryz.prog 3 (plainElem Tryz.prog 4) m l.length D ∧ ∀ x : Int, D.atKey (.int .i64 x) (.lit (.bool false)) = .lit (.bool (decide (x ∈ l)))
  ba : Bl w Ba 33 [v]
  row : QRow w n₀ v l
  be : Below n₀ w0 w
  h0 : n₀ ≤ w0.heap.size
  hm : n₀ ≤ m
  ha : n₀ ≤ Ba

section
variable {n₀ Bp m Bs Ba : Nat} {pl : List Value} {l : List Int} {v : Value} {w0 w w' : World}
theorem AncW.size (h : AncW n₀ Bp m Bs Ba pl l v w0 w) : n₀ ≤ w.heap.size := Nat.le_trans h.h0 h.be.size
theorem AncW.mlt (h : AncW n₀ Bp m Bs Ba pl l v w0 w) : m < w.heap.size := by
  obtain ⟨D, hD, _⟩ := h.mp
  exact hD.lt
theorem AncW.grownNone (h : AncW n₀ Bp m Bs Ba pl l v w0 w) (hg : w.grownBy w' none) : AncW n₀ Bp m Bs Ba pl l v w0 w' := by
  obtain ⟨D, hD, hx⟩ := h.mp
  exact ⟨h.bp.grown hg (by simp), h.bs.grown hg (by simp), ⟨D, hD.kept hg (by simp), hx⟩, h.ba.grown hg (by simp), h.row.kept hg (by cases hv : v.ownBlock <;> simp), h.be.grown hg h.size (fun k e => by cases e), h.h0, h.hm, h.ha⟩
theorem AncW.below (h : AncW n₀ Bp m Bs Ba pl l v w0 w) (hB : Below w.heap.size w w') : AncW n₀ Bp m Bs Ba pl l v w0 w' :=
  h.grownNone ⟨hB.os, hB.tape, hB.output, hB.size, fun k hk _ => hB.block k hk⟩
theorem AncW.m_ne (h : AncW n₀ Bp m Bs Ba pl l v w0 w) {g : Nat} {t : TypeId} {k : List Value} (hb : Bl w g t k) : g ≠ m := by
  intro e
  subst e
  obtain ⟨D, ⟨es, clock, hh, _⟩, _⟩ := h.mp
  have := hb.symm.trans hh
  cases this
theorem AncW.row_m (h : AncW n₀ Bp m Bs Ba pl l v w0 w) : v.ownBlock ≠ some m := by
  intro e
  rcases h.row with ⟨rfl, _⟩ | ⟨g, o, cap, cur, rfl, _, hh, _⟩
  · simp [Value.ownBlock] at e
  · have e1 : g = m := by simpa [Value.ownBlock] using e
    subst e1
    obtain ⟨D, ⟨es, clock, hh', _⟩, _⟩ := h.mp
    have := hh.symm.trans hh'
    cases this
end

/-- The map behind a store. -/
theorem seen_put {D : DataW Unit} {l : List Int} {s : Int} (hD : Maps.IsMap D) (hx : ∀ x : Int, D.atKey (.int .i64 x) (.lit (.bool false)) = .lit (.bool (decide (x ∈ l)))) :
    ∀ x : Int, (D.put (.int .i64 s) (.lit (.bool true))).atKey (.int .i64 x) (.lit (.bool false)) = .lit (.bool (decide (x ∈ l ++ [s]))) := by
  intro x
  by_cases h : x = s
  · subst h
    rw [Maps.atKey_put_same hD (by trivial : WideAt.IsKeyLit (.int .i64 x))]
    simp
  · rw [Maps.atKey_put_other (by intro e; injection e with _ e; exact h e), hx]
    simp [h]

set_option maxRecDepth 100000 in
set_option maxHeartbeats 8000000 in
theorem add_any (n₀ Bp m Bs Ba : Nat) (A : Option Addr) (n c : Nat) (xs : List ClC) (ps : List (List Ty)) (m1 m2 m3 m4 m5 : Value) (l : List Int) (v : Value) (k : Nat) (w0 w : World) (hl : n = xs.length) (hn : n ≤ 1048576) (hV : ClsV w0 n₀ A xs ps)
    (h : AncW n₀ Bp m Bs Ba [.slice A n c, m1, m2, m3, m4, m5] l v w0 w) (hnd : l.Nodup) (hr : ∀ x ∈ l, inR n x = true) (hk : k < n) :
    Calls Tryz.prog 50 #[.int .i64 k, .pointer (some ⟨Bp, 0, none⟩), .pointer (some ⟨Bs, 0, none⟩), .pointer (some ⟨Ba, 0, none⟩)] w fun e w' => (∃ u, e = .returned u) ∧ ∃ v', AncW n₀ Bp m Bs Ba [.slice A n c, m1, m2, m3, m4, m5] (addF n l (par (symL ps) k)) v' w0 w' := by
  have hkx : k < xs.length := by rw [← hl]; exact hk
  have hkp : k < ps.length := by rw [hV.len]; exact hkx
  obtain ⟨x, hx⟩ : ∃ x, xs[k]? = some x := ⟨_, List.getElem?_eq_getElem hkx⟩
  obtain ⟨ts, hts⟩ : ∃ ts, ps[k]? = some ts := ⟨_, List.getElem?_eq_getElem hkp⟩
  clear hl hkx hkp
  rw [par_at hts]
  have HV2 := hV.below h.be
  obtain ⟨b, o, hb, hA⟩ := HV2.at_ k x hx
  obtain ⟨hlen, hT⟩ := HV2.pa k x ts hx hts
  have e := hA.ad
  subst e
  have k5 := hA.k5
  have hsz := h.size
  have p0 := h.bp.cell 0
  simp only [List.getElem?_cons_zero] at p0
  have HT := Lib.hid hT
  have HA := Lib.hid h
  have HD := Lib.hid hnd
  have HR := Lib.hid hr
  have hll := nodup_le hnd hr
  clear hA hT HV2 hx hts h hnd hr
  go_enter Tryz.func50, Tryz.ntmps50
  go_wp2_with fail
  refine (parentsOf_any x.pr.a x.pr.l x.pr.c ts _ HT.out.1 (by rw [HT.out.1]; exact hlen) (fun h0 => ?_)).mono ?_
  · obtain ⟨g, o', e, hTy⟩ := HT.out.2 (by rw [← HT.out.1]; exact h0)
    exact ⟨g, o', e, Nat.lt_of_lt_of_le hTy.1 hsz, hTy.2⟩
  rintro e w1 ⟨v1, rfl, ho, hB1⟩
  have hq1 := QRow.of ho
  obtain ⟨A1, cap1, rfl⟩ := hq1.slice
  have HQ1 := Lib.hid hq1
  have HA1 := Lib.hid (HA.out.below hB1)
  have hl1 := symsOf_le ts
  have hbig : ts.length ≤ 1048576 := hlen
  have HSep := Lib.hid (show ∀ g, v.ownBlock = some g → (Value.slice A1 (symsOf ts).length cap1).ownBlock ≠ some g from fun g hg hg' => by
    have h1 := (HA.out.row.lt g hg).2
    have h2 := (hq1.lt g hg').1
    omega)
  have hBa := HA.out.ba.lt
  have hmm := HA.out.mlt
  generalize hS : symsOf ts = S at *
  have HSe := Lib.hid hS
  clear hS
  clear ho hq1 hB1 p0 k5 HT
  go_wp2_with fail
  go_loopw [15] (fun i wr => ∃ (j : Nat) (v' : Value), j ≤ S.length ∧ i = .int .i64 j ∧ AncW n₀ Bp m Bs Ba [.slice (some ⟨b, o, none⟩) n c, m1, m2, m3, m4, m5] (addF n l (S.take j)) v' w0 wr ∧ QRow wr w.heap.size (.slice A1 S.length cap1) S ∧ (∀ g, v'.ownBlock = some g → (Value.slice A1 S.length cap1).ownBlock ≠ some g)) (fun i _ => S.length - (intOf i).toNat)
  case atStart => exact ⟨0, v, by omega, rfl, HA1.out, HQ1.out, HSep.out⟩
  case round =>
    obtain ⟨j, v', hj, rfl, hA2, hQ2, hS2⟩ := hrel
    have HA2 := Lib.hid hA2
    have HQ2 := Lib.hid hQ2
    have HS2 := Lib.hid hS2
    clear hA2 hQ2 hS2 HA HA1 HQ1 HSep
    by_cases hjl : j < S.length
    · obtain ⟨s, hs⟩ : ∃ s, S[j]? = some s := ⟨_, List.getElem?_eq_getElem hjl⟩
      obtain ⟨g, o', eA, hcell⟩ := HQ2.out.nums.2 (by omega)
      subst eA
      have cj := hcell j hjl
      have hgd : S.getD j 0 = s := by simp [List.getD, hs]
      rw [hgd] at cj
      have htk : S.take (j + 1) = S.take j ++ [s] := by
        obtain ⟨h1, h2⟩ := List.getElem?_eq_some_iff.1 hs
        rw [List.take_succ_eq_append_getElem h1, h2]
      have HTK := Lib.hid (show addF n l (S.take (j + 1)) = (if inR n s = true ∧ s ∉ addF n l (S.take j) then addF n l (S.take j) ++ [s] else addF n l (S.take j)) from by rw [htk, addF_snoc])
      have hLL : (addF n l (S.take j)).length ≤ n := nodup_le (addF_nodup n _ _ HD.out) (fun y hy => by
        rcases (addF_mem n _ _ y).1 hy with h1 | h1
        · exact HR.out y h1
        · exact h1.2)
      generalize addF n l (S.take j) = L at *
      have p0 := HA2.out.bp.cell 0
      have s0 := HA2.out.bs.cell 0
      have a0 := HA2.out.ba.cell 0
      simp only [List.getElem?_cons_zero] at p0 s0 a0
      have hge := HA2.out.size
      clear hcell hgd htk hs
      by_cases hin : inR n s = true
      · have hin' := inR_iff.1 hin
        obtain ⟨D, hD, hDx⟩ := HA2.out.mp
        have hkey := key_mk s (wf_i64 hin'.1 (by omega))
        have hl1 : (Instr.lookup 89 (.map (some m)) (.int .i64 s) false).run Tryz.prog wr = .ok (.bool (decide (s ∈ L))) wr := by
          obtain ⟨y, hrun, hat⟩ := look_bool hD keyI Tryz.underlying89 Tryz.underlying4 (zeroB _) hkey
          rw [hDx] at hat
          injection hat with hat
          injection hat with hat
          rw [hat]
          exact hrun
        go_wp2_with fail
        refine (exists_is _ n _ _ true (by simpa using hin') _).mono ?_
        rintro e w' ⟨rfl, rfl⟩
        by_cases hm : s ∈ L
        · have hd := decide_eq_true hm
          rw [hd] at hl1
          have HE := Lib.hid (HTK.out.trans (if_neg (fun h => h.2 hm)))
          clear hd hm HTK hD hDx
          go_wp2_with fail
          go_roundw
          case rel => exact ⟨j + 1, v', by omega, by go_num, by rw [HE.out]; exact HA2.out, HQ2.out, HS2.out⟩
          case measure => simp [intOf]; omega
        · have hd := decide_eq_false hm
          rw [hd] at hl1
          have HE := Lib.hid (HTK.out.trans (if_pos ⟨hin, hm⟩))
          have HMp := Lib.hid hD
          have HDx := Lib.hid (seen_put (s := s) hD.isMap hDx)
          clear hd hm HTK hD hDx
          go_wp2_with (at_mapUpdate; refine wpList_mapUpdate_own _ rfl _ _ _ 89 rfl 3 4 keyI Tryz.underlying89 _ m L.length _ rfl HMp.out (by unfold maxLen; omega) _ _ (.int .i64 s) rfl rfl hkey _ [] (plainElem_bool Tryz.underlying4 true) ?_)
          intro w2 hown2 hgrow2
          have HM2 := Lib.hid hown2
          have bp2 := HA2.out.bp.grown hgrow2 (by intro e; exact HA2.out.m_ne HA2.out.bp (by cases e; rfl))
          have bs2 := HA2.out.bs.grown hgrow2 (by intro e; exact HA2.out.m_ne HA2.out.bs (by cases e; rfl))
          have ba2 := HA2.out.ba.grown hgrow2 (by intro e; exact HA2.out.m_ne HA2.out.ba (by cases e; rfl))
          have a2 := ba2.cell 0
          simp only [List.getElem?_cons_zero] at a2
          have HBp2 := Lib.hid bp2
          have HBs2 := Lib.hid bs2
          have HBa2 := Lib.hid ba2
          have HR2 := Lib.hid (HA2.out.row.kept hgrow2 (.inr HA2.out.row_m))
          have HQ3 := Lib.hid (HQ2.out.kept hgrow2 (.inr (fun e => by have := (HQ2.out.lt m e).1; omega)))
          have HBe2 := Lib.hid (HA2.out.be.grown hgrow2 hge (fun k e => by cases e; exact HA2.out.hm))
          have hz2 : n₀ ≤ w2.heap.size := Nat.le_trans hge hgrow2.size
          clear hown2 hgrow2 bp2 bs2 ba2 hl1 p0 s0 a0 cj
          go_wp2_with (at_builtin; refine wpList_append_q rfl _ _ rfl rfl (HR2.out.alloc _) ⟨w2.heap.size, 0, none⟩ 1 s rfl (cell_new_l w2 _ 3).1 (by omega) (by simp; omega) ?_)
          intro v3 w3 hq3 hg3 hv3
          obtain ⟨A3, cap3, rfl⟩ := hq3.slice
          have hl3 : (L ++ [s]).length = L.length + 1 := by simp
          rw [hl3] at hq3 hv3
          rw [hl3]
          clear hl3
          have hapB : ∀ {g t : Nat} {k : List Value}, Bl w2 g t k → t ≠ 3 → Bl w3 g t k := fun hb ht => (hb.alloc _).grown hg3 (fun e => (HR2.out.ne_bl hb ht) e.symm)
          have bp3 := hapB HBp2.out (by decide)
          have bs3 := hapB HBs2.out (by decide)
          have ba3 := hapB HBa2.out (by decide)
          have hm3 : w3.ownsMap (H := Unit) Tryz.prog 3 (plainElem Tryz.prog 4) m (L.length + 1) (D.put (.int .i64 s) (.lit (.bool true))) := (HM2.out.alloc _).kept hg3 (fun e => by
            rcases HR2.out with ⟨rfl, _⟩ | ⟨g', o', cap', cur', rfl, _, hh, _⟩
            · simp [Value.ownBlock] at e
            · have e1 : m = g' := by simpa [Value.ownBlock] using e
              subst e1
              obtain ⟨es, clock, hh', _⟩ := HM2.out
              have := hh.symm.trans hh'
              cases this)
          have hq4 : QRow w3 w.heap.size (.slice (some ⟨g, o', none⟩) S.length cap1) S := (HQ3.out.alloc _).kept hg3 (.inr (fun e => HS2.out g e.symm rfl))
          have be3 := (HBe2.out.alloc hz2 (.cells #[.int .i64 s] 3)).grown hg3 (by simp; omega) (fun g hg' => (HR2.out.lt g hg').1)
          have a3 := ba3.cell 0
          have f3 := ba3.froz 0
          simp only [List.getElem?_cons_zero] at a3
          have hgl : g < w2.heap.size := (HQ3.out.lt g rfl).2
          have HBp3 := Lib.hid bp3
          have HBs3 := Lib.hid bs3
          have HBa3 := Lib.hid ba3
          have HM3 := Lib.hid hm3
          have HQ4 := Lib.hid hq4
          have HR3 := Lib.hid hq3
          have HBe3 := Lib.hid be3
          have hBa3 := ba3.lt
          have HV3 := Lib.hid (show ∀ g1, (Value.slice A3 (L.length + 1) cap3).ownBlock = some g1 → (Value.slice (some ⟨g, o', none⟩) S.length cap1).ownBlock ≠ some g1 from fun g1 h1 h2 => by
            have e2 : g = g1 := by simpa [Value.ownBlock] using h2
            subst e2
            rcases hv3 with h3 | h3
            · exact HS2.out g (h3.symm.trans h1) rfl
            · rw [h1] at h3
              have : g = w2.heap.size + 1 := by simpa using h3
              omega)
          clear bp3 bs3 ba3 hm3 hq4 hq3 hg3 hv3 be3 hapB a2
          go_wp2_with fail
          go_roundw
          case rel =>
            have hne : ∀ {g' t : Nat} {k : List Value}, Bl w3 g' t k → t ≠ 33 → g' ≠ Ba := fun hb ht e => by
              subst e
              have := hb.symm.trans HBa3.out
              simp at this
              exact ht this.2
            refine ⟨j + 1, .slice A3 (L.length + 1) cap3, by omega, by go_num, ?_, HQ4.out.kept ((Og.refl Ba w3).set 0 _) (.inr (fun e => by have := (HQ4.out.lt Ba e).1; omega)), HV3.out⟩
            have hms : (w3.setCell ⟨Ba, 0, none⟩ (.slice A3 (L.length + 1) cap3)).ownsMap (H := Unit) Tryz.prog 3 (plainElem Tryz.prog 4) m (L ++ [s]).length (D.put (.int .i64 s) (.lit (.bool true))) := by
              have h := HM3.out.setCell (a := ⟨Ba, 0, none⟩) (fun e => by
                have e1 : m = Ba := e
                subst e1
                obtain ⟨es, clock, hh', _⟩ := HM3.out
                have := HBa3.out.symm.trans hh'
                cases this) (.slice A3 (L.length + 1) cap3)
              simpa using h
            rw [HE.out]
            exact ⟨HBp3.out.far (hne HBp3.out (by decide)) _, HBs3.out.far (hne HBs3.out (by decide)) _, ⟨_, hms, HDx.out⟩, HBa3.out.set 0 _, HR3.out.kept ((Og.refl Ba w3).set 0 _) (.inr (HR3.out.ne_bl HBa3.out (by decide))), HBe3.out.setCell (p := ⟨Ba, 0, none⟩) HA2.out.ha _, HA2.out.h0, HA2.out.hm, HA2.out.ha⟩
          case measure => simp [intOf]; omega
      · have hin' : ¬ (0 ≤ s ∧ s < (n : Int)) := fun h => hin (inR_iff.2 h)
        have HE := Lib.hid (HTK.out.trans (if_neg (fun h => hin h.1)))
        clear HTK hin
        go_wp2_with fail
        refine (exists_is _ n _ _ false (by simpa using hin') _).mono ?_
        rintro e w' ⟨rfl, rfl⟩
        go_wp2_with fail
        go_roundw
        case rel => exact ⟨j + 1, v', by omega, by go_num, by rw [HE.out]; exact HA2.out, HQ2.out, HS2.out⟩
        case measure => simp [intOf]; omega
    · have hjn : j = S.length := by omega
      subst hjn
      have HE := Lib.hid (show addF n l (S.take S.length) = addF n l S from by rw [List.take_length])
      go_wp2_with fail
      go_end0
      exact ⟨⟨_, rfl⟩, v', by rw [HSe.out, ← HE.out]; exact HA2.out⟩
end Go.Proofs.YtkjjieloncdjhaaGreatDoor
namespace Go.Proofs.YtkjjieloncdjhaaGreatDoor
open Go Go.RowKit

theorem sort_any (base : Nat) (v : Value) (l : List Int) (w : World) (h : QRow w base v l) (hn : l.length ≤ 100000000) :
    Calls Tryz.prog 51 #[v] w fun e w' => e = .returned (.tuple #[]) ∧ w.grownBy w' v.ownBlock ∧ ∀ A n c, v = .slice A n c → Nums w' A n (l.mergeSort fun x y => decide (x ≤ y)) := by
  by_cases h0 : l = []
  · subst h0
    obtain ⟨A, cap, rfl⟩ := h.slice
    refine (Tryz.slices_Sort_int_none A cap w).mono ?_
    rintro e w' ⟨rfl, rfl⟩
    refine ⟨rfl, World.grownBy.refl _ _, ?_⟩
    intro A' n' c' e
    injection e with e1 e2 e3
    subst e2
    exact ⟨by simp, fun h => absurd h (by simp)⟩
  · have hpos : 0 < l.length := List.length_pos_iff.2 h0
    have hN : ∀ A n c, v = .slice A n c → Nums w A n l := fun A n c e => by subst e; exact h.nums
    rcases h with ⟨rfl, rfl⟩ | ⟨g, o, cap, cur, rfl, hb, hh, hl, hm, hs, ht⟩
    · exact absurd rfl h0
    · obtain ⟨_, hc⟩ := hN _ _ _ rfl
      obtain ⟨g', o', e, hcell⟩ := hc hpos
      injection e with e
      injection e with e1 e2
      subst e1 e2
      have hH : Go.Sort.Holds (Value.int .i64) w g o l.toArray := by
        intro j hj
        have hj' : j < l.length := by simpa using hj
        refine ⟨?_, by simp [World.frozen?, hh]⟩
        rw [hcell j hj']
        simp [List.getD, List.getElem?_eq_getElem hj']
      have hglt : g < w.heap.size := (Array.getElem?_eq_some_iff.1 hh).1
      refine (Tryz.slices_Sort_int g o cap l w hH hglt (by omega)).mono ?_
      rintro e w' ⟨rfl, n, os, rfl⟩
      have hblk : ∀ k, k < w.heap.size → k ≠ g → (Go.Sort.grow (Go.Sort.putRow (Value.int .i64) (Go.Sort.ahead w n) g o (l.mergeSort fun x y => decide (x ≤ y)).toArray) os).heap[k]? = w.heap[k]? := by
        intro k hk hne
        have hsz : (Go.Sort.putRow (Value.int .i64) (Go.Sort.ahead w n) g o (l.mergeSort fun x y => decide (x ≤ y)).toArray).heap.size = w.heap.size := by simp [Go.Sort.ahead]
        show ((Go.Sort.putRow (Value.int .i64) (Go.Sort.ahead w n) g o (l.mergeSort fun x y => decide (x ≤ y)).toArray).heap ++ os)[k]? = _
        rw [Array.getElem?_append_left (by omega)]
        simp only [Go.Sort.putRow, Go.Sort.mapBlock]
        rw [Array.getElem?_modify, if_neg (by omega)]
        rfl
      refine ⟨rfl, ⟨rfl, rfl, rfl, ?_, ?_⟩, ?_⟩
      · simp [Go.Sort.grow, Go.Sort.ahead]
      · intro k hk hne
        exact hblk k hk (fun e => hne (by rw [e]; rfl))
      · intro A n' c' e
        injection e with e1 e2 e3
        subst e1 e2
        refine ⟨by simp, fun _ => ⟨g, o, rfl, fun k hk => ?_⟩⟩
        have hp := Go.Sort.holds_putRow (Value.int .i64) (Go.Sort.ahead w n) g o l.toArray (l.mergeSort fun x y => decide (x ≤ y)).toArray (Go.Sort.holds_ahead _ w n g o _ hH) (by simp)
        have hk' : k < (l.mergeSort fun x y => decide (x ≤ y)).toArray.size := by simpa using hk
        have h1 := (hp k hk').1
        have h2 : (Go.Sort.grow (Go.Sort.putRow (Value.int .i64) (Go.Sort.ahead w n) g o (l.mergeSort fun x y => decide (x ≤ y)).toArray) os).cell? ⟨g, o + k, none⟩ = (Go.Sort.putRow (Value.int .i64) (Go.Sort.ahead w n) g o (l.mergeSort fun x y => decide (x ≤ y)).toArray).cell? ⟨g, o + k, none⟩ := by
          apply World.cell?_of_block
          show ((Go.Sort.putRow (Value.int .i64) (Go.Sort.ahead w n) g o (l.mergeSort fun x y => decide (x ≤ y)).toArray).heap ++ os)[g]? = _
          rw [Array.getElem?_append_left (by simp [Go.Sort.ahead]; exact hglt)]
        rw [h2, h1]
        have hk2 : k < (l.mergeSort fun x y => decide (x ≤ y)).length := by simpa using hk
        simp [List.getD, List.getElem?_eq_getElem hk2]

theorem AncW.mk_ (pl : List Value) (w : World) : AncW w.heap.size w.heap.size (w.heap.size + 1 + 1) (w.heap.size + 1 + 1 + 1) (w.heap.size + 1) pl [] nilS w
    ((((w.alloc (.cells pl.toArray 30)).alloc (.cells #[nilS] 33)).alloc (.map #[] 0)).alloc (.cells #[.map (some (w.heap.size + 1 + 1))] 89)) := by
  have z1 : (w.alloc (.cells pl.toArray 30)).heap.size = w.heap.size + 1 := by simp
  have z2 : ((w.alloc (.cells pl.toArray 30)).alloc (.cells #[nilS] 33)).heap.size = w.heap.size + 1 + 1 := by simp
  have z3 : (((w.alloc (.cells pl.toArray 30)).alloc (.cells #[nilS] 33)).alloc (.map #[] 0)).heap.size = w.heap.size + 1 + 1 + 1 := by simp
  refine ⟨(((Bl.new w 30 pl).alloc _).alloc _).alloc _, ?_, ⟨.map [], ?_, fun x => by simp [DataW.atKey]⟩, ?_, .inl ⟨rfl, rfl⟩, ((((Below.refl _ _).alloc (Nat.le_refl _) _).alloc (by simp) _).alloc (by simp; omega) _).alloc (by simp; omega) _, Nat.le_refl _, by omega, by omega⟩
  · have := Bl.new (((w.alloc (.cells pl.toArray 30)).alloc (.cells #[nilS] 33)).alloc (.map #[] 0)) 89 [.map (some (w.heap.size + 1 + 1))]
    rw [z3] at this
    exact this
  · have := World.ownsMap_made (H := Unit) ((w.alloc (.cells pl.toArray 30)).alloc (.cells #[nilS] 33)) Tryz.prog 3 (plainElem Tryz.prog 4)
    rw [z2] at this
    exact this.alloc _
  · have := Bl.new (w.alloc (.cells pl.toArray 30)) 33 [nilS]
    rw [z1] at this
    exact (this.alloc _).alloc _

def AncPost (ss : List (List Int)) (cls : Int) (w : World) (e : Ending) (w' : World) : Prop :=
  ∃ (l : List Int) (A : Option Addr) (cap : Nat), e = .returned (.slice A l.length cap) ∧ Anc ss cls l ∧ l.length ≤ ss.length ∧ Nums w' A l.length l ∧ (0 < l.length → ∃ g o, A = some ⟨g, o, none⟩ ∧ g < w'.heap.size) ∧ Below w.heap.size w w'

theorem Anc.none {ss : List (List Int)} {cls : Int} (h : inR ss.length cls = false) : Anc ss cls [] := by
  refine ⟨.nil, fun x => ⟨fun hx => (by cases hx), fun hx => ?_⟩⟩
  exfalso
  have : ∀ a b, Rch ss a b → inR ss.length a = true := by
    intro a b hab
    induction hab with
    | one h1 _ =>
      unfold par at h1
      split at h1
      · assumption
      · cases h1
    | snoc _ _ _ ih => exact ih
  rw [this _ _ hx] at h
  cases h

theorem Fnd.cls {ss : List (List Int)} {c : Int} {i : Nat} {l : List Int} (h : Fnd ss c i l) : ∀ x ∈ l, inR ss.length x = true := fun x hx => (h.rc x hx).inR

set_option maxRecDepth 100000 in
set_option maxHeartbeats 8000000 in
theorem ancestors_any (A : Option Addr) (n c : Nat) (xs : List ClC) (ps : List (List Ty)) (cls : Int) (m1 m2 m3 m4 m5 : Value) (w : World) (hl : n = xs.length) (hn : n ≤ 1048576) (hV : ClsV w w.heap.size A xs ps) :
    Calls Tryz.prog 22 #[prgM A n c m1 m2 m3 m4 m5, .int .i64 cls] w (AncPost (symL ps) cls w) := by
  have hs : (symL ps).length = n := by unfold symL; rw [List.length_map, hV.len, hl]
  have HS := Lib.hid hs
  have HL := Lib.hid hl
  have HV := Lib.hid hV
  have hmm := @run_makeMap Tryz.prog
  clear hs hl hV
  by_cases hin : inR n cls = true
  · have hin' := inR_iff.1 hin
    obtain ⟨k0, rfl⟩ : ∃ k0 : Nat, cls = (k0 : Int) := ⟨cls.toNat, by omega⟩
    have hk0 : k0 < n := by omega
    have AW := Lib.hid (AncW.mk_ [.slice A n c, m1, m2, m3, m4, m5] w)
    go_enter Tryz.func22, Tryz.ntmps22
    go_wp2_with fail
    refine (exists_is _ n _ _ true (by simpa using hin') _).mono ?_
    rintro e w' ⟨rfl, rfl⟩
    go_wp2_with fail
    refine (add_any _ _ _ _ _ A n c xs ps m1 m2 m3 m4 m5 [] _ k0 w _ HL.out hn HV.out AW.out (by simp) (by simp) hk0).mono ?_
    rintro e w1 ⟨⟨u, rfl⟩, v1, hA1⟩
    have HA1 := Lib.hid hA1
    have HF1 := Lib.hid (show Fnd (symL ps) (k0 : Int) 0 (addF n [] (par (symL ps) k0)) from by
      have := Fnd.start (symL ps) (k0 : Int)
      rw [HS.out] at this
      exact this)
    clear hA1 AW hmm hin
    go_wp2_with fail
    go_loopw [8] (fun i wr => ∃ (j : Nat) (l : List Int) (v : Value), i = .int .i64 j ∧ Fnd (symL ps) (k0 : Int) j l ∧ AncW w.heap.size w.heap.size (w.heap.size + 1 + 1) (w.heap.size + 1 + 1 + 1) (w.heap.size + 1) [.slice A n c, m1, m2, m3, m4, m5] l v w wr) (fun i _ => n - (intOf i).toNat)
    case atStart => exact ⟨0, _, v1, rfl, HF1.out, HA1.out⟩
    case round =>
      obtain ⟨j, l, v, rfl, hF, hA⟩ := hrel
      have hle := hF.le
      have hrng := hF.rng
      rw [HS.out] at hrng
      have HF := Lib.hid hF
      have HA := Lib.hid hA
      obtain ⟨A2, cap2, rfl⟩ := hA.row.slice
      have a0 := hA.ba.cell 0
      simp only [List.getElem?_cons_zero] at a0
      have hNm := Lib.hid hA.row.nums
      have hBa := hA.ba.lt
      have hsz := hA.size
      clear hF hA HA1 HF1
      by_cases hjl : j < l.length
      · obtain ⟨y, hy⟩ : ∃ y, l[j]? = some y := ⟨_, List.getElem?_eq_getElem hjl⟩
        obtain ⟨g, o, rfl, hcell⟩ := hNm.out.2 (by omega)
        have cj := hcell j hjl
        have hgd : l.getD j 0 = y := by simp [List.getD, hy]
        rw [hgd] at cj
        have hyr := HF.out.cls y (List.mem_of_getElem? hy)
        rw [HS.out] at hyr
        have hyr' := inR_iff.1 hyr
        obtain ⟨k1, rfl⟩ : ∃ k1 : Nat, y = (k1 : Int) := ⟨y.toNat, by omega⟩
        have hk1 : k1 < n := by omega
        have HF2 := Lib.hid (show Fnd (symL ps) (k0 : Int) (j + 1) (addF n l (par (symL ps) k1)) from by
          have := HF.out.step hy
          rw [HS.out] at this
          exact this)
        have HC := Lib.hid (show ∀ x ∈ l, inR n x = true from fun x hx => by
          have := HF.out.cls x hx
          rw [HS.out] at this
          exact this)
        have HND := Lib.hid HF.out.nd
        clear hcell hgd hy hyr hyr' hNm
        go_wp2_with fail
        refine (add_any _ _ _ _ _ A n c xs ps m1 m2 m3 m4 m5 l _ k1 w _ HL.out hn HV.out HA.out HND.out HC.out hk1).mono ?_
        rintro e w2 ⟨⟨u, rfl⟩, v2, hA2⟩
        have HA2 := Lib.hid hA2
        clear hA2 a0 cj
        go_wp2_with fail
        go_roundw
        case rel => exact ⟨j + 1, _, v2, by go_num, HF2.out, HA2.out⟩
        case measure => simp [intOf]; omega
      · have hjn : j = l.length := by omega
        subst hjn
        have HAnc := Lib.hid (Anc.sorted HF.out)
        go_wp2_with fail
        refine (sort_any _ _ l _ HA.out.row (by omega)).mono ?_
        rintro e w2 ⟨rfl, hg2, hN2⟩
        have hbne : (Value.slice A2 l.length cap2).ownBlock ≠ some (w.heap.size + 1) := HA.out.row.ne_bl HA.out.ba (by decide)
        have a2 : w2.cell? ⟨w.heap.size + 1, 0, none⟩ = some (.slice A2 l.length cap2) := (HA.out.ba.grown hg2 hbne.symm).cell 0
        have HN2 := Lib.hid (hN2 _ _ _ rfl)
        have HB2 := Lib.hid (HA.out.be.grown hg2 hsz (fun g hg' => (HA.out.row.lt g hg').1))
        have HG := Lib.hid (show 0 < l.length → ∃ g o, A2 = some ⟨g, o, none⟩ ∧ g < w2.heap.size from fun h0 => by
          obtain ⟨g, o, e, _⟩ := hNm.out.2 h0
          subst e
          exact ⟨g, o, rfl, Nat.lt_of_lt_of_le (HA.out.row.lt g rfl).2 hg2.size⟩)
        clear hg2 hN2 a0 hbne
        go_wp2_with fail
        go_ret
        refine ⟨l.mergeSort fun x y => decide (x ≤ y), A2, cap2, by simp, HAnc.out, by rw [HS.out]; simpa using hrng, by simpa using HN2.out, by simpa using HG.out, HB2.out⟩
  · have hin' : ¬ (0 ≤ cls ∧ cls < (n : Int)) := fun h => hin (inR_iff.2 h)
    have HA := Lib.hid (show Anc (symL ps) cls [] from Anc.none (by rw [HS.out]; simpa using hin))
    have HB := Lib.hid ((Below.refl w.heap.size w).alloc (Nat.le_refl _) (.cells #[.slice A n c, m1, m2, m3, m4, m5] 30))
    have hP := Lib.hid (Bl.new w 30 [.slice A n c, m1, m2, m3, m4, m5])
    have p0 := hP.out.cell 0
    simp only [List.getElem?_cons_zero] at p0
    clear hin
    go_enter Tryz.func22, Tryz.ntmps22
    go_wp2_with fail
    refine (exists_is _ n _ _ false (by simpa using hin') _).mono ?_
    rintro e w' ⟨rfl, rfl⟩
    go_wp2_with fail
    go_ret
    exact ⟨[], none, 0, rfl, HA.out, by simp, ⟨rfl, fun h => absurd h (by simp)⟩, fun h => absurd h (by simp), HB.out⟩
end Go.Proofs.YtkjjieloncdjhaaGreatDoor
