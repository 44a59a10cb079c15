/- Children, of the program and of the reference. -/
import Derived.Test.YtkjjieloncdjhaaGreatDoorV1
import Derived.Test.YtkjjieloncdjhaaGreatDoorL10
namespace Go.Proofs.YtkjjieloncdjhaaGreatDoor
open Go Go.RowKit

theorem refIn_any (i : Int) (n : Nat) (w : World) : Calls Tryz.prog 47 #[.int .i64 i, .int .i64 n] w fun e w' => e = .returned (.bool (inR n i)) ∧ w = w' := by
  unfold inR
  by_cases h0 : 0 ≤ i
  · by_cases h1 : i < n
    · have hd : decide (0 ≤ i ∧ i < (n : Int)) = true := by simp; omega
      rw [hd]; clear hd
      go_enter Tryz.func47, Tryz.ntmps47
      go_wp2
      go_ret
      exact ⟨rfl, rfl⟩
    · have hd : decide (0 ≤ i ∧ i < (n : Int)) = false := by simp; omega
      rw [hd]; clear hd
      go_enter Tryz.func47, Tryz.ntmps47
      go_wp2
      go_ret
      exact ⟨rfl, rfl⟩
  · have hd : decide (0 ≤ i ∧ i < (n : Int)) = false := by simp; omega
    rw [hd]; clear hd
    go_enter Tryz.func47, Tryz.ntmps47
    go_wp2
    go_ret
    exact ⟨rfl, rfl⟩

theorem refIn_is (i : Int) (n : Nat) (r : Bool) (h : inR n i = r) (w : World) : Calls Tryz.prog 47 #[.int .i64 i, .int .i64 n] w fun e w' => e = .returned (.bool r) ∧ w = w' := by
  rw [← h]; exact refIn_any i n w

set_option maxHeartbeats 1000000 in
theorem among_any (A : Option Addr) (n c : Nat) (xs : List Int) (x : Int) (w : World) (hn : n ≤ 100000000) (h : Nums w A n xs) : Calls Tryz.prog 49 #[.slice A n c, .int .i64 x] w fun e w' => e = .returned (.bool (decide (x ∈ xs))) ∧ w = w' := by
  obtain ⟨hl, hc⟩ := h
  have HL := Lib.hid hl
  rcases Nat.eq_zero_or_pos n with h0 | hpos
  · subst h0
    clear hc hl
    go_enter Tryz.func49, Tryz.ntmps49
    go_wp2_with fail
    refine wp_loop_rounds 1 ?_
    rw [rounds_succ]
    go_wp2_with fail
    go_ret
    have : xs = [] := List.eq_nil_of_length_eq_zero HL.out.symm
    exact ⟨by simp [this], rfl⟩
  · obtain ⟨g, o, rfl, hcell⟩ := hc hpos
    have HC := Lib.hid hcell
    clear hc hcell hl
    go_enter Tryz.func49, Tryz.ntmps49
    go_wp2_with fail
    go_loop [5] (fun i => ∃ k : Nat, k ≤ n ∧ i = .int .i64 k ∧ ∀ y ∈ xs.take k, y ≠ x) (fun i => n - (intOf i).toNat)
    case atStart => exact ⟨0, by omega, rfl, by simp⟩
    case round =>
      obtain ⟨k, hk, rfl, hy⟩ := hrel
      have HY := Lib.hid hy
      clear hy
      by_cases hlt : k < n
      · have hck := HC.out k hlt
        have HM := Lib.hid (show xs.getD k 0 ∈ xs from by
          rw [List.getD_eq_getElem?_getD, List.getElem?_eq_getElem (by rw [← HL.out]; exact hlt)]
          exact List.getElem_mem _)
        have HT := Lib.hid (take_none HY.out (by rw [← HL.out]; exact hlt))
        generalize xs.getD k 0 = v at *
        by_cases hv : v = x
        · subst hv
          have HD := Lib.hid (decide_eq_true HM.out)
          go_wp2_with fail
          go_ret
          exact ⟨by rw [HD.out]; rfl, rfl⟩
        · have hv' : (v == x) = false := by simpa using hv
          have HT2 := Lib.hid (HT.out hv)
          clear HT
          go_wp2_with fail
          go_round
          case rel => exact ⟨k + 1, by omega, by go_num, HT2.out⟩
          case measure => simp [intOf]; omega
      · have hkn : k = n := by omega
        subst hkn
        have HD := Lib.hid (show decide (x ∈ xs) = false from decide_eq_false (fun hx => HY.out x (by rw [HL.out, List.take_length]; exact hx) rfl))
        go_wp2_with fail
        go_ret
        exact ⟨by rw [HD.out]; rfl, rfl⟩

/-- A row that has not changed since. -/
theorem QRow.since {w w' : World} {base B : Nat} {v : Value} {xs : List Int} (h : QRow w base v xs) (hB : Below B w w') (hw : w.heap.size ≤ B) : QRow w' base v xs := h.below hB hw

abbrev prgM (A : Option Addr) (n c : Nat) (m1 m2 m3 m4 m5 : Value) : Value := .agg #[.slice A n c, m1, m2, m3, m4, m5]

set_option maxRecDepth 100000 in
set_option maxHeartbeats 4000000 in
theorem children_any (A : Option Addr) (n c : Nat) (xs : List ClC) (ps : List (List Ty)) (cls : Int) (m1 m2 m3 m4 m5 : Value) (w : World) (hl : n = xs.length) (hn : n ≤ 1048576) (hV : ClsV w w.heap.size A xs ps) :
    Calls Tryz.prog 20 #[prgM A n c m1 m2 m3 m4 m5, .int .i64 cls] w fun e w' => ∃ v, e = .returned v ∧ QRow w' w.heap.size v (childF (symL ps) cls) ∧ Below w.heap.size w w' := by
  have hs : (symL ps).length = n := by unfold symL; rw [List.length_map, hV.len, hl]
  have HS := Lib.hid hs
  have HL := Lib.hid hl
  have HV := Lib.hid hV
  have hP := Lib.hid (Bl.new w 30 [.slice A n c, m1, m2, m3, m4, m5])
  have HB := Lib.hid ((Below.refl w.heap.size w).alloc (Nat.le_refl _) (.cells #[.slice A n c, m1, m2, m3, m4, m5] 30))
  have p0 := hP.out.cell 0
  simp only [List.getElem?_cons_zero] at p0
  clear hs hl hV
  by_cases hin : inR n cls = true
  · have hin' := inR_iff.1 hin
    have HC := Lib.hid (show childF (symL ps) cls = pickP (fun x => decide (cls ∈ par (symL ps) x)) n from by
      unfold childF
      rw [HS.out, if_pos hin])
    rw [HC.out]
    clear HC
    go_enter Tryz.func20, Tryz.ntmps20
    go_wp2_with fail
    refine (exists_is _ n _ _ true (by simpa using hin') _).mono ?_
    rintro e w' ⟨rfl, rfl⟩
    go_wp2_with fail
    go_loopw [5, 16] (fun v i wr => ∃ k : Nat, k ≤ n ∧ i = .int .i64 k ∧ QRow wr w.heap.size v (pickP (fun x => decide (cls ∈ par (symL ps) x)) k) ∧ Below w.heap.size w wr) (fun _ i _ => n - (intOf i).toNat)
    case atStart => exact ⟨0, by omega, rfl, .inl ⟨rfl, rfl⟩, HB.out⟩
    case round =>
      obtain ⟨k, hk, rfl, hQ, hB⟩ := hrel
      have HQ := Lib.hid hQ
      have HBr := Lib.hid hB
      clear hQ hB p0
      by_cases hlt : k < n
      · have hkx : k < xs.length := by rw [← HL.out]; exact hlt
        have hkp : k < ps.length := by rw [HV.out.len]; exact hkx
        obtain ⟨x, hx⟩ : ∃ x, xs[k]? = some x := ⟨_, List.getElem?_eq_getElem hkx⟩
        obtain ⟨ts, hts⟩ : ∃ ts, ps[k]? = some ts := ⟨_, List.getElem?_eq_getElem hkp⟩
        have HPar := Lib.hid (par_at hts)
        have HV2 := Lib.hid (HV.out.below HBr.out)
        obtain ⟨b, o, hb, ⟨rfl, ne, lt, k0, k1, k2, k3, k4, k5, k6, k7, k8, k9, k10, k11, k12⟩⟩ := HV2.out.at_ k x hx
        obtain ⟨hlen, hT⟩ := HV2.out.pa k x ts hx hts
        have HT := Lib.hid hT
        have hsz := HBr.out.size
        have hlq : (pickP (fun x => decide (cls ∈ par (symL ps) x)) k).length ≤ k := pickP_length _ _
        have b1 := Lib.hid ((Below.refl wr.heap.size wr).alloc (Nat.le_refl _) (.cells x.cells.toArray 37))
        have hB1 := Lib.hid (Bl.new wr 37 x.cells)
        have c5 := hB1.out.cell 5
        simp only [List.getElem?_cons_zero, List.getElem?_cons_succ] at c5
        clear hx hts hT
        go_wp2_with fail
        refine (parentsOf_any x.pr.a x.pr.l x.pr.c ts _ HT.out.1 (by rw [HT.out.1]; exact hlen) (fun h0 => ?_)).mono ?_
        · obtain ⟨g, o', e, hTy⟩ := HT.out.2 (by rw [← HT.out.1]; exact h0)
          exact ⟨g, o', e, hTy.below (b1.out.mono hsz) (by simp; omega)⟩
        rintro e w1 ⟨v1, rfl, ho, hB2⟩
        have hq1 := QRow.of ho
        obtain ⟨A1, cap1, rfl⟩ := hq1.slice
        have HN1 := Lib.hid hq1.nums
        have hl1 := symsOf_le ts
        have HB2 := Lib.hid hB2
        have HQ1 := Lib.hid ((HQ.out.alloc (.cells x.cells.toArray 37)).below hB2 (Nat.le_refl _))
        have HB3 := Lib.hid (HBr.out.trans ((b1.out.mono hsz).trans (hB2.mono (by simp; omega))))
        clear ho hq1 hB2 hB1 c5 k0 k1 k2 k3 k4 k5 k6 k7 k8 k9 k10 k11 k12
        go_wp2_with fail
        refine (contains_any A1 _ cap1 (symsOf ts) cls _ (by omega) HN1.out).mono ?_
        rintro e w' ⟨rfl, rfl⟩
        by_cases hc : cls ∈ symsOf ts
        · have hd : decide (cls ∈ symsOf ts) = true := decide_eq_true hc
          have HE := Lib.hid (show pickP (fun x => decide (cls ∈ par (symL ps) x)) (k + 1) = pickP (fun x => decide (cls ∈ par (symL ps) x)) k ++ [(k : Int)] from by
            rw [pickP_succ, HPar.out, hd]; simp)
          rw [hd]
          clear hd hc
          go_wp2_with (at_builtin; refine wpList_append_q rfl _ _ rfl rfl (HQ1.out.alloc _) ⟨w1.heap.size, 0, none⟩ 1 (k : Int) rfl (cell_new_l w1 _ 3).1 (by omega) (by have := HB3.out.size; simp; omega) ?_)
          intro v' w2 hq2 hg2 _
          have HQ2 := Lib.hid hq2
          have HB4 := Lib.hid ((HB3.out.alloc HB3.out.size (.cells #[.int .i64 (k : Int)] 3)).grown hg2 (by have := HB3.out.size; simp; omega) (fun g hg' => (HQ1.out.lt g hg').1))
          clear hq2 hg2
          go_wp2_with fail
          go_roundw
          case rel => exact ⟨k + 1, by omega, by go_num, by rw [HE.out]; exact HQ2.out, HB4.out⟩
          case measure => simp [intOf]; omega
        · have hd : decide (cls ∈ symsOf ts) = false := decide_eq_false hc
          have HE := Lib.hid (show pickP (fun x => decide (cls ∈ par (symL ps) x)) (k + 1) = pickP (fun x => decide (cls ∈ par (symL ps) x)) k from by
            rw [pickP_succ, HPar.out, hd]; simp)
          rw [hd]
          clear hd hc
          go_wp2_with fail
          go_roundw
          case rel => exact ⟨k + 1, by omega, by go_num, by rw [HE.out]; exact HQ1.out, HB3.out⟩
          case measure => simp [intOf]; omega
      · have hkn : k = n := by omega
        subst hkn
        go_wp2_with fail
        go_ret
        exact ⟨_, rfl, HQ.out, HBr.out⟩
  · have hin' : ¬ (0 ≤ cls ∧ cls < (n : Int)) := fun h => hin (inR_iff.2 h)
    have HC := Lib.hid (show childF (symL ps) cls = [] from by
      unfold childF
      rw [HS.out, if_neg hin])
    rw [HC.out]
    clear HC
    go_enter Tryz.func20, Tryz.ntmps20
    go_wp2_with fail
    refine (exists_is _ n _ _ false (by simpa using hin') _).mono ?_
    rintro e w' ⟨rfl, rfl⟩
    go_wp2_with fail
    go_ret
    exact ⟨_, rfl, .inl ⟨rfl, rfl⟩, HB.out⟩
end Go.Proofs.YtkjjieloncdjhaaGreatDoor
namespace Go.Proofs.YtkjjieloncdjhaaGreatDoor
open Go Go.RowKit

theorem QRow.ne_bl {w : World} {base g : Nat} {t : TypeId} {l : List Value} {v : Value} {xs : List Int} (h : QRow w base v xs) (hb : Bl w g t l) (hne : t ≠ 3) : v.ownBlock ≠ some g := by
  rcases h with ⟨rfl, _⟩ | ⟨g', o, cap, cur, rfl, _, hh, _⟩
  · simp [Value.ownBlock]
  · intro he
    have e1 : g' = g := by simpa [Value.ownBlock] using he
    subst e1
    have := hh.symm.trans hb
    simp at this
    exact hne this.2.symm

/-- What the reference has found of a class's children when it has looked at some parents of the next. -/
def inF (base : List Int) (k : Nat) (cls : Int) (ts : List Ty) : List Int := base ++ (if cls ∈ symsOf ts then [(k : Int)] else [])
theorem inF_no {base : List Int} {k : Nat} {cls : Int} {ts : List Ty} {j : Nat} {t : Ty} (ht : ts[j]? = some t) (h : ¬ (t.kd = 10 ∧ t.sy = cls)) : inF base k cls (ts.take (j + 1)) = inF base k cls (ts.take j) := by
  obtain ⟨hlt, he⟩ := List.getElem?_eq_some_iff.1 ht
  unfold inF
  rw [List.take_succ_eq_append_getElem hlt, symsOf_snoc, he]
  by_cases h10 : t.kd = 10
  · have h2 : ¬ cls = t.sy := fun e => h ⟨h10, e.symm⟩
    simp [h10, h2]
  · simp [h10]
theorem inF_yes {base : List Int} {k : Nat} {cls : Int} {ts : List Ty} {j : Nat} {t : Ty} (ht : ts[j]? = some t) (h : t.kd = 10 ∧ t.sy = cls) (hb : (k : Int) ∉ base) :
    inF base k cls (ts.take (j + 1)) = (if (k : Int) ∈ inF base k cls (ts.take j) then inF base k cls (ts.take j) else inF base k cls (ts.take j) ++ [(k : Int)]) := by
  obtain ⟨hlt, he⟩ := List.getElem?_eq_some_iff.1 ht
  unfold inF
  rw [List.take_succ_eq_append_getElem hlt, symsOf_snoc, he]
  by_cases hc : cls ∈ symsOf (ts.take j)
  · simp [h.1, hc]
  · simp [h.1, h.2, hc, hb]

set_option maxRecDepth 100000 in
set_option maxHeartbeats 8000000 in
theorem refChildren_any (A : Option Addr) (n c : Nat) (xs : List ClC) (ps : List (List Ty)) (cls : Int) (m1 m2 m3 m4 m5 : Value) (w : World) (hl : n = xs.length) (hn : n ≤ 1048576) (hV : ClsV w w.heap.size A xs ps) :
    Calls Tryz.prog 21 #[prgM A n c m1 m2 m3 m4 m5, .int .i64 cls] w fun e w' => ∃ v, e = .returned v ∧ QRow w' w.heap.size v (childF (symL ps) cls) ∧ Below w.heap.size w w' := by
  have hs : (symL ps).length = n := by unfold symL; rw [List.length_map, hV.len, hl]
  have HS := Lib.hid hs
  have HL := Lib.hid hl
  have HV := Lib.hid hV
  have hP := Lib.hid ((Bl.new w 30 [.slice A n c, m1, m2, m3, m4, m5]).alloc (.cells #[] 3))
  have HB := Lib.hid (((Below.refl w.heap.size w).alloc (Nat.le_refl _) (.cells #[.slice A n c, m1, m2, m3, m4, m5] 30)).alloc (by simp) (.cells #[] 3))
  have HQ0 := Lib.hid (show QRow ((w.alloc (.cells #[.slice A n c, m1, m2, m3, m4, m5] 30)).alloc (.cells #[] 3)) w.heap.size (.slice (some ⟨w.heap.size + 1, 0, none⟩) 0 0) [] from by
    have h := QRow.of (xs := []) (World.ownsRow_made (base := w.heap.size) (e := 3) (size := 1) (w.alloc (.cells #[.slice A n c, m1, m2, m3, m4, m5] 30)) #[] 0 (by simp) (by unfold maxLen; omega) rfl)
    simpa using h)
  clear hs hl hV
  by_cases hin : inR n cls = true
  · have HC := Lib.hid (show childF (symL ps) cls = pickP (fun x => decide (cls ∈ par (symL ps) x)) n from by
      unfold childF
      rw [HS.out, if_pos hin])
    rw [HC.out]
    clear HC
    have HIN := Lib.hid hin
    clear hin
    go_enter Tryz.func21, Tryz.ntmps21
    go_wp2_with fail
    go_loopw [5, 6] (fun v i wr => ∃ k : Nat, k ≤ n ∧ i = .int .i64 k ∧ QRow wr w.heap.size v (pickP (fun x => decide (cls ∈ par (symL ps) x)) k) ∧ Below w.heap.size w wr ∧ Bl wr w.heap.size 30 [.slice A n c, m1, m2, m3, m4, m5]) (fun _ i _ => n - (intOf i).toNat)
    case atStart => exact ⟨0, by omega, rfl, HQ0.out, HB.out, hP.out⟩
    case round =>
      obtain ⟨k, hk, rfl, hQ, hB, hbl⟩ := hrel
      have HQ := Lib.hid hQ
      have HBr := Lib.hid hB
      have HPr := Lib.hid hbl
      have p0 := hbl.cell 0
      simp only [List.getElem?_cons_zero] at p0
      clear hQ hB hbl hP HB HQ0
      by_cases hlt : k < n
      · have hkx : k < xs.length := by rw [← HL.out]; exact hlt
        have hkp : k < ps.length := by rw [HV.out.len]; exact hkx
        obtain ⟨x, hx⟩ : ∃ x, xs[k]? = some x := ⟨_, List.getElem?_eq_getElem hkx⟩
        obtain ⟨ts, hts⟩ : ∃ ts, ps[k]? = some ts := ⟨_, List.getElem?_eq_getElem hkp⟩
        have HPar := Lib.hid (par_at hts)
        have HX := Lib.hid hx
        have HTS := Lib.hid hts
        have HLQ := Lib.hid (pickP_length (fun x => decide (cls ∈ par (symL ps) x)) k)
        have HNK := Lib.hid (show (k : Int) ∉ pickP (fun x => decide (cls ∈ par (symL ps) x)) k from fun h => by have := pickP_lt h; omega)
        clear hx hts
        go_wp2_with fail
        refine (refIn_is _ n true HIN.out _).mono ?_
        rintro e w' ⟨rfl, rfl⟩
        go_wp2_with fail
        have HE0 := Lib.hid (show inF (pickP (fun x => decide (cls ∈ par (symL ps) x)) k) k cls (ts.take 0) = pickP (fun x => decide (cls ∈ par (symL ps) x)) k from by simp [inF, symsOf])
        go_loopw [5, 7] (fun v i wr => ∃ j : Nat, j ≤ ts.length ∧ i = .int .i64 j ∧ QRow wr w.heap.size v (inF (pickP (fun x => decide (cls ∈ par (symL ps) x)) k) k cls (ts.take j)) ∧ Below w.heap.size w wr ∧ Bl wr w.heap.size 30 [.slice A n c, m1, m2, m3, m4, m5]) (fun _ i _ => ts.length - (intOf i).toNat)
        case atStart => exact ⟨0, by omega, rfl, by rw [HE0.out]; exact HQ.out, HBr.out, HPr.out⟩
        case round =>
          obtain ⟨j, hj, rfl, hQ, hB, hbl⟩ := hrel
          have HV2 := Lib.hid (HV.out.below hB)
          obtain ⟨b, o, hb, hA⟩ := HV2.out.at_ k x HX.out
          obtain ⟨hlen, hT⟩ := HV2.out.pa k x ts HX.out HTS.out
          have HA := Lib.hid hA.ad
          have k5 := hA.k5
          have hb2 := hA.lt
          have hTl := hT.1
          have HT := Lib.hid hT
          have HQ2 := Lib.hid hQ
          have HB2 := Lib.hid hB
          have HP2 := Lib.hid hbl
          have q0 := hbl.cell 0
          simp only [List.getElem?_cons_zero] at q0
          rw [HA.out] at q0
          rw [hTl] at k5
          have hsz := hB.size
          clear hA hT hQ hB hbl p0 HQ HBr HPr
          by_cases hjl : j < ts.length
          · obtain ⟨t, ht⟩ : ∃ t, ts[j]? = some t := ⟨_, List.getElem?_eq_getElem hjl⟩
            have HTJ := Lib.hid ht
            obtain ⟨g, o', ea, hTy⟩ := HT.out.2 (by omega)
            rw [ea] at k5
            obtain ⟨t0, t1, t2, t3, t4⟩ := hTy.2 j t ht
            have hgl := hTy.1
            have hLI : (inF (pickP (fun x => decide (cls ∈ par (symL ps) x)) k) k cls (ts.take j)).length ≤ k + 1 := by
              have := HLQ.out
              unfold inF
              by_cases hc : cls ∈ symsOf (ts.take j) <;> simp [hc] <;> omega
            obtain ⟨A2, cap2, rfl⟩ := HQ2.out.slice
            obtain ⟨kd, sy, nm, nu, aa, an, ac⟩ := t
            dsimp only at t0 t1 t2 t3 t4
            have hbT := Bl.new wr 59 [.int .i64 kd, .int .i64 sy, .string nm, .int .i64 nu, .slice aa an ac]
            have c0 := hbT.cell 0
            have c1 := hbT.cell 1
            simp only [List.getElem?_cons_zero, List.getElem?_cons_succ] at c0 c1
            have HB3 := Lib.hid (HB2.out.alloc hsz (.cells #[.int .i64 kd, .int .i64 sy, .string nm, .int .i64 nu, .slice aa an ac] 59))
            have HQ3 := Lib.hid (HQ2.out.alloc (.cells #[.int .i64 kd, .int .i64 sy, .string nm, .int .i64 nu, .slice aa an ac] 59))
            have HP3 := Lib.hid (HP2.out.alloc (.cells #[.int .i64 kd, .int .i64 sy, .string nm, .int .i64 nu, .slice aa an ac] 59))
            clear ht hTy hbT
            by_cases hyes : kd = 10 ∧ sy = cls
            · obtain ⟨rfl, rfl⟩ := hyes
              have HE := Lib.hid (inF_yes HTJ.out ⟨rfl, rfl⟩ HNK.out)
              go_wp2_with fail
              refine (among_any A2 _ cap2 _ (k : Int) _ (by omega) HQ3.out.nums).mono ?_
              rintro e w' ⟨rfl, rfl⟩
              by_cases hm : (k : Int) ∈ inF (pickP (fun x => decide (sy ∈ par (symL ps) x)) k) k sy (ts.take j)
              · have hd := decide_eq_true hm
                have HE2 := Lib.hid (HE.out.trans (if_pos hm))
                rw [hd]
                clear hd hm HE
                go_wp2_with fail
                go_roundw
                case rel => exact ⟨j + 1, by omega, by go_num, by rw [HE2.out]; exact HQ3.out, HB3.out, HP3.out⟩
                case measure => simp [intOf]; omega
              · have hd := decide_eq_false hm
                have HE2 := Lib.hid (HE.out.trans (if_neg hm))
                rw [hd]
                clear hd hm HE
                generalize inF (pickP (fun x => decide (sy ∈ par (symL ps) x)) k) k sy (ts.take j) = L at *
                go_wp2_with (at_builtin; refine wpList_append_q rfl _ _ rfl rfl (HQ3.out.alloc _) ⟨wr.heap.size + 1, 0, none⟩ 1 (k : Int) rfl ?_ (by omega) (by simp; omega) ?_)
                · have := (cell_new_l (wr.alloc (.cells #[.int .i64 10, .int .i64 sy, .string nm, .int .i64 nu, .slice aa an ac] 59)) (.int .i64 (k : Int)) 3).1
                  simp
                intro v' w2 hq2 hg2 _
                have HQ4 := Lib.hid hq2
                have HB4 := Lib.hid ((HB3.out.alloc HB3.out.size (.cells #[.int .i64 (k : Int)] 3)).grown hg2 (by simp; omega) (fun g hg' => (HQ3.out.lt g hg').1))
                have HP4 := Lib.hid ((HP3.out.alloc (.cells #[.int .i64 (k : Int)] 3)).grown hg2 (fun e => (HQ3.out.ne_bl HP3.out (by decide)) e.symm))
                clear hq2 hg2
                go_wp2_with fail
                go_roundw
                case rel => exact ⟨j + 1, by omega, by go_num, by rw [HE2.out]; exact HQ4.out, HB4.out, HP4.out⟩
                case measure => simp [intOf]; omega
            · have HE := Lib.hid (inF_no (base := pickP (fun x => decide (cls ∈ par (symL ps) x)) k) (k := k) (cls := cls) HTJ.out hyes)
              by_cases h10 : kd = 10
              · subst h10
                have hsy : (sy == cls) = false := by
                  have : sy ≠ cls := fun e => hyes ⟨rfl, e⟩
                  simpa using this
                clear hyes
                go_wp2_with fail
                go_roundw
                case rel => exact ⟨j + 1, by omega, by go_num, by rw [HE.out]; exact HQ3.out, HB3.out, HP3.out⟩
                case measure => simp [intOf]; omega
              · have hkd : (kd == 10) = false := by simpa using h10
                clear hyes h10
                go_wp2_with fail
                go_roundw
                case rel => exact ⟨j + 1, by omega, by go_num, by rw [HE.out]; exact HQ3.out, HB3.out, HP3.out⟩
                case measure => simp [intOf]; omega
          · have hjn : j = ts.length := by omega
            subst hjn
            have HE := Lib.hid (show inF (pickP (fun x => decide (cls ∈ par (symL ps) x)) k) k cls (ts.take ts.length) = pickP (fun x => decide (cls ∈ par (symL ps) x)) (k + 1) from by
              rw [List.take_length, pickP_succ, HPar.out]
              unfold inF
              by_cases hc : cls ∈ symsOf ts <;> simp [hc])
            go_wp2_with fail
            go_roundw
            case rel => exact ⟨k + 1, by omega, by go_num, by rw [← HE.out]; exact HQ2.out, HB2.out, HP2.out⟩
            case measure => simp [intOf]; omega
      · have hkn : k = n := by omega
        subst hkn
        go_wp2_with fail
        go_ret
        exact ⟨_, rfl, HQ.out, HBr.out⟩
  · have HC := Lib.hid (show childF (symL ps) cls = [] from by
      unfold childF
      rw [HS.out, if_neg hin])
    rw [HC.out]
    have HIN := Lib.hid (show inR n cls = false from by simpa using hin)
    clear HC hin
    have p0 := hP.out.cell 0
    simp only [List.getElem?_cons_zero] at p0
    by_cases h0 : 0 < n
    · go_enter Tryz.func21, Tryz.ntmps21
      go_wp2_with fail
      refine wp_loop_rounds 1 ?_
      rw [rounds_succ]
      go_wp2_with fail
      refine (refIn_is _ n false HIN.out _).mono ?_
      rintro e w' ⟨rfl, rfl⟩
      go_wp2_with fail
      go_ret
      exact ⟨_, rfl, HQ0.out, HB.out⟩
    · have hn0 : n = 0 := by omega
      subst hn0
      go_enter Tryz.func21, Tryz.ntmps21
      go_wp2_with fail
      refine wp_loop_rounds 1 ?_
      rw [rounds_succ]
      go_wp2_with fail
      go_ret
      exact ⟨_, rfl, HQ0.out, HB.out⟩
end Go.Proofs.YtkjjieloncdjhaaGreatDoor
