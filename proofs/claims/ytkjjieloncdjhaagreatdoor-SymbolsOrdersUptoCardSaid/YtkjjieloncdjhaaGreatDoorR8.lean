/- Ancestors of the reference. -/
import Derived.Test.YtkjjieloncdjhaaGreatDoorR5
import Derived.Test.YtkjjieloncdjhaaGreatDoorR3
import Derived.Test.YtkjjieloncdjhaaGreatDoorL21
import Derived.Test.YtkjjieloncdjhaaGreatDoorC
namespace Go.Proofs.YtkjjieloncdjhaaGreatDoor
open Go Go.RowKit

/-- What the reference has found when it has looked at i classes of its queue. -/
structure Fnq (ss : List (List Int)) (c : Int) (i : Nat) (l : List Int) : Prop where
  nd : l.Nodup
  rc : ∀ x ∈ l, Rch ss c x
  cl : ∀ (j : Nat) (y : Int), j < i → (c :: l)[j]? = some y → ∀ x ∈ par ss y, inR ss.length x = true → x ∈ l
  le : i ≤ l.length + 1

theorem Fnq.start (ss : List (List Int)) (c : Int) : Fnq ss c 0 [] := ⟨by simp, by simp, by omega, by omega⟩
theorem Fnq.cls {ss : List (List Int)} {c : Int} {i : Nat} {l : List Int} (h : Fnq ss c i l) : ∀ x ∈ l, inR ss.length x = true := fun x hx => (h.rc x hx).inR
theorem Fnq.rng {ss : List (List Int)} {c : Int} {i : Nat} {l : List Int} (h : Fnq ss c i l) : l.length ≤ ss.length := nodup_le h.nd h.cls
theorem Fnq.step {ss : List (List Int)} {c : Int} {i : Nat} {l : List Int} (h : Fnq ss c i l) {y : Int} (hy : (c :: l)[i]? = some y) : Fnq ss c (i + 1) (addF ss.length l (par ss y)) := by
  have hp := addF_prefix ss.length (par ss y) l
  have hlt : i < l.length + 1 := by simpa using (List.getElem?_eq_some_iff.1 hy).1
  refine ⟨addF_nodup _ _ _ h.nd, ?_, ?_, ?_⟩
  · intro x hx
    rw [addF_mem] at hx
    rcases hx with hx | ⟨h1, h2⟩
    · exact h.rc x hx
    · cases i with
      | zero =>
        have e : y = c := by simpa using hy.symm
        subst e
        exact .one h1 h2
      | succ i =>
        have hm : y ∈ l := List.mem_of_getElem? (by simpa using hy)
        exact .snoc (h.rc y hm) h1 h2
  · intro j z hj hz x hx hr
    have hjl : j < l.length + 1 := by omega
    have hz' : (c :: l)[j]? = some z := by
      obtain ⟨t, ht⟩ := hp
      rw [← ht, ← List.cons_append, List.getElem?_append_left (by simpa using hjl)] at hz
      exact hz
    by_cases he : j = i
    · subst he
      rw [hy] at hz'
      cases hz'
      rw [addF_mem]
      exact .inr ⟨hx, hr⟩
    · exact hp.subset (h.cl j z (by omega) hz' x hx hr)
  · have := hp.length_le
    omega
theorem Fnq.all {ss : List (List Int)} {c : Int} {l : List Int} (h : Fnq ss c (l.length + 1) l) : Fnd ss c l.length l :=
  ⟨h.nd, h.rc, fun x hx hr => h.cl 0 c (by omega) (by simp) x hx hr, fun j y hj hy x hx hr => h.cl (j + 1) y (by omega) (by simpa using hy) x hx hr, Nat.le_refl _⟩

def sliceLen : Value → Nat
  | .slice _ n _ => n
  | _ => 0

theorem drop_snoc {c s : Int} {l : List Int} {i : Nat} (h : i ≤ l.length + 1) : (c :: (l ++ [s])).drop i = (c :: l).drop i ++ [s] := by
  rw [← List.cons_append, List.drop_append_of_le_length (by simpa using h)]

/-- The parents that have been looked at, one more. -/
theorem sym_step (n : Nat) (l : List Int) {ts : List Ty} {j : Nat} {t : Ty} (ht : ts[j]? = some t) :
    addF n l (symsOf (ts.take (j + 1))) = (if t.kd = 10 ∧ inR n t.sy = true ∧ t.sy ∉ addF n l (symsOf (ts.take j)) then addF n l (symsOf (ts.take j)) ++ [t.sy] else addF n l (symsOf (ts.take j))) := by
  obtain ⟨hlt, he⟩ := List.getElem?_eq_some_iff.1 ht
  rw [List.take_succ_eq_append_getElem hlt, symsOf_snoc, he]
  by_cases h10 : t.kd = 10
  · simp only [h10, beq_self_eq_true, if_true, true_and]
    rw [addF_snoc]
  · have : (t.kd == 10) = false := by simpa using h10
    simp [h10]

structure RefA (w0 : World) (pl : List Value) (vf : Value) (l : List Int) (vq : Value) (q : List Int) (w : World) : Prop where
  f : QRow w w0.heap.size vf l
  q : QRow w w0.heap.size vq q
  se : ∀ g, vf.ownBlock = some g → vq.ownBlock ≠ some g
  bp : Bl w w0.heap.size 30 pl
  be : Below w0.heap.size w0 w
theorem RefA.alloc {w0 w : World} {pl : List Value} {vf vq : Value} {l q : List Int} (h : RefA w0 pl vf l vq q w) (o : Obj) : RefA w0 pl vf l vq q (w.alloc o) :=
  ⟨h.f.alloc o, h.q.alloc o, h.se, h.bp.alloc o, h.be.alloc h.be.size o⟩
/-- One more is found. -/
theorem RefA.found {w0 w w' : World} {pl : List Value} {vf vf' vq : Value} {l l' q : List Int} (h : RefA w0 pl vf l vq q w) (hq : QRow w' w0.heap.size vf' l') (hg : w.grownBy w' vf.ownBlock) (hv : vf'.ownBlock = vf.ownBlock ∨ vf'.ownBlock = some w.heap.size) : RefA w0 pl vf' l' vq q w' := by
  refine ⟨hq, h.q.kept hg ?_, ?_, h.bp.grown hg (fun e => (h.f.ne_bl h.bp (by decide)) e.symm), h.be.grown hg h.be.size (fun g e => (h.f.lt g e).1)⟩
  · cases hb : vf.ownBlock with
    | none => cases hq2 : vq.ownBlock <;> simp
    | some g => exact .inr (h.se g hb)
  · intro g hg1 hg2
    rcases hv with h1 | h1
    · exact h.se g (h1.symm.trans hg1) hg2
    · rw [hg1] at h1
      have e : g = w.heap.size := by simpa using h1
      have := (h.q.lt g hg2).2
      omega
/-- One more in the queue. -/
theorem RefA.queued {w0 w w' : World} {pl : List Value} {vf vq vq' : Value} {l q q' : List Int} (h : RefA w0 pl vf l vq q w) (hq : QRow w' w0.heap.size vq' q') (hg : w.grownBy w' vq.ownBlock) (hv : vq'.ownBlock = vq.ownBlock ∨ vq'.ownBlock = some w.heap.size) : RefA w0 pl vf l vq' q' w' := by
  refine ⟨h.f.kept hg ?_, hq, ?_, h.bp.grown hg (fun e => (h.q.ne_bl h.bp (by decide)) e.symm), h.be.grown hg h.be.size (fun g e => (h.q.lt g e).1)⟩
  · cases hb : vf.ownBlock with
    | none => exact .inl rfl
    | some g => exact .inr (fun e => h.se g hb e.symm)
  · intro g hg1 hg2
    rcases hv with h1 | h1
    · exact h.se g hg1 (h1.symm.trans hg2)
    · rw [hg2] at h1
      have e : g = w.heap.size := by simpa using h1
      have := (h.f.lt g hg1).2
      omega

set_option maxRecDepth 100000 in
set_option maxHeartbeats 8000000 in
theorem refAncestors_any (A : Option Addr) (n c : Nat) (xs : List ClC) (ps : List (List Ty)) (cls : Int) (m1 m2 m3 m4 m5 : Value) (w : World) (hl : n = xs.length) (hn : n ≤ 1048576) (hV : ClsV w w.heap.size A xs ps) :
    Calls Tryz.prog 23 #[prgM A n c m1 m2 m3 m4 m5, .int .i64 cls] w fun e w' => ∃ (l : List Int) (v : Value), e = .returned v ∧ QRow w' w.heap.size v l ∧ Anc (symL ps) cls l ∧ l.length ≤ n ∧ Below w.heap.size w w' := by
  have hs : (symL ps).length = n := by unfold symL; rw [List.length_map, hV.len, hl]
  have HS := Lib.hid hs
  have HL := Lib.hid hl
  have HV := Lib.hid hV
  have HR0 := Lib.hid (show RefA w [.slice A n c, m1, m2, m3, m4, m5] (.slice (some ⟨w.heap.size + 1, 0, none⟩) 0 0) [] (.slice (some ⟨w.heap.size + 1 + 1, 0, none⟩) 1 1) [cls]
      (((w.alloc (.cells #[.slice A n c, m1, m2, m3, m4, m5] 30)).alloc (.cells #[] 3)).alloc (.cells #[.int .i64 cls] 3)) from by
    have h1 := QRow.of (xs := []) (World.ownsRow_made (base := w.heap.size) (e := 3) (size := 1) (w.alloc (.cells #[.slice A n c, m1, m2, m3, m4, m5] 30)) #[] 0 (by simp) (by unfold maxLen; omega) rfl)
    have h2 := QRow.of (xs := [cls]) (World.ownsRow_lit (base := w.heap.size) (e := 3) (size := 1) ((w.alloc (.cells #[.slice A n c, m1, m2, m3, m4, m5] 30)).alloc (.cells #[] 3)) #[.int .i64 cls] 1 (by simp; omega) (by unfold maxLen; omega) rfl)
    refine ⟨by simpa using h1.alloc _, by simpa using h2, fun g hg hg' => ?_, ((Bl.new w 30 [.slice A n c, m1, m2, m3, m4, m5]).alloc _).alloc _, (((Below.refl w.heap.size w).alloc (Nat.le_refl _) _).alloc (by simp) _).alloc (by simp; omega) _⟩
    simp [Value.ownBlock] at hg hg'
    omega)
  clear hs hl hV
  go_enter Tryz.func23, Tryz.ntmps23
  go_wp2_with fail
  go_loopw [5, 6] (fun vf vq wr => ∃ (i : Nat) (l : List Int), Fnq (symL ps) cls i l ∧ RefA w [.slice A n c, m1, m2, m3, m4, m5] vf l vq ((cls :: l).drop i) wr) (fun vf vq _ => n + sliceLen vq - sliceLen vf)
  case atStart => exact ⟨0, [], Fnq.start _ _, HR0.out⟩
  case round =>
    obtain ⟨i, l, hF, hR⟩ := hrel
    have hle := hF.le
    have hrng := hF.rng
    rw [HS.out] at hrng
    have HF := Lib.hid hF
    have HR := Lib.hid hR
    obtain ⟨Af, capf, rfl⟩ := hR.f.slice
    obtain ⟨Aq, capq, rfl⟩ := hR.q.slice
    clear hF hR HR0
    by_cases hend : i < l.length + 1
    · obtain ⟨y, hy⟩ : ∃ y, (cls :: l)[i]? = some y := ⟨_, List.getElem?_eq_getElem (by simpa using hend)⟩
      have hdr : (cls :: l).drop i = y :: (cls :: l).drop (i + 1) := by
        obtain ⟨h1, h2⟩ := List.getElem?_eq_some_iff.1 hy
        rw [← h2, List.drop_eq_getElem_cons h1]
      have HY := Lib.hid hy
      have hR2 := HR.out
      have hql : ((cls :: l).drop i).length = ((cls :: l).drop (i + 1)).length + 1 := by rw [hdr]; simp
      rw [hql] at hR2
      rw [hql]
      have hq := hR2.q
      rw [hdr] at hq
      obtain ⟨g, o, rfl, _, hcap, hc0, o2, c2, hcase, hqt⟩ := hq.tail
      have hRt : RefA w [.slice A n c, m1, m2, m3, m4, m5] (.slice Af l.length capf) l (.slice (some ⟨g, o2, none⟩) ((cls :: l).drop (i + 1)).length c2) ((cls :: l).drop (i + 1)) wr := ⟨hR2.f, hqt, fun g1 h1 h2 => hR2.se g1 h1 h2, hR2.bp, hR2.be⟩
      have HRt := Lib.hid hRt
      have p0 := hR2.bp.cell 0
      simp only [List.getElem?_cons_zero] at p0
      have hbig : ((cls :: l).drop (i + 1)).length ≤ n + 1 := by simp; omega
      have hwf : sliceLen (.slice Af l.length capf) = l.length := rfl
      clear hq hR2 hy hdr hql hqt HR
      generalize hQ : (cls :: l).drop (i + 1) = Q at *
      have HQ := Lib.hid hQ
      clear hQ
      rcases hcase with ⟨rfl, rfl, rfl⟩ | ⟨hc1, rfl, rfl⟩
      · have hQ0 : Q = [] := List.eq_nil_of_length_eq_zero (by omega)
        subst hQ0
        clear HRt
        simp only [List.length_nil] at hRt
        have HRt := Lib.hid hRt
        clear hRt
        by_cases hin : inR n y = true
        · have hin' := inR_iff.1 hin
          obtain ⟨k, rfl⟩ : ∃ k : Nat, y = (k : Int) := ⟨y.toNat, by omega⟩
          have hk : k < n := by omega
          have hkx : k < xs.length := by rw [← HL.out]; exact hk
          have hkp : k < ps.length := by rw [HV.out.len]; exact hkx
          obtain ⟨x, hx⟩ : ∃ x, xs[k]? = some x := ⟨_, List.getElem?_eq_getElem hkx⟩
          obtain ⟨ts, hts⟩ : ∃ ts, ps[k]? = some ts := ⟨_, List.getElem?_eq_getElem hkp⟩
          have HX := Lib.hid hx
          have HTS := Lib.hid hts
          have HF2 := Lib.hid (show Fnq (symL ps) cls (i + 1) (addF n l (symsOf (ts.take ts.length))) from by
            have := HF.out.step HY.out
            rw [HS.out, par_at hts] at this
            rw [List.take_length]
            exact this)
          clear hx hts hkx hkp
          go_wp2_with fail
          refine (refIn_is _ n true hin _).mono ?_
          rintro e w' ⟨rfl, rfl⟩
          go_wp2_with fail
          go_loopw [5, 6, 8] (fun vf vq s8 wr => ∃ (j : Nat) (L Q' : List Int), j ≤ ts.length ∧ s8 = .int .i64 j ∧ Hid (addF n l (symsOf (ts.take j)) = L) ∧ Hid ((cls :: L).drop (i + 1) = Q') ∧ RefA w [.slice A n c, m1, m2, m3, m4, m5] vf L vq Q' wr) (fun _ _ s8 _ => ts.length - (intOf s8).toNat)
          case atStart =>
            exact ⟨0, l, _, by omega, rfl, Lib.hid (by simp [symsOf, addF]), HQ, HRt.out⟩
          case round =>
            obtain ⟨j, L, Q', hj, rfl, HLe, HQe, hR⟩ := hrel
            have HV2 := Lib.hid (HV.out.below hR.be)
            obtain ⟨b, o2, hb, hA⟩ := HV2.out.at_ k x HX.out
            obtain ⟨hlen, hT⟩ := HV2.out.pa k x ts HX.out HTS.out
            have HA := Lib.hid hA.ad
            have k5 := hA.k5
            have hTl := hT.1
            have HT := Lib.hid hT
            have q0 := hR.bp.cell 0
            simp only [List.getElem?_cons_zero] at q0
            rw [HA.out] at q0
            rw [hTl] at k5
            have hsz := hR.be.size
            have HND := Lib.hid (show L.length ≤ n from by rw [← HLe.out]; exact nodup_le (addF_nodup n _ _ HF.out.nd) (fun z hz => by
              rcases (addF_mem n _ _ z).1 hz with h1 | h1
              · have := HF.out.cls z h1
                rw [HS.out] at this
                exact this
              · exact h1.2))
            have hnd := HND.out
            have hpf : l.length ≤ L.length := by rw [← HLe.out]; exact (addF_prefix n (symsOf (ts.take j)) l).length_le
            have HSt : Hid (∀ (t : Ty) (ht : ts[j]? = some t), addF n l (symsOf (ts.take (j + 1))) = (if t.kd = 10 ∧ inR n t.sy = true ∧ t.sy ∉ L then L ++ [t.sy] else L)) := Lib.hid (fun (t : Ty) (ht : ts[j]? = some t) => by rw [← HLe.out]; exact sym_step n l ht)
            obtain ⟨Af2, capf2, rfl⟩ := hR.f.slice
            obtain ⟨Aq2, capq2, rfl⟩ := hR.q.slice
            have HR := Lib.hid hR
            have hqb : Q'.length ≤ n + 1 := by rw [← HQe.out]; simp; omega
            clear hA hT hR p0 HRt hc0
            by_cases hjl : j < ts.length
            · obtain ⟨t, ht⟩ : ∃ t, ts[j]? = some t := ⟨_, List.getElem?_eq_getElem hjl⟩
              have HE := Lib.hid (HSt.out t ht)
              obtain ⟨g2, o', ea, hTy⟩ := HT.out.2 (by omega)
              rw [ea] at k5
              obtain ⟨t0, t1, t2, t3, t4⟩ := hTy.2 j t ht
              obtain ⟨kd, sy, nm, nu, aa, an, ac⟩ := t
              dsimp only at t0 t1 t2 t3 t4 HE
              have hbT := Bl.new wr 59 [.int .i64 kd, .int .i64 sy, .string nm, .int .i64 nu, .slice aa an ac]
              have HbT := Lib.hid hbT
              have c0 := hbT.cell 0
              have c1 := hbT.cell 1
              simp only [List.getElem?_cons_zero, List.getElem?_cons_succ] at c0 c1
              have HR3 := Lib.hid (HR.out.alloc (.cells #[.int .i64 kd, .int .i64 sy, .string nm, .int .i64 nu, .slice aa an ac] 59))
              have r0 := HR3.out.bp.cell 0
              simp only [List.getElem?_cons_zero] at r0
              rw [HA.out] at r0
              clear ht hTy hbT HSt
              by_cases h10 : kd = 10
              · subst h10
                by_cases hsi : inR n sy = true
                · by_cases hm : sy ∈ L
                  · have hd := Lib.hid (decide_eq_true hm)
                    have HE2 := Lib.hid (HE.out.trans (if_neg (fun h => h.2.2 hm)))
                    clear hm HE
                    go_wp2_with fail
                    refine (refIn_is _ n true hsi _).mono ?_
                    rintro e w' ⟨rfl, rfl⟩
                    go_wp2_with fail
                    refine (among_any Af2 _ capf2 _ sy _ (by omega) HR3.out.f.nums).mono ?_
                    rintro e w' ⟨rfl, rfl⟩
                    rw [hd.out]
                    go_wp2_with fail
                    go_roundw
                    case rel => exact ⟨j + 1, L, Q', by omega, by go_num, HE2, HQe, HR3.out⟩
                    case measure => simp [intOf]; omega
                  · have hd := Lib.hid (decide_eq_false hm)
                    have HE2 := Lib.hid (HE.out.trans (if_pos ⟨rfl, hsi, hm⟩))
                    have HDS := Lib.hid (show (cls :: (L ++ [sy])).drop (i + 1) = Q' ++ [sy] from by rw [drop_snoc (by omega), HQe.out])
                    clear hm HE
                    go_wp2_with fail
                    refine (refIn_is _ n true hsi _).mono ?_
                    rintro e w' ⟨rfl, rfl⟩
                    go_wp2_with fail
                    refine (among_any Af2 _ capf2 _ sy _ (by omega) HR3.out.f.nums).mono ?_
                    rintro e w' ⟨rfl, rfl⟩
                    rw [hd.out]
                    generalize hU : wr.alloc (.cells #[.int .i64 10, .int .i64 sy, .string nm, .int .i64 nu, .slice aa an ac] 59) = U at *
                    clear hU
                    go_wp2_with (at_builtin; refine wpList_append_q rfl _ _ rfl rfl (HR3.out.f.alloc _) ⟨U.heap.size, 0, none⟩ 1 sy rfl (cell_new_l U _ 3).1 (by omega) (by have := HR3.out.be.size; simp; omega) ?_)
                    intro v3 w3 hq3 hg3 hv3
                    obtain ⟨A3, cap3, rfl⟩ := hq3.slice
                    have hl3 : (L ++ [sy]).length = L.length + 1 := by simp
                    rw [hl3] at hq3 hv3
                    rw [hl3]
                    have HR4 := Lib.hid ((HR3.out.alloc (.cells #[.int .i64 sy] 3)).found hq3 hg3 (hv3.imp id (fun h => by simpa using h)))
                    have HbT3 := Lib.hid ((HbT.out.alloc (.cells #[.int .i64 sy] 3)).grown hg3 (fun e => ((HR3.out.f.alloc (.cells #[.int .i64 sy] 3)).ne_bl (HbT.out.alloc _) (by decide)) e.symm))
                    have c1' := HbT3.out.cell 1
                    simp only [List.getElem?_cons_zero, List.getElem?_cons_succ] at c1'
                    clear hq3 hg3 hv3 c0 c1 r0 hl3
                    go_wp2_with (at_builtin; refine wpList_append_q rfl _ _ rfl rfl (HR4.out.q.alloc _) ⟨w3.heap.size, 0, none⟩ 1 sy rfl (cell_new_l w3 _ 3).1 (by omega) (by have := HR4.out.be.size; simp; omega) ?_)
                    intro v4 w4 hq4 hg4 hv4
                    obtain ⟨A4, cap4, rfl⟩ := hq4.slice
                    have hl4 : (Q' ++ [sy]).length = Q'.length + 1 := by simp
                    rw [hl4] at hq4 hv4
                    rw [hl4]
                    have HR5 := Lib.hid ((HR4.out.alloc (.cells #[.int .i64 sy] 3)).queued hq4 hg4 (hv4.imp id (fun h => by simpa using h)))
                    clear hl4
                    clear hq4 hg4 hv4 c1'
                    go_wp2_with fail
                    go_roundw
                    case rel =>
                      exact ⟨j + 1, L ++ [sy], Q' ++ [sy], by omega, by go_num, HE2, HDS, HR5.out⟩
                    case measure => simp [intOf]; omega
                · have hsi' : inR n sy = false := by simpa using hsi
                  have HE2 := Lib.hid (HE.out.trans (if_neg (fun h => hsi h.2.1)))
                  clear HE hsi
                  go_wp2_with fail
                  refine (refIn_is _ n false hsi' _).mono ?_
                  rintro e w' ⟨rfl, rfl⟩
                  go_wp2_with fail
                  go_roundw
                  case rel => exact ⟨j + 1, L, Q', by omega, by go_num, HE2, HQe, HR3.out⟩
                  case measure => simp [intOf]; omega
              · have hkd : (kd == 10) = false := by simpa using h10
                have HE2 := Lib.hid (HE.out.trans (if_neg (fun h => h10 h.1)))
                clear HE h10
                go_wp2_with fail
                go_roundw
                case rel => exact ⟨j + 1, L, Q', by omega, by go_num, HE2, HQe, HR3.out⟩
                case measure => simp [intOf]; omega
            · have hjn : j = ts.length := by omega
              subst hjn
              go_wp2_with fail
              go_roundw
              case rel => exact ⟨i + 1, L, by rw [← HLe.out]; exact HF2.out, by rw [HQe.out]; exact HR.out⟩
              case measure =>
                have h1 : Q'.length = L.length + 1 - (i + 1) := by rw [← HQe.out]; simp
                have h2 := congrArg List.length HQ.out
                simp at h2
                simp [sliceLen]
                omega
        · have hin2 : inR n y = false := by simpa using hin
          have HF2 := Lib.hid (show Fnq (symL ps) cls (i + 1) l from by
            have := HF.out.step HY.out
            rw [HS.out] at this
            have e : par (symL ps) y = [] := by
              unfold par
              rw [HS.out, if_neg hin]
            rw [e] at this
            exact this)
          clear hin
          go_wp2_with fail
          refine (refIn_is _ n false hin2 _).mono ?_
          rintro e w' ⟨rfl, rfl⟩
          go_wp2_with fail
          go_roundw
          case rel => exact ⟨i + 1, l, HF2.out, by rw [HQ.out]; exact HRt.out⟩
          case measure => simp [sliceLen]; omega
      · clear hRt
        by_cases hin : inR n y = true
        · have hin' := inR_iff.1 hin
          obtain ⟨k, rfl⟩ : ∃ k : Nat, y = (k : Int) := ⟨y.toNat, by omega⟩
          have hk : k < n := by omega
          have hkx : k < xs.length := by rw [← HL.out]; exact hk
          have hkp : k < ps.length := by rw [HV.out.len]; exact hkx
          obtain ⟨x, hx⟩ : ∃ x, xs[k]? = some x := ⟨_, List.getElem?_eq_getElem hkx⟩
          obtain ⟨ts, hts⟩ : ∃ ts, ps[k]? = some ts := ⟨_, List.getElem?_eq_getElem hkp⟩
          have HX := Lib.hid hx
          have HTS := Lib.hid hts
          have HF2 := Lib.hid (show Fnq (symL ps) cls (i + 1) (addF n l (symsOf (ts.take ts.length))) from by
            have := HF.out.step HY.out
            rw [HS.out, par_at hts] at this
            rw [List.take_length]
            exact this)
          clear hx hts hkx hkp
          go_wp2_with fail
          refine (refIn_is _ n true hin _).mono ?_
          rintro e w' ⟨rfl, rfl⟩
          go_wp2_with fail
          go_loopw [5, 6, 8] (fun vf vq s8 wr => ∃ (j : Nat) (L Q' : List Int), j ≤ ts.length ∧ s8 = .int .i64 j ∧ Hid (addF n l (symsOf (ts.take j)) = L) ∧ Hid ((cls :: L).drop (i + 1) = Q') ∧ RefA w [.slice A n c, m1, m2, m3, m4, m5] vf L vq Q' wr) (fun _ _ s8 _ => ts.length - (intOf s8).toNat)
          case atStart =>
            exact ⟨0, l, _, by omega, rfl, Lib.hid (by simp [symsOf, addF]), HQ, HRt.out⟩
          case round =>
            obtain ⟨j, L, Q', hj, rfl, HLe, HQe, hR⟩ := hrel
            have HV2 := Lib.hid (HV.out.below hR.be)
            obtain ⟨b, o2, hb, hA⟩ := HV2.out.at_ k x HX.out
            obtain ⟨hlen, hT⟩ := HV2.out.pa k x ts HX.out HTS.out
            have HA := Lib.hid hA.ad
            have k5 := hA.k5
            have hTl := hT.1
            have HT := Lib.hid hT
            have q0 := hR.bp.cell 0
            simp only [List.getElem?_cons_zero] at q0
            rw [HA.out] at q0
            rw [hTl] at k5
            have hsz := hR.be.size
            have HND := Lib.hid (show L.length ≤ n from by rw [← HLe.out]; exact nodup_le (addF_nodup n _ _ HF.out.nd) (fun z hz => by
              rcases (addF_mem n _ _ z).1 hz with h1 | h1
              · have := HF.out.cls z h1
                rw [HS.out] at this
                exact this
              · exact h1.2))
            have hnd := HND.out
            have hpf : l.length ≤ L.length := by rw [← HLe.out]; exact (addF_prefix n (symsOf (ts.take j)) l).length_le
            have HSt : Hid (∀ (t : Ty) (ht : ts[j]? = some t), addF n l (symsOf (ts.take (j + 1))) = (if t.kd = 10 ∧ inR n t.sy = true ∧ t.sy ∉ L then L ++ [t.sy] else L)) := Lib.hid (fun (t : Ty) (ht : ts[j]? = some t) => by rw [← HLe.out]; exact sym_step n l ht)
            obtain ⟨Af2, capf2, rfl⟩ := hR.f.slice
            obtain ⟨Aq2, capq2, rfl⟩ := hR.q.slice
            have HR := Lib.hid hR
            have hqb : Q'.length ≤ n + 1 := by rw [← HQe.out]; simp; omega
            clear hA hT hR p0 HRt hc0
            by_cases hjl : j < ts.length
            · obtain ⟨t, ht⟩ : ∃ t, ts[j]? = some t := ⟨_, List.getElem?_eq_getElem hjl⟩
              have HE := Lib.hid (HSt.out t ht)
              obtain ⟨g2, o', ea, hTy⟩ := HT.out.2 (by omega)
              rw [ea] at k5
              obtain ⟨t0, t1, t2, t3, t4⟩ := hTy.2 j t ht
              obtain ⟨kd, sy, nm, nu, aa, an, ac⟩ := t
              dsimp only at t0 t1 t2 t3 t4 HE
              have hbT := Bl.new wr 59 [.int .i64 kd, .int .i64 sy, .string nm, .int .i64 nu, .slice aa an ac]
              have HbT := Lib.hid hbT
              have c0 := hbT.cell 0
              have c1 := hbT.cell 1
              simp only [List.getElem?_cons_zero, List.getElem?_cons_succ] at c0 c1
              have HR3 := Lib.hid (HR.out.alloc (.cells #[.int .i64 kd, .int .i64 sy, .string nm, .int .i64 nu, .slice aa an ac] 59))
              have r0 := HR3.out.bp.cell 0
              simp only [List.getElem?_cons_zero] at r0
              rw [HA.out] at r0
              clear ht hTy hbT HSt
              by_cases h10 : kd = 10
              · subst h10
                by_cases hsi : inR n sy = true
                · by_cases hm : sy ∈ L
                  · have hd := Lib.hid (decide_eq_true hm)
                    have HE2 := Lib.hid (HE.out.trans (if_neg (fun h => h.2.2 hm)))
                    clear hm HE
                    go_wp2_with fail
                    refine (refIn_is _ n true hsi _).mono ?_
                    rintro e w' ⟨rfl, rfl⟩
                    go_wp2_with fail
                    refine (among_any Af2 _ capf2 _ sy _ (by omega) HR3.out.f.nums).mono ?_
                    rintro e w' ⟨rfl, rfl⟩
                    rw [hd.out]
                    go_wp2_with fail
                    go_roundw
                    case rel => exact ⟨j + 1, L, Q', by omega, by go_num, HE2, HQe, HR3.out⟩
                    case measure => simp [intOf]; omega
                  · have hd := Lib.hid (decide_eq_false hm)
                    have HE2 := Lib.hid (HE.out.trans (if_pos ⟨rfl, hsi, hm⟩))
                    have HDS := Lib.hid (show (cls :: (L ++ [sy])).drop (i + 1) = Q' ++ [sy] from by rw [drop_snoc (by omega), HQe.out])
                    clear hm HE
                    go_wp2_with fail
                    refine (refIn_is _ n true hsi _).mono ?_
                    rintro e w' ⟨rfl, rfl⟩
                    go_wp2_with fail
                    refine (among_any Af2 _ capf2 _ sy _ (by omega) HR3.out.f.nums).mono ?_
                    rintro e w' ⟨rfl, rfl⟩
                    rw [hd.out]
                    generalize hU : wr.alloc (.cells #[.int .i64 10, .int .i64 sy, .string nm, .int .i64 nu, .slice aa an ac] 59) = U at *
                    clear hU
                    go_wp2_with (at_builtin; refine wpList_append_q rfl _ _ rfl rfl (HR3.out.f.alloc _) ⟨U.heap.size, 0, none⟩ 1 sy rfl (cell_new_l U _ 3).1 (by omega) (by have := HR3.out.be.size; simp; omega) ?_)
                    intro v3 w3 hq3 hg3 hv3
                    obtain ⟨A3, cap3, rfl⟩ := hq3.slice
                    have hl3 : (L ++ [sy]).length = L.length + 1 := by simp
                    rw [hl3] at hq3 hv3
                    rw [hl3]
                    have HR4 := Lib.hid ((HR3.out.alloc (.cells #[.int .i64 sy] 3)).found hq3 hg3 (hv3.imp id (fun h => by simpa using h)))
                    have HbT3 := Lib.hid ((HbT.out.alloc (.cells #[.int .i64 sy] 3)).grown hg3 (fun e => ((HR3.out.f.alloc (.cells #[.int .i64 sy] 3)).ne_bl (HbT.out.alloc _) (by decide)) e.symm))
                    have c1' := HbT3.out.cell 1
                    simp only [List.getElem?_cons_zero, List.getElem?_cons_succ] at c1'
                    clear hq3 hg3 hv3 c0 c1 r0 hl3
                    go_wp2_with (at_builtin; refine wpList_append_q rfl _ _ rfl rfl (HR4.out.q.alloc _) ⟨w3.heap.size, 0, none⟩ 1 sy rfl (cell_new_l w3 _ 3).1 (by omega) (by have := HR4.out.be.size; simp; omega) ?_)
                    intro v4 w4 hq4 hg4 hv4
                    obtain ⟨A4, cap4, rfl⟩ := hq4.slice
                    have hl4 : (Q' ++ [sy]).length = Q'.length + 1 := by simp
                    rw [hl4] at hq4 hv4
                    rw [hl4]
                    have HR5 := Lib.hid ((HR4.out.alloc (.cells #[.int .i64 sy] 3)).queued hq4 hg4 (hv4.imp id (fun h => by simpa using h)))
                    clear hl4
                    clear hq4 hg4 hv4 c1'
                    go_wp2_with fail
                    go_roundw
                    case rel =>
                      exact ⟨j + 1, L ++ [sy], Q' ++ [sy], by omega, by go_num, HE2, HDS, HR5.out⟩
                    case measure => simp [intOf]; omega
                · have hsi' : inR n sy = false := by simpa using hsi
                  have HE2 := Lib.hid (HE.out.trans (if_neg (fun h => hsi h.2.1)))
                  clear HE hsi
                  go_wp2_with fail
                  refine (refIn_is _ n false hsi' _).mono ?_
                  rintro e w' ⟨rfl, rfl⟩
                  go_wp2_with fail
                  go_roundw
                  case rel => exact ⟨j + 1, L, Q', by omega, by go_num, HE2, HQe, HR3.out⟩
                  case measure => simp [intOf]; omega
              · have hkd : (kd == 10) = false := by simpa using h10
                have HE2 := Lib.hid (HE.out.trans (if_neg (fun h => h10 h.1)))
                clear HE h10
                go_wp2_with fail
                go_roundw
                case rel => exact ⟨j + 1, L, Q', by omega, by go_num, HE2, HQe, HR3.out⟩
                case measure => simp [intOf]; omega
            · have hjn : j = ts.length := by omega
              subst hjn
              go_wp2_with fail
              go_roundw
              case rel => exact ⟨i + 1, L, by rw [← HLe.out]; exact HF2.out, by rw [HQe.out]; exact HR.out⟩
              case measure =>
                have h1 : Q'.length = L.length + 1 - (i + 1) := by rw [← HQe.out]; simp
                have h2 := congrArg List.length HQ.out
                simp at h2
                simp [sliceLen]
                omega
        · have hin2 : inR n y = false := by simpa using hin
          have HF2 := Lib.hid (show Fnq (symL ps) cls (i + 1) l from by
            have := HF.out.step HY.out
            rw [HS.out] at this
            have e : par (symL ps) y = [] := by
              unfold par
              rw [HS.out, if_neg hin]
            rw [e] at this
            exact this)
          clear hin
          go_wp2_with fail
          refine (refIn_is _ n false hin2 _).mono ?_
          rintro e w' ⟨rfl, rfl⟩
          go_wp2_with fail
          go_roundw
          case rel => exact ⟨i + 1, l, HF2.out, by rw [HQ.out]; exact HRt.out⟩
          case measure => simp [sliceLen]; omega
    · have hi : i = l.length + 1 := by omega
      subst hi
      have HAnc := Lib.hid (show Anc (symL ps) cls (pickP (fun x => decide (x ∈ l)) n) from by
        have := Anc.pick HF.out.all
        rw [HS.out] at this
        exact this)
      have hq0 : ((cls :: l).drop (l.length + 1)).length = 0 := by simp
      rw [hq0]
      clear hend
      have HF' := Lib.hid HR.out.f
      have HB' := Lib.hid HR.out.be
      have HP' := Lib.hid HR.out.bp
      clear HR hq0
      go_wp2_with fail
      have hsz := HB'.out.size
      have HQ0 := Lib.hid (show QRow (wr.alloc (.cells #[] 3)) w.heap.size (.slice (some ⟨wr.heap.size, 0, none⟩) 0 0) [] from by
        have h := QRow.of (xs := []) (World.ownsRow_made (base := w.heap.size) (e := 3) (size := 1) wr #[] 0 hsz (by unfold maxLen; omega) rfl)
        simpa using h)
      go_loopw [10, 11] (fun vo i wr' => ∃ k : Nat, k ≤ n ∧ i = .int .i64 k ∧ RefA w [.slice A n c, m1, m2, m3, m4, m5] (.slice Af l.length capf) l vo (pickP (fun x => decide (x ∈ l)) k) wr') (fun _ i _ => n - (intOf i).toNat)
      case atStart =>
        refine ⟨0, by omega, rfl, HF'.out.alloc _, HQ0.out, fun g h1 h2 => ?_, HP'.out.alloc _, HB'.out.alloc hsz _⟩
        have h3 := (HF'.out.lt g h1).2
        have e : wr.heap.size = g := by simpa [Value.ownBlock] using h2
        omega
      case round =>
        rename_i wr2
        obtain ⟨k, hk, rfl, hR⟩ := hrel
        have HR := Lib.hid hR
        have p0 := hR.bp.cell 0
        simp only [List.getElem?_cons_zero] at p0
        have hlq := pickP_length (fun x => decide (x ∈ l)) k
        have hbs := hR.be.size
        obtain ⟨Ao, capo, rfl⟩ := hR.q.slice
        clear hR HQ0
        by_cases hlt : k < n
        · have HPS := Lib.hid (pickP_succ (fun x => decide (x ∈ l)) k)
          go_wp2_with fail
          refine (among_any Af _ capf _ (k : Int) _ (by omega) HR.out.f.nums).mono ?_
          rintro e w' ⟨rfl, rfl⟩
          by_cases hm : (k : Int) ∈ l
          · have hd := decide_eq_true hm
            have HE := Lib.hid (show pickP (fun x => decide (x ∈ l)) (k + 1) = pickP (fun x => decide (x ∈ l)) k ++ [(k : Int)] from by rw [HPS.out, hd]; simp)
            rw [hd]
            clear hd hm HPS
            generalize pickP (fun x => decide (x ∈ l)) k = PK at *
            go_wp2_with (at_builtin; refine wpList_append_q rfl _ _ rfl rfl (HR.out.q.alloc _) ⟨_, 0, none⟩ 1 (k : Int) rfl (cell_new_l _ _ 3).1 (by omega) (by simp; omega) ?_)
            intro v4 w4 hq4 hg4 hv4
            obtain ⟨A4, cap4, rfl⟩ := hq4.slice
            have HR5 := Lib.hid ((HR.out.alloc (.cells #[.int .i64 (k : Int)] 3)).queued hq4 hg4 (hv4.imp id (fun h => by simpa using h)))
            clear hq4 hg4 hv4
            go_wp2_with fail
            go_roundw
            case rel =>
              refine ⟨k + 1, by omega, by go_num, ?_⟩
              rw [HE.out]
              simpa using HR5.out
            case measure => simp [intOf]; omega
          · have hd := decide_eq_false hm
            have HE := Lib.hid (show pickP (fun x => decide (x ∈ l)) (k + 1) = pickP (fun x => decide (x ∈ l)) k from by rw [HPS.out, hd]; simp)
            rw [hd]
            clear hd hm HPS
            go_wp2_with fail
            go_roundw
            case rel => exact ⟨k + 1, by omega, by go_num, by rw [HE.out]; exact HR.out⟩
            case measure => simp [intOf]; omega
        · have hkn : k = n := by omega
          subst hkn
          go_wp2_with fail
          go_ret
          exact ⟨_, _, rfl, HR.out.q, HAnc.out, hlq, HR.out.be⟩
end Go.Proofs.YtkjjieloncdjhaaGreatDoor
namespace Go.Proofs.YtkjjieloncdjhaaGreatDoor
open Go Go.RowKit

theorem chain_rng (ows : List Int) : ∀ (k : Nat) (a x : Int), x ∈ chain ows k a → 0 ≤ x ∧ x < ows.length
  | 0, _, _, h => by cases h
  | k + 1, a, x, h => by
    unfold chain at h
    split at h
    · split at h
      · rename_i h1
        rcases List.mem_cons.1 h with rfl | h2
        · exact h1
        · exact chain_rng ows k _ x h2
      · cases h
    · cases h
theorem chain_in {ows : List Int} {k j : Nat} {o : Int} (hj : j < ows.length) (ho : ows.getD j 0 = o) : chain ows (k + 1) (j : Int) = (if 0 ≤ o ∧ o < ows.length then o :: chain ows k o else []) := by
  subst ho
  rw [chain, if_pos ⟨by omega, by omega⟩]
  rfl

set_option maxRecDepth 100000 in
set_option maxHeartbeats 1000000 in
theorem refInside_any (A : Option Addr) (n c : Nat) (ows : List Int) (a0 want : Int) (m1 m2 m3 m4 m5 : Value) (w : World) (hl : n = ows.length) (hn : n ≤ 1048576) (hO : OwA w w.heap.size A ows) :
    Calls Tryz.prog 25 #[prgM A n c m1 m2 m3 m4 m5, .int .i64 a0, .int .i64 want] w fun e w' => e = .returned (.bool (decide (want ∈ chain ows n a0))) ∧ Below w.heap.size w w' := by
  have HL := Lib.hid hl
  have HO := Lib.hid hO
  have hP := Lib.hid (Bl.new w 30 [.slice A n c, m1, m2, m3, m4, m5])
  have HB := Lib.hid ((Below.refl w.heap.size w).alloc (Nat.le_refl _) (.cells #[.slice A n c, m1, m2, m3, m4, m5] 30))
  have HO2 := Lib.hid (hO.below HB.out)
  have p0 := hP.out.cell 0
  simp only [List.getElem?_cons_zero] at p0
  clear hl hO
  by_cases ha : inR n a0 = true
  · by_cases hw : inR n want = true
    · have ha' := inR_iff.1 ha
      go_enter Tryz.func25, Tryz.ntmps25
      go_wp2_with fail
      refine (refIn_is _ n true ha _).mono ?_
      rintro e w' ⟨rfl, rfl⟩
      go_wp2_with fail
      refine (refIn_is _ n true hw _).mono ?_
      rintro e w' ⟨rfl, rfl⟩
      go_wp2_with fail
      generalize hW : w.alloc (.cells #[.slice A n c, m1, m2, m3, m4, m5] 30) = W at *
      clear hW hP
      go_loop [1, 7] (fun t1 i => ∃ (k : Nat) (j : Nat), k ≤ n ∧ i = .int .i64 k ∧ t1 = .int .i64 j ∧ j < n ∧ Hid (decide (want ∈ chain ows n a0) = decide (want ∈ chain ows (n - k) (j : Int)))) (fun _ i => n - (intOf i).toNat)
      case atStart =>
        obtain ⟨j, rfl⟩ : ∃ j : Nat, a0 = (j : Int) := ⟨a0.toNat, by omega⟩
        exact ⟨0, j, by omega, rfl, rfl, by omega, Lib.hid rfl⟩
      case round =>
        obtain ⟨k, j, hk, rfl, rfl, hj, HE⟩ := hrel
        by_cases hlt : k < n
        · obtain ⟨b, o', rfl, hb, hc⟩ := HO2.out.at_ j (by rw [← HL.out]; exact hj)
          have HC := Lib.hid (fun (o : Int) (ho : ows.getD j 0 = o) => (show chain ows (n - k) (j : Int) = (if 0 ≤ o ∧ o < ows.length then o :: chain ows (n - (k + 1)) o else []) from by
            rw [show n - k = (n - (k + 1)) + 1 from by omega]
            exact chain_in (by rw [← HL.out]; exact hj) ho))
          generalize hgo : ows.getD j 0 = o at *
          have HC2 := Lib.hid (HC.out o rfl)
          clear HC
          by_cases hin : inR n o = true
          · have hin' := inR_iff.1 hin
            have HC3 := Lib.hid (show chain ows (n - k) (j : Int) = o :: chain ows (n - (k + 1)) o from by rw [HC2.out, if_pos (by rw [← HL.out]; exact hin')])
            by_cases hx : o = want
            · have hxe : (o == want) = true := by simpa using hx
              have HD := Lib.hid (show decide (want ∈ chain ows n a0) = true from by rw [HE.out, HC3.out, hx]; simp)
              clear hgo
              clear HE HC2 HC3
              subst hx
              go_wp2_with fail
              refine (refIn_is _ n true hin _).mono ?_
              rintro e w' ⟨rfl, rfl⟩
              go_wp2_with fail
              go_ret
              exact ⟨by rw [HD.out]; rfl, HB.out⟩
            · have hxe : (o == want) = false := by simpa using hx
              have HE2 := Lib.hid (show decide (want ∈ chain ows n a0) = decide (want ∈ chain ows (n - (k + 1)) o) from by
                rw [HE.out, HC3.out]
                have : ¬ want = o := fun e => hx e.symm
                simp [this])
              clear hgo hx
              go_wp2_with fail
              refine (refIn_is _ n true hin _).mono ?_
              rintro e w' ⟨rfl, rfl⟩
              go_wp2_with fail
              go_round
              case rel =>
                obtain ⟨j2, rfl⟩ : ∃ j2 : Nat, o = (j2 : Int) := ⟨o.toNat, by omega⟩
                exact ⟨k + 1, j2, by omega, by go_num, rfl, by omega, HE2⟩
              case measure => simp [intOf]; omega
          · have hin2 : inR n o = false := by simpa using hin
            have hin' : ¬ (0 ≤ o ∧ o < (ows.length : Int)) := fun h => hin (inR_iff.2 (by rw [HL.out]; exact h))
            have HD := Lib.hid (show decide (want ∈ chain ows n a0) = false from by rw [HE.out, HC2.out, if_neg hin']; simp)
            clear hgo hin hin'
            go_wp2_with fail
            refine (refIn_is _ n false hin2 _).mono ?_
            rintro e w' ⟨rfl, rfl⟩
            go_wp2_with fail
            go_ret
            exact ⟨by rw [HD.out]; rfl, HB.out⟩
        · have hkn : k = n := by omega
          subst hkn
          have HD := Lib.hid (show decide (want ∈ chain ows k a0) = false from by rw [HE.out, Nat.sub_self, chain]; simp)
          go_wp2_with fail
          go_ret
          exact ⟨by rw [HD.out]; rfl, HB.out⟩
    · have hw2 : inR n want = false := by simpa using hw
      have HD := Lib.hid (show decide (want ∈ chain ows n a0) = false from decide_eq_false (fun h => hw (inR_iff.2 (by rw [HL.out]; exact chain_rng _ _ _ _ h))))
      rw [HD.out]
      go_enter Tryz.func25, Tryz.ntmps25
      go_wp2_with fail
      refine (refIn_is _ n true ha _).mono ?_
      rintro e w' ⟨rfl, rfl⟩
      go_wp2_with fail
      refine (refIn_is _ n false hw2 _).mono ?_
      rintro e w' ⟨rfl, rfl⟩
      go_wp2_with fail
      go_ret
      exact ⟨rfl, HB.out⟩
  · have ha2 : inR n a0 = false := by simpa using ha
    have HD := Lib.hid (show decide (want ∈ chain ows n a0) = false from decide_eq_false (fun h => by
      have ha' : ¬ (0 ≤ a0 ∧ a0 < (ows.length : Int)) := fun h => ha (inR_iff.2 (by rw [HL.out]; exact h))
      cases hn' : n with
      | zero => rw [hn'] at h; cases h
      | succ k =>
        rw [hn', chain, if_neg ha'] at h
        cases h))
    rw [HD.out]
    go_enter Tryz.func25, Tryz.ntmps25
    go_wp2_with fail
    refine (refIn_is _ n false ha2 _).mono ?_
    rintro e w' ⟨rfl, rfl⟩
    go_wp2_with fail
    go_ret
    exact ⟨rfl, HB.out⟩
end Go.Proofs.YtkjjieloncdjhaaGreatDoor
namespace Go.Proofs.YtkjjieloncdjhaaGreatDoor
open Go Go.RowKit

theorem Nums.below {w w' : World} {A : Option Addr} {n : Nat} {l : List Int} (h : Nums w A n l) (hB : Below w.heap.size w w') (hg : 0 < l.length → ∃ g o, A = some ⟨g, o, none⟩ ∧ g < w.heap.size) : Nums w' A n l :=
  ⟨h.1, fun h0 => by
    obtain ⟨g, o, e, hc⟩ := h.2 h0
    obtain ⟨g', o', e', hlt⟩ := hg (by rw [← h.1]; exact h0)
    rw [e] at e'
    injection e' with e'
    injection e' with e1 e2
    subst e1 e2
    exact ⟨g, o, e, fun k hk => (hB.cell (p := ⟨g, _, none⟩) hlt).trans (hc k hk)⟩⟩

theorem belowDrewN {B : Nat} {w w' : World} (h : Below B w w') (n : Nat) : Below B w (w'.drewN n) := ⟨h.os, h.tape, h.output, h.size, h.block⟩
theorem childF_le (ss : List (List Int)) (c : Int) : (childF ss c).length ≤ ss.length := by
  unfold childF
  split
  · exact pickP_length _ _
  · simp

theorem equal_any (A B : Option Addr) (n m c d : Nat) (l : List Int) (w : World) (h1 : Nums w A n l) (h2 : Nums w B m l) (hbig : l.length ≤ 9223372036854775807) :
    Calls Tryz.prog 19 #[.slice A n c, .slice B m d] w fun e w' => e = .returned (.bool true) ∧ ∃ q, w' = w.drewN q := by
  obtain ⟨e1, k1⟩ := h1
  obtain ⟨e2, k2⟩ := h2
  rcases Nat.eq_zero_or_pos n with h0 | hpos
  · have hm : m = 0 := by omega
    subst h0 hm
    refine (Tryz.slices_Equal_int_empty A B c 0 d w (by omega)).mono ?_
    rintro e w' ⟨rfl, rfl⟩
    exact ⟨rfl, 0, rfl⟩
  · obtain ⟨g, o, rfl, c1⟩ := k1 hpos
    obtain ⟨g2, o2, rfl, c2⟩ := k2 (by omega)
    refine (Tryz.slices_Equal_int g o n c g2 o2 m d l l w (by omega) (by omega) (by omega) (by omega) (fun j hj => c1 j (by omega)) (fun j hj => c2 j (by omega))).mono ?_
    rintro e w' ⟨rfl, q, rfl⟩
    refine ⟨?_, q, rfl⟩
    rw [e1, e2]
    simp

theorem insideN_any (c : Nat) (A : Option Addr) (n : Nat) (ows : List Int) (a0 want : Int) (m1 m2 m3 m4 m5 : Value) (hl : n = ows.length) (hn : n ≤ 1048576) (w : World) (hO : OwA w w.heap.size A ows) :
    Calls Tryz.prog 24 #[.agg #[.slice A n c, m1, m2, m3, m4, m5], .int .i64 a0, .int .i64 want] w fun e W' => e = .returned (.bool (decide (want ∈ chain ows n a0))) ∧ Below w.heap.size w W' := by
  subst hl
  exact InsideA_any c A ows a0 want m1 m2 m3 m4 m5 hn w hO

set_option maxRecDepth 100000 in
set_option maxHeartbeats 8000000 in
theorem related_any (a0 b0 : Int) (ca ma fa ta ya : Option Addr) (cn mn fn tn yn cc mc fc tc yc : Nat) (mi : Int) (w : World)
    (hc : ∀ L, w.heap.size ≤ L → ClRow L w ca cn) (hm : ∀ L, w.heap.size ≤ L → MeRow L w ma mn) (hf : ∀ L, w.heap.size ≤ L → FiRow L w fa fn) (ht : ∀ L, w.heap.size ≤ L → TpRow L w ta tn) (hy : ∀ L, w.heap.size ≤ L → TmRow L w ya yn) :
    Calls Tryz.prog 6 #[.agg #[.slice ca cn cc, .slice ma mn mc, .slice fa fn fc, .slice ta tn tc, .slice ya yn yc, .int .i64 mi], .int .i64 a0, .int .i64 b0] w fun e W' => e = .returned (.bool true) ∧ Below w.heap.size w W' := by
  obtain ⟨xs, ps, hl, hV⟩ := ClsV.of (hc w.heap.size (Nat.le_refl _))
  have HL := Lib.hid hl
  have B0 := Lib.hid ((Below.refl w.heap.size w).alloc (Nat.le_refl _) (.cells #[.slice ca cn cc, .slice ma mn mc, .slice fa fn fc, .slice ta tn tc, .slice ya yn yc, .int .i64 mi] 30))
  have P0 := Lib.hid (Bl.new w 30 [.slice ca cn cc, .slice ma mn mc, .slice fa fn fc, .slice ta tn tc, .slice ya yn yc, .int .i64 mi])
  have oF : ∀ L, w.heap.size ≤ L → Og L w (w.alloc (.cells #[.slice ca cn cc, .slice ma mn mc, .slice fa fn fc, .slice ta tn tc, .slice ya yn yc, .int .i64 mi] 30)) := fun L _ => (Og.refl L w).alloc _
  have hsz : (w.alloc (.cells #[.slice ca cn cc, .slice ma mn mc, .slice fa fn fc, .slice ta tn tc, .slice ya yn yc, .int .i64 mi] 30)).heap.size = w.heap.size + 1 := by simp
  have hfew := few_lim ca ma fa ta ya cn mn fn tn yn cc mc fc tc yc mi (w.alloc (.cells #[.slice ca cn cc, .slice ma mn mc, .slice fa fn fc, .slice ta tn tc, .slice ya yn yc, .int .i64 mi] 30)) ((hc _ (by simp; omega)).og (oF _ (by simp; omega))) ((hm _ (by simp; omega)).og (oF _ (by simp; omega))) ((hf _ (by simp; omega)).og (oF _ (by simp; omega))) ((ht _ (by simp; omega)).og (oF _ (by simp; omega))) ((hy _ (by simp; omega)).og (oF _ (by simp; omega)))
  rw [hsz] at hfew
  have HFew := Lib.hid hfew
  have HX : Hid (∀ W', Below (w.heap.size + 1) (w.alloc (.cells #[.slice ca cn cc, .slice ma mn mc, .slice fa fn fc, .slice ta tn tc, .slice ya yn yc, .int .i64 mi] 30)) W' → ClsV W' W'.heap.size ca xs ps) := Lib.hid (fun W' hB => ((hV.below B0.out).below (hB.mono (by omega))).mono (by have := hB.size; omega))
  have HBw : Hid (∀ W', Below (w.heap.size + 1) (w.alloc (.cells #[.slice ca cn cc, .slice ma mn mc, .slice fa fn fc, .slice ta tn tc, .slice ya yn yc, .int .i64 mi] 30)) W' → Below w.heap.size w W') := Lib.hid (fun W' hB => B0.out.trans (hB.mono (by omega)))
  have HS : Hid (∀ W', Below (w.heap.size + 1) (w.alloc (.cells #[.slice ca cn cc, .slice ma mn mc, .slice fa fn fc, .slice ta tn tc, .slice ya yn yc, .int .i64 mi] 30)) W' → (fun w' : World => w'.cell? ⟨w.heap.size, 0, none⟩ = some (.slice ca cn cc) ∧ w'.cell? ⟨w.heap.size, 1, none⟩ = some (.slice ma mn mc) ∧ w'.cell? ⟨w.heap.size, 2, none⟩ = some (.slice fa fn fc) ∧ w'.cell? ⟨w.heap.size, 3, none⟩ = some (.slice ta tn tc) ∧ w'.cell? ⟨w.heap.size, 4, none⟩ = some (.slice ya yn yc) ∧ w'.cell? ⟨w.heap.size, 5, none⟩ = some (.int .i64 mi)) W') := Lib.hid (fun W' hB => by
    have h := P0.out.below hB (by omega)
    exact ⟨h.cell 0, h.cell 1, h.cell 2, h.cell 3, h.cell 4, h.cell 5⟩)
  have hmx : Tryz.prog.follows .mixedOrders = true := by kernel_rfl
  clear hc hm hf ht hy oF hl hV hfew
  go_enter Tryz.func6, Tryz.ntmps6
  go_upto_region 1 with fail
  generalize hW : (w.alloc (.cells #[.slice ca cn cc, .slice ma mn mc, .slice fa fn fc, .slice ta tn tc, .slice ya yn yc, .int .i64 mi] 30)) = S0 at *
  clear hW B0 P0
  have hS0 : w.heap.size + 1 ≤ S0.heap.size := by omega
  obtain ⟨p0, p1, p2, p3, p4, p5⟩ := HS.out S0 (Below.refl _ _)
  go_wp2_with fail
  clear p0 p1 p2 p3 p4 p5
  refine HFew.out.mono ?_
  rintro e w1 ⟨⟨r, rfl, hFB⟩, hB⟩
  have HB1 := Lib.hid hB
  have hs1 : w.heap.size + 1 ≤ w1.heap.size := by have := hB.size; omega
  clear hB HFew
  cases r
  · clear hFB
    go_wp2_with fail
    refine (awake_any _).mono ?_
    rintro e w2 ⟨rfl, hB2⟩
    have HB2 := Lib.hid (HBw.out w2 (HB1.out.trans (hB2.mono hs1)))
    clear hB2
    go_wp2_with fail
    go_ret
    exact ⟨rfl, HB2.out⟩
  · have hcn : cn ≤ 1048576 := by
      have := (hFB rfl).1
      omega
    have hbc : (childF (symL ps) a0).length ≤ 9223372036854775807 := by
      have h1 := childF_le (symL ps) a0
      have h2 := (HX.out S0 (Below.refl _ _)).len
      have h3 := HL.out
      simp only [symL, List.length_map] at h1
      unfold symL
      omega
    clear hFB
    go_wp2_with fail
    refine anyC_region (c := 30) (S := (fun w' : World => w'.cell? ⟨w.heap.size, 0, none⟩ = some (.slice ca cn cc) ∧ w'.cell? ⟨w.heap.size, 1, none⟩ = some (.slice ma mn mc) ∧ w'.cell? ⟨w.heap.size, 2, none⟩ = some (.slice fa fn fc) ∧ w'.cell? ⟨w.heap.size, 3, none⟩ = some (.slice ta tn tc) ∧ w'.cell? ⟨w.heap.size, 4, none⟩ = some (.slice ya yn yc) ∧ w'.cell? ⟨w.heap.size, 5, none⟩ = some (.int .i64 mi))) hmx ?_
    have hSS0 := HS.out _ HB1.out.drew
    refine anyC_one (i := 0) (by kernel_rfl) rfl (by rfl) (fun K hK => ?_)
    go_simp
    refine (awake_any _).mono ?_
    rintro e w2 ⟨rfl, hB'⟩
    have HB2 := Lib.hid (HB1.out.drew.trans (hB'.mono hs1))
    have hS2 := HS.out w2 HB2.out
    clear hB' hSS0
    refine hK.out _ _ (.inr (.inr hS2)) ?_
    clear hK K
    (try simp only [Act.put, List.setIfInBounds_toArray, List.set_cons_zero, List.set_cons_succ])
    refine anyC_one (i := 1) (by kernel_rfl) rfl (by rfl) (fun K hK => ?_)
    go_simp
    refine hK.out _ _ (.inr (.inr hS2)) ?_
    clear hK K
    (try simp only [Act.put, List.setIfInBounds_toArray, List.set_cons_zero, List.set_cons_succ])
    refine anyC_take (i := 2) (v := ?_) (some 13) (by rfl) rfl (by kernel_rfl) (by kernel_rfl) (by kernel_rfl) (by kernel_rfl) (by kernel_rfl) (fun _ _ _ h => h) (Or.inl ⟨by rfl, ?_⟩) (by assumption) ?_
    rotate_left
    · (intro w hSw; (try dsimp only at hSw); go_simp; try with_reducible rfl)
    (try simp only [Act.put, List.setIfInBounds_toArray, List.set_cons_zero, List.set_cons_succ])
    refine anyC_take0 (i := 3) (v := ?_) (some 14) (by rfl) rfl (by kernel_rfl) (by kernel_rfl) (by kernel_rfl) (fun _ _ _ h => h) (Or.inl ⟨by rfl, ?_⟩) (by decide) (Or.inr (by assumption)) ?_
    rotate_left
    · (intro w; go_simp; try with_reducible rfl)
    (try simp only [Act.put, List.setIfInBounds_toArray, List.set_cons_zero, List.set_cons_succ])
    refine anyC_take (i := 5) (v := ?_) (some 16) (by rfl) rfl (by kernel_rfl) (by kernel_rfl) (by kernel_rfl) (by kernel_rfl) (by kernel_rfl) (fun _ _ _ h => h) (Or.inl ⟨by rfl, ?_⟩) (by assumption) ?_
    rotate_left
    · (intro w hSw; (try dsimp only at hSw); go_simp; try with_reducible rfl)
    (try simp only [Act.put, List.setIfInBounds_toArray, List.set_cons_zero, List.set_cons_succ])
    refine anyC_take0 (i := 6) (v := ?_) (some 17) (by rfl) rfl (by kernel_rfl) (by kernel_rfl) (by kernel_rfl) (fun _ _ _ h => h) (Or.inl ⟨by rfl, ?_⟩) (by decide) (Or.inr (by assumption)) ?_
    rotate_left
    · (intro w; go_simp; try with_reducible rfl)
    (try simp only [Act.put, List.setIfInBounds_toArray, List.set_cons_zero, List.set_cons_succ])
    refine anyC_one (i := 4) (by kernel_rfl) rfl (by rfl) (fun K hK => ?_)
    go_simp
    refine (children_any ca cn cc xs ps a0 (.slice ma mn mc) (.slice fa fn fc) (.slice ta tn tc) (.slice ya yn yc) (.int .i64 mi) w2 HL.out hcn (HX.out w2 HB2.out)).mono ?_
    rintro e w3 ⟨v1, rfl, hq1, hB'⟩
    have HB3 := Lib.hid (HB2.out.trans (hB'.mono (Nat.le_trans hS0 HB2.out.size)))
    have hS3 := HS.out w3 HB3.out
    obtain ⟨A1, cap1, rfl⟩ := hq1.slice
    have HQ1 := Lib.hid hq1
    clear hq1 hB' hS2
    refine hK.out _ _ (.inr (.inr hS3)) ?_
    clear hK K
    (try simp only [Act.put, List.setIfInBounds_toArray, List.set_cons_zero, List.set_cons_succ])
    refine anyC_one (i := 7) (by kernel_rfl) rfl (by rfl) (fun K hK => ?_)
    go_simp
    refine (refChildren_any ca cn cc xs ps a0 (.slice ma mn mc) (.slice fa fn fc) (.slice ta tn tc) (.slice ya yn yc) (.int .i64 mi) w3 HL.out hcn (HX.out w3 HB3.out)).mono ?_
    rintro e w4 ⟨v2, rfl, hq2, hB'⟩
    have HB4 := Lib.hid (HB3.out.trans (hB'.mono (Nat.le_trans hS0 HB3.out.size)))
    have hS4 := HS.out w4 HB4.out
    obtain ⟨A2, cap2, rfl⟩ := hq2.slice
    have HN1 := Lib.hid (HQ1.out.below hB' (Nat.le_refl _)).nums
    have HN2 := Lib.hid hq2.nums
    clear hq2 hB' hS3
    refine hK.out _ _ (.inr (.inr hS4)) ?_
    clear hK K
    (try simp only [Act.put, List.setIfInBounds_toArray, List.set_cons_zero, List.set_cons_succ])
    refine anyC_one (i := 8) (by kernel_rfl) rfl (by rfl) (fun K hK => ?_)
    go_simp
    refine (equal_any A1 A2 _ _ cap1 cap2 _ w4 HN1.out HN2.out hbc).mono ?_
    rintro e w5 ⟨rfl, q, rfl⟩
    have HB5 := Lib.hid (belowDrewN HB4.out q)
    have hS5 := HS.out _ HB5.out
    clear hS4 HN1 HN2
    refine hK.out _ _ (.inr (.inr hS5)) ?_
    clear hK K
    (try simp only [Act.put, List.setIfInBounds_toArray, List.set_cons_zero, List.set_cons_succ])
    refine anyC_one (i := 9) (by kernel_rfl) rfl (by rfl) (fun K hK => ?_)
    go_simp
    refine hK.out _ _ (.inr (.inr hS5)) ?_
    clear hK K
    (try simp only [Act.put, List.setIfInBounds_toArray, List.set_cons_zero, List.set_cons_succ])
    refine anyC_one (i := 10) (by kernel_rfl) rfl (by rfl) (fun K hK => ?_)
    go_simp
    refine hK.out _ _ (.inr (.inr hS5)) ?_
    clear hK K
    (try simp only [Act.put, List.setIfInBounds_toArray, List.set_cons_zero, List.set_cons_succ])
    refine anyC_take (i := 11) (v := ?_) (some 22) (by rfl) rfl (by kernel_rfl) (by kernel_rfl) (by kernel_rfl) (by kernel_rfl) (by kernel_rfl) (fun _ _ _ h => h) (Or.inl ⟨by rfl, ?_⟩) (by assumption) ?_
    rotate_left
    · (intro w hSw; (try dsimp only at hSw); go_simp; try with_reducible rfl)
    (try simp only [Act.put, List.setIfInBounds_toArray, List.set_cons_zero, List.set_cons_succ])
    refine anyC_take0 (i := 12) (v := ?_) (some 23) (by rfl) rfl (by kernel_rfl) (by kernel_rfl) (by kernel_rfl) (fun _ _ _ h => h) (Or.inl ⟨by rfl, ?_⟩) (by decide) (Or.inr (by assumption)) ?_
    rotate_left
    · (intro w; go_simp; try with_reducible rfl)
    (try simp only [Act.put, List.setIfInBounds_toArray, List.set_cons_zero, List.set_cons_succ])
    refine anyC_take (i := 14) (v := ?_) (some 25) (by rfl) rfl (by kernel_rfl) (by kernel_rfl) (by kernel_rfl) (by kernel_rfl) (by kernel_rfl) (fun _ _ _ h => h) (Or.inl ⟨by rfl, ?_⟩) (by assumption) ?_
    rotate_left
    · (intro w hSw; (try dsimp only at hSw); go_simp; try with_reducible rfl)
    (try simp only [Act.put, List.setIfInBounds_toArray, List.set_cons_zero, List.set_cons_succ])
    refine anyC_take0 (i := 15) (v := ?_) (some 26) (by rfl) rfl (by kernel_rfl) (by kernel_rfl) (by kernel_rfl) (fun _ _ _ h => h) (Or.inl ⟨by rfl, ?_⟩) (by decide) (Or.inr (by assumption)) ?_
    rotate_left
    · (intro w; go_simp; try with_reducible rfl)
    (try simp only [Act.put, List.setIfInBounds_toArray, List.set_cons_zero, List.set_cons_succ])
    refine anyC_one (i := 13) (by kernel_rfl) rfl (by rfl) (fun K hK => ?_)
    go_simp
    refine (ancestors_any ca cn cc xs ps a0 (.slice ma mn mc) (.slice fa fn fc) (.slice ta tn tc) (.slice ya yn yc) (.int .i64 mi) _ HL.out hcn (HX.out _ HB5.out)).mono ?_
    rintro e w6 ⟨l1, A3, cap3, rfl, hA1, _, hN3, hG3, hB'⟩
    have HB6 := Lib.hid (HB5.out.trans (hB'.mono (Nat.le_trans hS0 HB5.out.size)))
    have hS6 := HS.out w6 HB6.out
    have HN3 := Lib.hid hN3
    have HG3 := Lib.hid hG3
    have HA1 := Lib.hid hA1
    clear hN3 hG3 hA1 hB' hS5
    refine hK.out _ _ (.inr (.inr hS6)) ?_
    clear hK K
    (try simp only [Act.put, List.setIfInBounds_toArray, List.set_cons_zero, List.set_cons_succ])
    refine anyC_one (i := 16) (by kernel_rfl) rfl (by rfl) (fun K hK => ?_)
    go_simp
    refine (refAncestors_any ca cn cc xs ps a0 (.slice ma mn mc) (.slice fa fn fc) (.slice ta tn tc) (.slice ya yn yc) (.int .i64 mi) w6 HL.out hcn (HX.out w6 HB6.out)).mono ?_
    rintro e w7 ⟨l2, v4, rfl, hq4, hA2, hL2, hB'⟩
    have HB7 := Lib.hid (HB6.out.trans (hB'.mono (Nat.le_trans hS0 HB6.out.size)))
    have hS7 := HS.out w7 HB7.out
    obtain rfl := HA1.out.unique hA2
    obtain ⟨A4, cap4, rfl⟩ := hq4.slice
    have HN5 := Lib.hid (HN3.out.below hB' HG3.out)
    have HN4 := Lib.hid hq4.nums
    clear hq4 hA2 hB' hS6
    refine hK.out _ _ (.inr (.inr hS7)) ?_
    clear hK K
    (try simp only [Act.put, List.setIfInBounds_toArray, List.set_cons_zero, List.set_cons_succ])
    refine anyC_one (i := 17) (by kernel_rfl) rfl (by rfl) (fun K hK => ?_)
    go_simp
    refine (equal_any A3 A4 _ _ cap3 cap4 _ w7 HN5.out HN4.out (by omega)).mono ?_
    rintro e w8 ⟨rfl, q2, rfl⟩
    have HB8 := Lib.hid (belowDrewN HB7.out q2)
    have hS8 := HS.out _ HB8.out
    clear hS7 HN5 HN4
    refine hK.out _ _ (.inr (.inr hS8)) ?_
    clear hK K
    (try simp only [Act.put, List.setIfInBounds_toArray, List.set_cons_zero, List.set_cons_succ])
    refine anyC_one (i := 18) (by kernel_rfl) rfl (by rfl) (fun K hK => ?_)
    go_simp
    refine hK.out _ _ (.inr (.inr hS8)) ?_
    clear hK K
    (try simp only [Act.put, List.setIfInBounds_toArray, List.set_cons_zero, List.set_cons_succ])
    refine anyC_one (i := 19) (by kernel_rfl) rfl (by rfl) (fun K hK => ?_)
    go_simp
    refine hK.out _ _ (.inr (.inr hS8)) ?_
    clear hK K
    (try simp only [Act.put, List.setIfInBounds_toArray, List.set_cons_zero, List.set_cons_succ])
    refine anyC_take (i := 20) (v := ?_) (some 31) (by rfl) rfl (by kernel_rfl) (by kernel_rfl) (by kernel_rfl) (by kernel_rfl) (by kernel_rfl) (fun _ _ _ h => h) (Or.inl ⟨by rfl, ?_⟩) (by assumption) ?_
    rotate_left
    · (intro w hSw; (try dsimp only at hSw); go_simp; try with_reducible rfl)
    (try simp only [Act.put, List.setIfInBounds_toArray, List.set_cons_zero, List.set_cons_succ])
    refine anyC_take0 (i := 21) (v := ?_) (some 32) (by rfl) rfl (by kernel_rfl) (by kernel_rfl) (by kernel_rfl) (fun _ _ _ h => h) (Or.inl ⟨by rfl, ?_⟩) (by decide) (Or.inr (by assumption)) ?_
    rotate_left
    · (intro w; go_simp; try with_reducible rfl)
    (try simp only [Act.put, List.setIfInBounds_toArray, List.set_cons_zero, List.set_cons_succ])
    refine anyC_take0 (i := 22) (v := ?_) (some 33) (by rfl) rfl (by kernel_rfl) (by kernel_rfl) (by kernel_rfl) (fun _ _ _ h => h) (Or.inl ⟨by rfl, ?_⟩) (by decide) (Or.inr (by assumption)) ?_
    rotate_left
    · (intro w; go_simp; try with_reducible rfl)
    (try simp only [Act.put, List.setIfInBounds_toArray, List.set_cons_zero, List.set_cons_succ])
    refine anyC_take (i := 24) (v := ?_) (some 35) (by rfl) rfl (by kernel_rfl) (by kernel_rfl) (by kernel_rfl) (by kernel_rfl) (by kernel_rfl) (fun _ _ _ h => h) (Or.inl ⟨by rfl, ?_⟩) (by assumption) ?_
    rotate_left
    · (intro w hSw; (try dsimp only at hSw); go_simp; try with_reducible rfl)
    (try simp only [Act.put, List.setIfInBounds_toArray, List.set_cons_zero, List.set_cons_succ])
    refine anyC_take0 (i := 25) (v := ?_) (some 36) (by rfl) rfl (by kernel_rfl) (by kernel_rfl) (by kernel_rfl) (fun _ _ _ h => h) (Or.inl ⟨by rfl, ?_⟩) (by decide) (Or.inr (by assumption)) ?_
    rotate_left
    · (intro w; go_simp; try with_reducible rfl)
    (try simp only [Act.put, List.setIfInBounds_toArray, List.set_cons_zero, List.set_cons_succ])
    refine anyC_take0 (i := 26) (v := ?_) (some 37) (by rfl) rfl (by kernel_rfl) (by kernel_rfl) (by kernel_rfl) (fun _ _ _ h => h) (Or.inl ⟨by rfl, ?_⟩) (by decide) (Or.inr (by assumption)) ?_
    rotate_left
    · (intro w; go_simp; try with_reducible rfl)
    (try simp only [Act.put, List.setIfInBounds_toArray, List.set_cons_zero, List.set_cons_succ])
    refine anyC_one (i := 23) (by kernel_rfl) rfl (by rfl) (fun K hK => ?_)
    go_simp
    refine (insideN_any cc ca cn (xs.map (·.ow)) a0 b0 (.slice ma mn mc) (.slice fa fn fc) (.slice ta tn tc) (.slice ya yn yc) (.int .i64 mi) (by rw [List.length_map]; exact HL.out) hcn _ (HX.out _ HB8.out).ows).mono ?_
    rintro e w9 ⟨rfl, hB'⟩
    have HB9 := Lib.hid (HB8.out.trans (hB'.mono (Nat.le_trans hS0 HB8.out.size)))
    have hS9 := HS.out w9 HB9.out
    clear hB' hS8
    refine hK.out _ _ (.inr (.inr hS9)) ?_
    clear hK K
    (try simp only [Act.put, List.setIfInBounds_toArray, List.set_cons_zero, List.set_cons_succ])
    refine anyC_one (i := 27) (by kernel_rfl) rfl (by rfl) (fun K hK => ?_)
    go_simp
    refine (refInside_any ca cn cc (xs.map (·.ow)) a0 b0 (.slice ma mn mc) (.slice fa fn fc) (.slice ta tn tc) (.slice ya yn yc) (.int .i64 mi) w9 (by rw [List.length_map]; exact HL.out) hcn (HX.out w9 HB9.out).ows).mono ?_
    rintro e w10 ⟨rfl, hB'⟩
    have HB10 := Lib.hid (HB9.out.trans (hB'.mono (Nat.le_trans hS0 HB9.out.size)))
    have hS10 := HS.out w10 HB10.out
    clear hB' hS9
    refine hK.out _ _ (.inr (.inr hS10)) ?_
    clear hK K
    (try simp only [Act.put, List.setIfInBounds_toArray, List.set_cons_zero, List.set_cons_succ])
    refine anyC_one (i := 28) (by kernel_rfl) rfl (by rfl) (fun K hK => ?_)
    go_simp
    refine hK.out _ _ (.inr (.inr hS10)) ?_
    clear hK K
    (try simp only [Act.put, List.setIfInBounds_toArray, List.set_cons_zero, List.set_cons_succ])
    refine anyC_one (i := 29) (by kernel_rfl) rfl (by rfl) (fun K hK => ?_)
    go_simp
    refine hK.out _ _ (.inr (.inr hS10)) ?_
    clear hK K
    (try simp only [Act.put, List.setIfInBounds_toArray, List.set_cons_zero, List.set_cons_succ])
    refine anyC_one (i := 30) (by kernel_rfl) rfl (by rfl) (fun K hK => ?_)
    go_simp
    refine hK.out _ _ (.inl rfl) ?_
    apply anyC_end
    rotate_left
    · kernel_rfl
    go_wp2_with fail
    go_ret
    exact ⟨rfl, HBw.out w10 HB10.out⟩
end Go.Proofs.YtkjjieloncdjhaaGreatDoor
