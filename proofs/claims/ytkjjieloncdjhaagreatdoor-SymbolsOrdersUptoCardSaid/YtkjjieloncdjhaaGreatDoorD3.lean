/- Declared. -/
import Derived.Test.YtkjjieloncdjhaaGreatDoorR8
import Derived.BigQuiet
namespace Go.Proofs.YtkjjieloncdjhaaGreatDoor
open Go Go.RowKit

theorem exists_44 (A : Option Addr) (n c : Nat) (i : Int) (r : Bool) (h : inR n i = r) (w : World) : Calls Tryz.prog 44 #[.slice A n c, .int .i64 i] w fun e w' => e = .returned (.bool r) ∧ w = w' := by
  rw [← h]
  unfold inR
  by_cases h0 : 0 ≤ i
  · by_cases h1 : i < n
    · have hd : decide (0 ≤ i ∧ i < (n : Int)) = true := by simp; omega
      rw [hd]; clear hd
      go_enter Tryz.func44, Tryz.ntmps44
      go_wp2
      go_ret
      exact ⟨rfl, rfl⟩
    · have hd : decide (0 ≤ i ∧ i < (n : Int)) = false := by simp; omega
      rw [hd]; clear hd
      go_enter Tryz.func44, Tryz.ntmps44
      go_wp2
      go_ret
      exact ⟨rfl, rfl⟩
  · have hd : decide (0 ≤ i ∧ i < (n : Int)) = false := by simp; omega
    rw [hd]; clear hd
    go_enter Tryz.func44, Tryz.ntmps44
    go_wp2
    go_ret
    exact ⟨rfl, rfl⟩
theorem exists_45 (A : Option Addr) (n c : Nat) (i : Int) (r : Bool) (h : inR n i = r) (w : World) : Calls Tryz.prog 45 #[.slice A n c, .int .i64 i] w fun e w' => e = .returned (.bool r) ∧ w = w' := by
  rw [← h]
  unfold inR
  by_cases h0 : 0 ≤ i
  · by_cases h1 : i < n
    · have hd : decide (0 ≤ i ∧ i < (n : Int)) = true := by simp; omega
      rw [hd]; clear hd
      go_enter Tryz.func45, Tryz.ntmps45
      go_wp2
      go_ret
      exact ⟨rfl, rfl⟩
    · have hd : decide (0 ≤ i ∧ i < (n : Int)) = false := by simp; omega
      rw [hd]; clear hd
      go_enter Tryz.func45, Tryz.ntmps45
      go_wp2
      go_ret
      exact ⟨rfl, rfl⟩
  · have hd : decide (0 ≤ i ∧ i < (n : Int)) = false := by simp; omega
    rw [hd]; clear hd
    go_enter Tryz.func45, Tryz.ntmps45
    go_wp2
    go_ret
    exact ⟨rfl, rfl⟩
theorem exists_46 (A : Option Addr) (n c : Nat) (i : Int) (r : Bool) (h : inR n i = r) (w : World) : Calls Tryz.prog 46 #[.slice A n c, .int .i64 i] w fun e w' => e = .returned (.bool r) ∧ w = w' := by
  rw [← h]
  unfold inR
  by_cases h0 : 0 ≤ i
  · by_cases h1 : i < n
    · have hd : decide (0 ≤ i ∧ i < (n : Int)) = true := by simp; omega
      rw [hd]; clear hd
      go_enter Tryz.func46, Tryz.ntmps46
      go_wp2
      go_ret
      exact ⟨rfl, rfl⟩
    · have hd : decide (0 ≤ i ∧ i < (n : Int)) = false := by simp; omega
      rw [hd]; clear hd
      go_enter Tryz.func46, Tryz.ntmps46
      go_wp2
      go_ret
      exact ⟨rfl, rfl⟩
  · have hd : decide (0 ≤ i ∧ i < (n : Int)) = false := by simp; omega
    rw [hd]; clear hd
    go_enter Tryz.func46, Tryz.ntmps46
    go_wp2
    go_ret
    exact ⟨rfl, rfl⟩

/-- A list of numbers, and where it lies. -/
def NumL (w : World) (B : Nat) (s : Sl) (q : List Int) : Prop := s.l = q.length ∧ ∀ k, k < q.length → ∃ g o, s.a = some ⟨g, o, none⟩ ∧ g < B ∧ w.cell? ⟨g, o + k, none⟩ = some (.int .i64 (q.getD k 0))
theorem NumL.below {w w' : World} {B : Nat} {s : Sl} {q : List Int} (h : NumL w B s q) (hB : Below B w w') : NumL w' B s q :=
  ⟨h.1, fun k hk => by
    obtain ⟨g, o, e, hg, hc⟩ := h.2 k hk
    exact ⟨g, o, e, hg, (hB.cell (p := ⟨g, _, none⟩) hg).trans hc⟩⟩
theorem NumL.of {w : World} {L : Nat} {s : Sl} (h : NumRow L w s.a s.l) : ∃ q, NumL w w.heap.size s q := by
  obtain ⟨f, hf⟩ : ∃ f : Nat → Int, ∀ i, i < s.l → ∃ g o, s.a = some ⟨g, o, none⟩ ∧ g < w.heap.size ∧ w.cell? ⟨g, o + i, none⟩ = some (.int .i64 (f i)) := by
    have : ∀ i, ∃ z : Int, i < s.l → ∃ g o, s.a = some ⟨g, o, none⟩ ∧ g < w.heap.size ∧ w.cell? ⟨g, o + i, none⟩ = some (.int .i64 z) := fun i => by
      by_cases hi : i < s.l
      · obtain ⟨b, o, z, h1, _, h3, h4⟩ := h i hi
        exact ⟨z, fun _ => ⟨b, o, h1, h3, h4⟩⟩
      · exact ⟨0, fun h => absurd h hi⟩
    exact ⟨fun i => Classical.choose (this i), fun i => Classical.choose_spec (this i)⟩
  refine ⟨(List.range s.l).map f, by simp, fun k hk => ?_⟩
  have hk' : k < s.l := by simpa using hk
  obtain ⟨g, o, e, hg, hc⟩ := hf k hk'
  refine ⟨g, o, e, hg, ?_⟩
  rw [hc]
  simp [List.getD, List.getElem?_range hk']

/-- The names of a table, and where they lie. -/
def NmV (w : World) (B : Nat) (A : Option Addr) (sz n : Nat) (ns : List ByteArray) : Prop := n = ns.length ∧ ∀ k, k < ns.length → ∃ b o, A = some ⟨b, o, none⟩ ∧ b < B ∧ (ns.getD k ⟨#[]⟩).size ≤ 9223372036854775807 ∧ w.cell? ⟨b, o + k * sz, none⟩ = some (.string (ns.getD k ⟨#[]⟩))
theorem NmV.below {w w' : World} {B : Nat} {A : Option Addr} {sz n : Nat} {ns : List ByteArray} (h : NmV w B A sz n ns) (hB : Below B w w') : NmV w' B A sz n ns :=
  ⟨h.1, fun k hk => by
    obtain ⟨g, o, e, hg, hs, hc⟩ := h.2 k hk
    exact ⟨g, o, e, hg, hs, (hB.cell (p := ⟨g, _, none⟩) hg).trans hc⟩⟩
theorem NmV.of {w : World} {A : Option Addr} {sz n : Nat} (h : ∀ i, i < n → ∃ (b o : Nat) (s : ByteArray), A = some ⟨b, o, none⟩ ∧ b < w.heap.size ∧ s.size ≤ 9223372036854775807 ∧ w.cell? ⟨b, o + i * sz, none⟩ = some (.string s)) : ∃ ns, NmV w w.heap.size A sz n ns := by
  obtain ⟨f, hf⟩ : ∃ f : Nat → ByteArray, ∀ i, i < n → ∃ g o, A = some ⟨g, o, none⟩ ∧ g < w.heap.size ∧ (f i).size ≤ 9223372036854775807 ∧ w.cell? ⟨g, o + i * sz, none⟩ = some (.string (f i)) := by
    have : ∀ i, ∃ z : ByteArray, i < n → ∃ g o, A = some ⟨g, o, none⟩ ∧ g < w.heap.size ∧ z.size ≤ 9223372036854775807 ∧ w.cell? ⟨g, o + i * sz, none⟩ = some (.string z) := fun i => by
      by_cases hi : i < n
      · obtain ⟨b, o, z, h1, h3, h4, h5⟩ := h i hi
        exact ⟨z, fun _ => ⟨b, o, h1, h3, h4, h5⟩⟩
      · exact ⟨⟨#[]⟩, fun h => absurd h hi⟩
    exact ⟨fun i => Classical.choose (this i), fun i => Classical.choose_spec (this i)⟩
  refine ⟨(List.range n).map f, by simp, fun k hk => ?_⟩
  have hk' : k < n := by simpa using hk
  obtain ⟨g, o, e, hg, hs, hc⟩ := hf k hk'
  have e2 : ((List.range n).map f).getD k ⟨#[]⟩ = f k := by simp [List.getD, List.getElem?_range hk']
  rw [e2]
  exact ⟨g, o, e, hg, hs, hc⟩

def hitN (ns : List ByteArray) (name : ByteArray) (i : Int) : Bool := inR ns.length i && decide (ns.getD i.toNat ⟨#[]⟩ = name)
/-- What is declared with a name, of one list. -/
def decL (kd : Int) (ns : List ByteArray) (name : ByteArray) (q : List Int) : List (Int × Int) := (q.filter (hitN ns name)).map (fun i => (kd, i))
def refV (l : List (Int × Int)) : List Value := l.flatMap (fun p => [Value.int .i64 p.1, Value.int .i64 p.2])
theorem refV_length (l : List (Int × Int)) : (refV l).length = l.length * 2 := by
  induction l with
  | nil => rfl
  | cons a r ih =>
    unfold refV at ih ⊢
    rw [List.flatMap_cons, List.length_append, ih]
    simp
    omega
theorem refV_snoc (l : List (Int × Int)) (p : Int × Int) : refV (l ++ [p]) = refV l ++ [Value.int .i64 p.1, Value.int .i64 p.2] := by simp [refV]
theorem decL_take (kd : Int) (ns : List ByteArray) (name : ByteArray) {q : List Int} {j : Nat} {i : Int} (h : q[j]? = some i) : decL kd ns name (q.take (j + 1)) = (if hitN ns name i = true then decL kd ns name (q.take j) ++ [(kd, i)] else decL kd ns name (q.take j)) := by
  obtain ⟨hlt, he⟩ := List.getElem?_eq_some_iff.1 h
  unfold decL
  rw [List.take_succ_eq_append_getElem hlt, he, List.filter_append, List.map_append]
  by_cases hh : hitN ns name i = true
  · simp [hh]
  · simp [hh]
theorem decL_length (kd : Int) (ns : List ByteArray) (name : ByteArray) (q : List Int) : (decL kd ns name q).length ≤ q.length := by
  unfold decL
  rw [List.length_map]
  exact List.length_filter_le _ _

theorem infoRef : (Tryz.prog.info? 43).map (fun i => (i.zero, i.size, i.bytes)) = some (some (.agg #[.int .i64 0, .int .i64 0]), 2, 16) := by kernel_rfl
theorem two_one (a b : Int) : ∀ u ∈ [Value.int .i64 a, Value.int .i64 b], u.oneCell' = true := by
  intro u hu
  simp at hu
  rcases hu with rfl | rfl <;> rfl

/-- Rows of references. -/
def RRow (w : World) (base : Nat) (v : Value) (l : List (Int × Int)) : Prop := w.ownsRow base 43 2 v l.length (refV l)

/-- What Declared reads. -/
structure DecV (w : World) (B : Nat) (ca : Option Addr) (k : Nat) (x : ClC) (fa ma ya : Option Addr) (fn mn yn : Nat) (qf qm qt : List Int) (nf nm nt : List ByteArray) : Prop where
  cl : ∃ b o, b < B ∧ ClAt w B ca k b o x
  vqf : NumL w B x.fi qf
  vqm : NumL w B x.me qm
  vqt : NumL w B x.ty qt
  vnf : NmV w B fa 9 fn nf
  vnm : NmV w B ma 13 mn nm
  vnt : NmV w B ya 13 yn nt
  lf : qf.length ≤ 1048576
  lm : qm.length ≤ 1048576
  lt : qt.length ≤ 1048576
  tf : fn ≤ 1048576
  tm : mn ≤ 1048576
  tt : yn ≤ 1048576
theorem DecV.below {w w' : World} {B : Nat} {ca : Option Addr} {k : Nat} {x : ClC} {fa ma ya : Option Addr} {fn mn yn : Nat} {qf qm qt : List Int} {nf nm nt : List ByteArray} (h : DecV w B ca k x fa ma ya fn mn yn qf qm qt nf nm nt) (hB : Below B w w') : DecV w' B ca k x fa ma ya fn mn yn qf qm qt nf nm nt :=
  ⟨by
    obtain ⟨b, o, hb, hA⟩ := h.cl
    exact ⟨b, o, hb, hA.below hB hb⟩, h.vqf.below hB, h.vqm.below hB, h.vqt.below hB, h.vnf.below hB, h.vnm.below hB, h.vnt.below hB, h.lf, h.lm, h.lt, h.tf, h.tm, h.tt⟩
def decAll (qf qm qt : List Int) (nf nm nt : List ByteArray) (name : ByteArray) : List (Int × Int) := decL 1 nf name qf ++ decL 0 nm name qm ++ decL 2 nt name qt

theorem ne_name {a b : ByteArray} (h : a ≠ b) : (a.toList == b.toList) = false :=
  beq_eq_false_iff_ne.2 (fun e => h (ByteArray.ext (by
    rw [ByteArray.toList_eq, ByteArray.toList_eq] at e
    exact Array.toList_inj.1 e)))
theorem RRow.ne_bl {w : World} {base g : Nat} {t : TypeId} {l : List Value} {v : Value} {xs : List (Int × Int)} (h : RRow w base v xs) (hb : Bl w g t l) (hne : t ≠ 43) : v.ownBlock ≠ some g := Bl.row_apart h hb (Ne.symm hne)

set_option maxRecDepth 100000 in
set_option maxHeartbeats 16000000 in
theorem declared_in (k : Nat) (x : ClC) (name : ByteArray) (ca ma fa ta ya : Option Addr) (cn mn fn tn yn cc mc fc tc yc : Nat) (mi : Int) (qf qm qt : List Int) (nf nm nt : List ByteArray) (w : World) (hk : k < cn) (_ : cn ≤ 1048576) (hV : DecV w w.heap.size ca k x fa ma ya fn mn yn qf qm qt nf nm nt) :
    Calls Tryz.prog 17 #[.agg #[.slice ca cn cc, .slice ma mn mc, .slice fa fn fc, .slice ta tn tc, .slice ya yn yc, .int .i64 mi], .int .i64 k, .string name] w fun e w' => ∃ v, e = .returned v ∧ RRow w' w.heap.size v (decAll qf qm qt nf nm nt name) ∧ Below w.heap.size w w' := by
  obtain ⟨i0, hi0, hz0, hz1, hz2⟩ := info_parts infoRef
  obtain ⟨bc, oc, hbc, hA⟩ := hV.cl
  obtain rfl := hA.ad
  have HV := Lib.hid hV
  have hP := Lib.hid (Bl.new w 30 [.slice (some ⟨bc, oc, none⟩) cn cc, .slice ma mn mc, .slice fa fn fc, .slice ta tn tc, .slice ya yn yc, .int .i64 mi])
  have HB := Lib.hid ((Below.refl w.heap.size w).alloc (Nat.le_refl _) (.cells #[.slice (some ⟨bc, oc, none⟩) cn cc, .slice ma mn mc, .slice fa fn fc, .slice ta tn tc, .slice ya yn yc, .int .i64 mi] 30))
  have HQ0 := Lib.hid (show RRow (w.alloc (.cells #[.slice (some ⟨bc, oc, none⟩) cn cc, .slice ma mn mc, .slice fa fn fc, .slice ta tn tc, .slice ya yn yc, .int .i64 mi] 30)) w.heap.size (.slice none 0 0) [] from World.ownsRow_nil _ _ _ _)
  have HV2 := Lib.hid (hV.below HB.out)
  have q0 := hP.out.cell 0
  simp only [List.getElem?_cons_zero] at q0
  have b1 := hV.lf
  have b2' := hV.lm
  have b3 := hV.lt
  have hIn : decide (0 ≤ (k : Int) ∧ (k : Int) < (cn : Int)) = true := by simp; omega
  unfold decAll
  clear hV
  go_enter Tryz.func17, Tryz.ntmps17
  go_wp2_with fail
  refine (exists_is _ cn _ _ true hIn _).mono ?_
  rintro e w' ⟨rfl, rfl⟩
  have kc := (hA.below HB.out hbc).k7
  have hkq := HV2.out.vqf.1
  rw [hkq] at kc
  generalize hxa : x.fi.a = af_fi at kc
  have HXA_fi := Lib.hid hxa
  clear hxa
  clear hA hIn
  go_wp2_with fail
  clear kc
  go_loopw [7, 26] (fun v i wr => ∃ j : Nat, j ≤ qf.length ∧ i = .int .i64 j ∧ RRow wr w.heap.size v (decL 1 nf name (qf.take j)) ∧ Below w.heap.size w wr ∧ Bl wr w.heap.size 30 [.slice (some ⟨bc, oc, none⟩) cn cc, .slice ma mn mc, .slice fa fn fc, .slice ta tn tc, .slice ya yn yc, .int .i64 mi]) (fun _ i _ => qf.length - (intOf i).toNat)
  case atStart =>
    have e0 : decL 1 nf name (qf.take 0) = [] := by simp [decL]
    exact ⟨0, by omega, rfl, by rw [e0]; exact HQ0.out, HB.out, hP.out⟩
  case round =>
    obtain ⟨j, hj, rfl, hQ, hB, hbl⟩ := hrel
    have HV2 := Lib.hid (HV.out.below hB)
    have HQ := Lib.hid hQ
    have HB2 := Lib.hid hB
    have HP2 := Lib.hid hbl
    have hsz := hB.size
    have q0 := hbl.cell 0
    have q1 := hbl.cell 1
    have q2 := hbl.cell 2
    have q4 := hbl.cell 4
    simp only [List.getElem?_cons_zero, List.getElem?_cons_succ] at q0 q1 q2 q4
    clear hQ hB hbl
    by_cases hlt : j < qf.length
    · obtain ⟨i, hi⟩ : ∃ i, qf[j]? = some i := ⟨_, List.getElem?_eq_getElem hlt⟩
      obtain ⟨g, o, eA, hg, hc⟩ := HV2.out.vqf.2 j hlt
      rw [HXA_fi.out] at eA
      subst eA
      have hgd : qf.getD j 0 = i := by simp [List.getD, hi]
      rw [hgd] at hc
      have HT := Lib.hid (decL_take 1 nf name hi)
      have HLE := Lib.hid (decL_length 1 nf name (qf.take j))
      have hlj : (qf.take j).length ≤ 1048576 := Nat.le_trans (List.length_take_le _ _) (by omega)
      have HL0 := Lib.hid (show (decL 1 nf name (qf.take j)).length ≤ 4000000 from by
        have h1 := decL_length 1 nf name qf
        have h2 := decL_length 0 nm name qm
        have h3 := HV2.out.lf
        have h4 := HV2.out.lm
        have h5 := HLE.out
        try simp only [List.length_append]
        omega)
      have HTn := Lib.hid HV2.out.vnf.1
      clear hi hgd
      by_cases hin : inR fn i = true
      · have hin' := inR_iff.1 hin
        obtain ⟨m, rfl⟩ : ∃ m : Nat, i = (m : Int) := ⟨i.toNat, by omega⟩
        have hm : m < nf.length := by rw [← HTn.out]; omega
        obtain ⟨b2, o2, eT, hb2, hs2, hc2⟩ := HV2.out.vnf.2 m hm
        have hmT : (m : Int) < (fn : Int) := by omega
        have hbT : fn ≤ 1048576 := HV2.out.tf
        have HH := Lib.hid (show hitN nf name (m : Int) = decide (nf.getD m ⟨#[]⟩ = name) from by
          unfold hitN
          rw [← HTn.out, hin]
          simp)
        rw [eT] at q2
        clear eT
        generalize nf.getD m ⟨#[]⟩ = nn at *
        by_cases hn : nn = name
        · have hn' := hn.symm
          subst hn'
          clear hn
          have HE := Lib.hid (show decL 1 nf name (qf.take (j + 1)) = (decL 1 nf name (qf.take j)) ++ [(1, (m : Int))] from by
            rw [HT.out, HH.out, decide_eq_true rfl, if_pos rfl])
          generalize hLL : decL 1 nf name (qf.take j) = LL at *
          clear hLL HT HH HLE
          go_wp2_with fail
          refine (exists_44 _ fn fc _ true hin _).mono ?_
          rintro e w' ⟨rfl, rfl⟩
          go_wp2_with (at_builtin; refine wpList_append_own _ rfl _ _ 41 rfl w.heap.size 43 i0 (.agg #[.int .i64 0, .int .i64 0]) 2 16 Tryz.underlying41 hi0 hz0 hz1 hz2 rfl (by decide) _ LL.length (refV LL) rfl (HQ.out.alloc _) ⟨wr.heap.size, 0, none⟩ 1 1 [.int .i64 1, .int .i64 (m : Int)] rfl rfl (World.news_of_block (cs := #[.int .i64 1, .int .i64 (m : Int)]) (t := 43) (fr := (0, 0)) (Go.heap_alloc_new wr _)) (two_one _ _) (by have := HL0.out; unfold maxLen; omega) (by have := HL0.out; omega) (by simp; omega) ?_)
          intro v' w2 hown hgr _
          have HQ2 := Lib.hid (show RRow w2 w.heap.size v' (LL ++ [(1, (m : Int))]) from by
            unfold RRow
            rw [refV_snoc]
            simpa using hown)
          have HB3 := Lib.hid ((HB2.out.alloc hsz (.cells #[.int .i64 1, .int .i64 (m : Int)] 43)).grown hgr (by simp; omega) (fun g hg' => (HQ.out.lt g hg').1))
          have HP3 := Lib.hid ((HP2.out.alloc (.cells #[.int .i64 1, .int .i64 (m : Int)] 43)).grown hgr (fun e => (HQ.out.ne_bl HP2.out (by decide)) e.symm))
          clear hown hgr
          go_wp2_with fail
          go_roundw
          case rel => exact ⟨j + 1, by omega, by go_num, by rw [HE.out]; exact HQ2.out, HB3.out, HP3.out⟩
          case measure => simp [intOf]; omega
        · have hn1 := ne_name hn
          have HE := Lib.hid (show decL 1 nf name (qf.take (j + 1)) = (decL 1 nf name (qf.take j)) from by
            rw [HT.out, HH.out, decide_eq_false hn, if_neg (by decide)])
          clear HT HH HLE
          go_wp2_with fail
          refine (exists_44 _ fn fc _ true hin _).mono ?_
          rintro e w' ⟨rfl, rfl⟩
          go_wp2_with fail
          go_roundw
          case rel => exact ⟨j + 1, by omega, by go_num, by rw [HE.out]; exact HQ.out, HB2.out, HP2.out⟩
          case measure => simp [intOf]; omega
      · have hin2 : inR fn i = false := by simpa using hin
        have HE := Lib.hid (show decL 1 nf name (qf.take (j + 1)) = (decL 1 nf name (qf.take j)) from by
          rw [HT.out, if_neg (by unfold hitN; rw [← HTn.out, hin2]; simp)])
        clear HT HLE hin
        go_wp2_with fail
        refine (exists_44 _ fn fc _ false hin2 _).mono ?_
        rintro e w' ⟨rfl, rfl⟩
        go_wp2_with fail
        go_roundw
        case rel => exact ⟨j + 1, by omega, by go_num, by rw [HE.out]; exact HQ.out, HB2.out, HP2.out⟩
        case measure => simp [intOf]; omega
    · have hjn : j = qf.length := by omega
      subst hjn
      have hQ3 := HQ.out
      rw [List.take_length] at hQ3
      have HQ3 := Lib.hid hQ3
      clear hQ3 HQ
      obtain ⟨bc', oc', hbc', hA⟩ := HV2.out.cl
      have eC := hA.ad
      injection eC with eC
      injection eC with eC1 eC2
      subst eC1 eC2
      have kc := hA.k8
      have hkq := HV2.out.vqm.1
      rw [hkq] at kc
      generalize hxa : x.me.a = af_me at kc
      have HXA_me := Lib.hid hxa
      clear hxa
      clear hA hlt hj hbc'
      go_wp2_with fail
      clear kc
      go_loopw [7, 57] (fun v i wr => ∃ j : Nat, j ≤ qm.length ∧ i = .int .i64 j ∧ RRow wr w.heap.size v (decL 1 nf name qf ++ decL 0 nm name (qm.take j)) ∧ Below w.heap.size w wr ∧ Bl wr w.heap.size 30 [.slice (some ⟨bc, oc, none⟩) cn cc, .slice ma mn mc, .slice fa fn fc, .slice ta tn tc, .slice ya yn yc, .int .i64 mi]) (fun _ i _ => qm.length - (intOf i).toNat)
      case atStart =>
        have e0 : decL 1 nf name qf ++ decL 0 nm name (qm.take 0) = decL 1 nf name qf := by simp [decL]
        exact ⟨0, by omega, rfl, by rw [e0]; exact HQ3.out, HB2.out, HP2.out⟩
      case round =>
        obtain ⟨j, hj, rfl, hQ, hB, hbl⟩ := hrel
        have HV2 := Lib.hid (HV.out.below hB)
        have HQ := Lib.hid hQ
        have HB2 := Lib.hid hB
        have HP2 := Lib.hid hbl
        have hsz := hB.size
        have q0 := hbl.cell 0
        have q1 := hbl.cell 1
        have q2 := hbl.cell 2
        have q4 := hbl.cell 4
        simp only [List.getElem?_cons_zero, List.getElem?_cons_succ] at q0 q1 q2 q4
        clear hQ hB hbl
        by_cases hlt : j < qm.length
        · obtain ⟨i, hi⟩ : ∃ i, qm[j]? = some i := ⟨_, List.getElem?_eq_getElem hlt⟩
          obtain ⟨g, o, eA, hg, hc⟩ := HV2.out.vqm.2 j hlt
          rw [HXA_me.out] at eA
          subst eA
          have hgd : qm.getD j 0 = i := by simp [List.getD, hi]
          rw [hgd] at hc
          have HT := Lib.hid (decL_take 0 nm name hi)
          have HLE := Lib.hid (decL_length 0 nm name (qm.take j))
          have hlj : (qm.take j).length ≤ 1048576 := Nat.le_trans (List.length_take_le _ _) (by omega)
          have HL0 := Lib.hid (show (decL 1 nf name qf ++ decL 0 nm name (qm.take j)).length ≤ 4000000 from by
            have h1 := decL_length 1 nf name qf
            have h2 := decL_length 0 nm name qm
            have h3 := HV2.out.lf
            have h4 := HV2.out.lm
            have h5 := HLE.out
            try simp only [List.length_append]
            omega)
          have HTn := Lib.hid HV2.out.vnm.1
          clear hi hgd
          by_cases hin : inR mn i = true
          · have hin' := inR_iff.1 hin
            obtain ⟨m, rfl⟩ : ∃ m : Nat, i = (m : Int) := ⟨i.toNat, by omega⟩
            have hm : m < nm.length := by rw [← HTn.out]; omega
            obtain ⟨b2, o2, eT, hb2, hs2, hc2⟩ := HV2.out.vnm.2 m hm
            have hmT : (m : Int) < (mn : Int) := by omega
            have hbT : mn ≤ 1048576 := HV2.out.tm
            have HH := Lib.hid (show hitN nm name (m : Int) = decide (nm.getD m ⟨#[]⟩ = name) from by
              unfold hitN
              rw [← HTn.out, hin]
              simp)
            rw [eT] at q1
            clear eT
            generalize nm.getD m ⟨#[]⟩ = nn at *
            by_cases hn : nn = name
            · have hn' := hn.symm
              subst hn'
              clear hn
              have HE := Lib.hid (show decL 1 nf name qf ++ decL 0 nm name (qm.take (j + 1)) = (decL 1 nf name qf ++ decL 0 nm name (qm.take j)) ++ [(0, (m : Int))] from by
                rw [HT.out, HH.out, decide_eq_true rfl, if_pos rfl, ← List.append_assoc])
              generalize hLL : decL 1 nf name qf ++ decL 0 nm name (qm.take j) = LL at *
              clear hLL HT HH HLE
              go_wp2_with fail
              refine (exists_45 _ mn mc _ true hin _).mono ?_
              rintro e w' ⟨rfl, rfl⟩
              go_wp2_with (at_builtin; refine wpList_append_own _ rfl _ _ 41 rfl w.heap.size 43 i0 (.agg #[.int .i64 0, .int .i64 0]) 2 16 Tryz.underlying41 hi0 hz0 hz1 hz2 rfl (by decide) _ LL.length (refV LL) rfl (HQ.out.alloc _) ⟨wr.heap.size, 0, none⟩ 1 1 [.int .i64 0, .int .i64 (m : Int)] rfl rfl (World.news_of_block (cs := #[.int .i64 0, .int .i64 (m : Int)]) (t := 43) (fr := (0, 0)) (Go.heap_alloc_new wr _)) (two_one _ _) (by have := HL0.out; unfold maxLen; omega) (by have := HL0.out; omega) (by simp; omega) ?_)
              intro v' w2 hown hgr _
              have HQ2 := Lib.hid (show RRow w2 w.heap.size v' (LL ++ [(0, (m : Int))]) from by
                unfold RRow
                rw [refV_snoc]
                simpa using hown)
              have HB3 := Lib.hid ((HB2.out.alloc hsz (.cells #[.int .i64 0, .int .i64 (m : Int)] 43)).grown hgr (by simp; omega) (fun g hg' => (HQ.out.lt g hg').1))
              have HP3 := Lib.hid ((HP2.out.alloc (.cells #[.int .i64 0, .int .i64 (m : Int)] 43)).grown hgr (fun e => (HQ.out.ne_bl HP2.out (by decide)) e.symm))
              clear hown hgr
              go_wp2_with fail
              go_roundw
              case rel => exact ⟨j + 1, by omega, by go_num, by rw [HE.out]; exact HQ2.out, HB3.out, HP3.out⟩
              case measure => simp [intOf]; omega
            · have hn1 := ne_name hn
              have HE := Lib.hid (show decL 1 nf name qf ++ decL 0 nm name (qm.take (j + 1)) = (decL 1 nf name qf ++ decL 0 nm name (qm.take j)) from by
                rw [HT.out, HH.out, decide_eq_false hn, if_neg (by decide)])
              clear HT HH HLE
              go_wp2_with fail
              refine (exists_45 _ mn mc _ true hin _).mono ?_
              rintro e w' ⟨rfl, rfl⟩
              go_wp2_with fail
              go_roundw
              case rel => exact ⟨j + 1, by omega, by go_num, by rw [HE.out]; exact HQ.out, HB2.out, HP2.out⟩
              case measure => simp [intOf]; omega
          · have hin2 : inR mn i = false := by simpa using hin
            have HE := Lib.hid (show decL 1 nf name qf ++ decL 0 nm name (qm.take (j + 1)) = (decL 1 nf name qf ++ decL 0 nm name (qm.take j)) from by
              rw [HT.out, if_neg (by unfold hitN; rw [← HTn.out, hin2]; simp)])
            clear HT HLE hin
            go_wp2_with fail
            refine (exists_45 _ mn mc _ false hin2 _).mono ?_
            rintro e w' ⟨rfl, rfl⟩
            go_wp2_with fail
            go_roundw
            case rel => exact ⟨j + 1, by omega, by go_num, by rw [HE.out]; exact HQ.out, HB2.out, HP2.out⟩
            case measure => simp [intOf]; omega
        · have hjn : j = qm.length := by omega
          subst hjn
          have hQ3 := HQ.out
          rw [List.take_length] at hQ3
          have HQ3 := Lib.hid hQ3
          clear hQ3 HQ
          obtain ⟨bc', oc', hbc', hA⟩ := HV2.out.cl
          have eC := hA.ad
          injection eC with eC
          injection eC with eC1 eC2
          subst eC1 eC2
          have kc := hA.k9
          have hkq := HV2.out.vqt.1
          rw [hkq] at kc
          generalize hxa : x.ty.a = af_ty at kc
          have HXA_ty := Lib.hid hxa
          clear hxa
          clear hA hlt hj hbc'
          go_wp2_with fail
          clear kc
          go_loopw [7, 88] (fun v i wr => ∃ j : Nat, j ≤ qt.length ∧ i = .int .i64 j ∧ RRow wr w.heap.size v (decL 1 nf name qf ++ decL 0 nm name qm ++ decL 2 nt name (qt.take j)) ∧ Below w.heap.size w wr ∧ Bl wr w.heap.size 30 [.slice (some ⟨bc, oc, none⟩) cn cc, .slice ma mn mc, .slice fa fn fc, .slice ta tn tc, .slice ya yn yc, .int .i64 mi]) (fun _ i _ => qt.length - (intOf i).toNat)
          case atStart =>
            have e0 : decL 1 nf name qf ++ decL 0 nm name qm ++ decL 2 nt name (qt.take 0) = decL 1 nf name qf ++ decL 0 nm name qm := by simp [decL]
            exact ⟨0, by omega, rfl, by rw [e0]; exact HQ3.out, HB2.out, HP2.out⟩
          case round =>
            obtain ⟨j, hj, rfl, hQ, hB, hbl⟩ := hrel
            have HV2 := Lib.hid (HV.out.below hB)
            have HQ := Lib.hid hQ
            have HB2 := Lib.hid hB
            have HP2 := Lib.hid hbl
            have hsz := hB.size
            have q0 := hbl.cell 0
            have q1 := hbl.cell 1
            have q2 := hbl.cell 2
            have q4 := hbl.cell 4
            simp only [List.getElem?_cons_zero, List.getElem?_cons_succ] at q0 q1 q2 q4
            clear hQ hB hbl
            by_cases hlt : j < qt.length
            · obtain ⟨i, hi⟩ : ∃ i, qt[j]? = some i := ⟨_, List.getElem?_eq_getElem hlt⟩
              obtain ⟨g, o, eA, hg, hc⟩ := HV2.out.vqt.2 j hlt
              rw [HXA_ty.out] at eA
              subst eA
              have hgd : qt.getD j 0 = i := by simp [List.getD, hi]
              rw [hgd] at hc
              have HT := Lib.hid (decL_take 2 nt name hi)
              have HLE := Lib.hid (decL_length 2 nt name (qt.take j))
              have hlj : (qt.take j).length ≤ 1048576 := Nat.le_trans (List.length_take_le _ _) (by omega)
              have HL0 := Lib.hid (show (decL 1 nf name qf ++ decL 0 nm name qm ++ decL 2 nt name (qt.take j)).length ≤ 4000000 from by
                have h1 := decL_length 1 nf name qf
                have h2 := decL_length 0 nm name qm
                have h3 := HV2.out.lf
                have h4 := HV2.out.lm
                have h5 := HLE.out
                try simp only [List.length_append]
                omega)
              have HTn := Lib.hid HV2.out.vnt.1
              clear hi hgd
              by_cases hin : inR yn i = true
              · have hin' := inR_iff.1 hin
                obtain ⟨m, rfl⟩ : ∃ m : Nat, i = (m : Int) := ⟨i.toNat, by omega⟩
                have hm : m < nt.length := by rw [← HTn.out]; omega
                obtain ⟨b2, o2, eT, hb2, hs2, hc2⟩ := HV2.out.vnt.2 m hm
                have hmT : (m : Int) < (yn : Int) := by omega
                have hbT : yn ≤ 1048576 := HV2.out.tt
                have HH := Lib.hid (show hitN nt name (m : Int) = decide (nt.getD m ⟨#[]⟩ = name) from by
                  unfold hitN
                  rw [← HTn.out, hin]
                  simp)
                rw [eT] at q4
                clear eT
                generalize nt.getD m ⟨#[]⟩ = nn at *
                by_cases hn : nn = name
                · have hn' := hn.symm
                  subst hn'
                  clear hn
                  have HE := Lib.hid (show decL 1 nf name qf ++ decL 0 nm name qm ++ decL 2 nt name (qt.take (j + 1)) = (decL 1 nf name qf ++ decL 0 nm name qm ++ decL 2 nt name (qt.take j)) ++ [(2, (m : Int))] from by
                    rw [HT.out, HH.out, decide_eq_true rfl, if_pos rfl, ← List.append_assoc])
                  generalize hLL : decL 1 nf name qf ++ decL 0 nm name qm ++ decL 2 nt name (qt.take j) = LL at *
                  clear hLL HT HH HLE
                  go_wp2_with fail
                  refine (exists_46 _ yn yc _ true hin _).mono ?_
                  rintro e w' ⟨rfl, rfl⟩
                  go_wp2_with (at_builtin; refine wpList_append_own _ rfl _ _ 41 rfl w.heap.size 43 i0 (.agg #[.int .i64 0, .int .i64 0]) 2 16 Tryz.underlying41 hi0 hz0 hz1 hz2 rfl (by decide) _ LL.length (refV LL) rfl (HQ.out.alloc _) ⟨wr.heap.size, 0, none⟩ 1 1 [.int .i64 2, .int .i64 (m : Int)] rfl rfl (World.news_of_block (cs := #[.int .i64 2, .int .i64 (m : Int)]) (t := 43) (fr := (0, 0)) (Go.heap_alloc_new wr _)) (two_one _ _) (by have := HL0.out; unfold maxLen; omega) (by have := HL0.out; omega) (by simp; omega) ?_)
                  intro v' w2 hown hgr _
                  have HQ2 := Lib.hid (show RRow w2 w.heap.size v' (LL ++ [(2, (m : Int))]) from by
                    unfold RRow
                    rw [refV_snoc]
                    simpa using hown)
                  have HB3 := Lib.hid ((HB2.out.alloc hsz (.cells #[.int .i64 2, .int .i64 (m : Int)] 43)).grown hgr (by simp; omega) (fun g hg' => (HQ.out.lt g hg').1))
                  have HP3 := Lib.hid ((HP2.out.alloc (.cells #[.int .i64 2, .int .i64 (m : Int)] 43)).grown hgr (fun e => (HQ.out.ne_bl HP2.out (by decide)) e.symm))
                  clear hown hgr
                  go_wp2_with fail
                  go_roundw
                  case rel => exact ⟨j + 1, by omega, by go_num, by rw [HE.out]; exact HQ2.out, HB3.out, HP3.out⟩
                  case measure => simp [intOf]; omega
                · have hn1 := ne_name hn
                  have HE := Lib.hid (show decL 1 nf name qf ++ decL 0 nm name qm ++ decL 2 nt name (qt.take (j + 1)) = (decL 1 nf name qf ++ decL 0 nm name qm ++ decL 2 nt name (qt.take j)) from by
                    rw [HT.out, HH.out, decide_eq_false hn, if_neg (by decide)])
                  clear HT HH HLE
                  go_wp2_with fail
                  refine (exists_46 _ yn yc _ true hin _).mono ?_
                  rintro e w' ⟨rfl, rfl⟩
                  go_wp2_with fail
                  go_roundw
                  case rel => exact ⟨j + 1, by omega, by go_num, by rw [HE.out]; exact HQ.out, HB2.out, HP2.out⟩
                  case measure => simp [intOf]; omega
              · have hin2 : inR yn i = false := by simpa using hin
                have HE := Lib.hid (show decL 1 nf name qf ++ decL 0 nm name qm ++ decL 2 nt name (qt.take (j + 1)) = (decL 1 nf name qf ++ decL 0 nm name qm ++ decL 2 nt name (qt.take j)) from by
                  rw [HT.out, if_neg (by unfold hitN; rw [← HTn.out, hin2]; simp)])
                clear HT HLE hin
                go_wp2_with fail
                refine (exists_46 _ yn yc _ false hin2 _).mono ?_
                rintro e w' ⟨rfl, rfl⟩
                go_wp2_with fail
                go_roundw
                case rel => exact ⟨j + 1, by omega, by go_num, by rw [HE.out]; exact HQ.out, HB2.out, HP2.out⟩
                case measure => simp [intOf]; omega
            · have hjn : j = qt.length := by omega
              subst hjn
              have hQ3 := HQ.out
              rw [List.take_length] at hQ3
              have HQ3 := Lib.hid hQ3
              clear hQ3 HQ
              go_wp2_with fail
              go_ret
              exact ⟨_, rfl, HQ3.out, HB2.out⟩
end Go.Proofs.YtkjjieloncdjhaaGreatDoor
namespace Go.Proofs.YtkjjieloncdjhaaGreatDoor
open Go Go.RowKit

set_option maxRecDepth 100000 in
set_option maxHeartbeats 16000000 in
theorem refDeclared_in (k : Nat) (x : ClC) (name : ByteArray) (ca ma fa ta ya : Option Addr) (cn mn fn tn yn cc mc fc tc yc : Nat) (mi : Int) (qf qm qt : List Int) (nf nm nt : List ByteArray) (w : World) (hk : k < cn) (_ : cn ≤ 1048576) (hV : DecV w w.heap.size ca k x fa ma ya fn mn yn qf qm qt nf nm nt) :
    Calls Tryz.prog 18 #[.agg #[.slice ca cn cc, .slice ma mn mc, .slice fa fn fc, .slice ta tn tc, .slice ya yn yc, .int .i64 mi], .int .i64 k, .string name] w fun e w' => ∃ v, e = .returned v ∧ RRow w' w.heap.size v (decAll qf qm qt nf nm nt name) ∧ Below w.heap.size w w' := by
  obtain ⟨i0, hi0, hz0, hz1, hz2⟩ := info_parts infoRef
  obtain ⟨bc, oc, hbc, hA⟩ := hV.cl
  obtain rfl := hA.ad
  have HV := Lib.hid hV
  have hP1 := (Bl.new w 30 [.slice (some ⟨bc, oc, none⟩) cn cc, .slice ma mn mc, .slice fa fn fc, .slice ta tn tc, .slice ya yn yc, .int .i64 mi]).alloc (.cells #[] 43)
  have q0 := hP1.cell 0
  simp only [List.getElem?_cons_zero] at q0
  have hP := Lib.hid (hP1.alloc (.cells x.cells.toArray 37))
  have HB1 := Lib.hid (((Below.refl w.heap.size w).alloc (Nat.le_refl _) (.cells #[.slice (some ⟨bc, oc, none⟩) cn cc, .slice ma mn mc, .slice fa fn fc, .slice ta tn tc, .slice ya yn yc, .int .i64 mi] 30)).alloc (by simp) (.cells #[] 43))
  have HB := Lib.hid (HB1.out.alloc (by simp; omega) (.cells x.cells.toArray 37))
  have hCl := Lib.hid (show Bl (((w.alloc (.cells #[.slice (some ⟨bc, oc, none⟩) cn cc, .slice ma mn mc, .slice fa fn fc, .slice ta tn tc, .slice ya yn yc, .int .i64 mi] 30)).alloc (.cells #[] 43)).alloc (.cells x.cells.toArray 37)) (w.heap.size + 1 + 1) 37 x.cells from by
    have h := Bl.new ((w.alloc (.cells #[.slice (some ⟨bc, oc, none⟩) cn cc, .slice ma mn mc, .slice fa fn fc, .slice ta tn tc, .slice ya yn yc, .int .i64 mi] 30)).alloc (.cells #[] 43)) 37 x.cells
    simpa using h)
  have HQ0 := Lib.hid (show RRow (((w.alloc (.cells #[.slice (some ⟨bc, oc, none⟩) cn cc, .slice ma mn mc, .slice fa fn fc, .slice ta tn tc, .slice ya yn yc, .int .i64 mi] 30)).alloc (.cells #[] 43)).alloc (.cells x.cells.toArray 37)) w.heap.size (.slice (some ⟨w.heap.size + 1, 0, none⟩) 0 0) [] from by
    have h := (World.ownsRow_made (base := w.heap.size) (e := 43) (size := 2) (w.alloc (.cells #[.slice (some ⟨bc, oc, none⟩) cn cc, .slice ma mn mc, .slice fa fn fc, .slice ta tn tc, .slice ya yn yc, .int .i64 mi] 30)) #[] 0 (by simp) (by unfold maxLen; omega) rfl).alloc (.cells x.cells.toArray 37)
    unfold RRow
    simpa [refV] using h)
  obtain ⟨-, -, -, k0, k1, k2, k3, k4, k5, k6, k7, k8, k9, k10, k11, k12⟩ := hA.below HB1.out hbc
  have b1 := hV.lf
  have b2' := hV.lm
  have b3 := hV.lt
  have hIn : inR cn (k : Int) = true := inR_iff.2 (by omega)
  unfold decAll
  clear hV hP1 hA
  go_enter Tryz.func18, Tryz.ntmps18
  go_wp2_with fail
  refine (refIn_is _ cn true hIn _).mono ?_
  rintro e w' ⟨rfl, rfl⟩
  clear hIn
  go_wp2_with fail
  clear k0 k1 k2 k3 k4 k5 k6 k7 k8 k9 k10 k11 k12
  go_loopw [7, 9] (fun v i wr => ∃ j : Nat, j ≤ qf.length ∧ i = .int .i64 j ∧ RRow wr w.heap.size v (decL 1 nf name (qf.take j)) ∧ Below w.heap.size w wr ∧ Bl wr w.heap.size 30 [.slice (some ⟨bc, oc, none⟩) cn cc, .slice ma mn mc, .slice fa fn fc, .slice ta tn tc, .slice ya yn yc, .int .i64 mi] ∧ Bl wr (w.heap.size + 1 + 1) 37 x.cells) (fun _ i _ => qf.length - (intOf i).toNat)
  case atStart =>
    have e0 : decL 1 nf name (qf.take 0) = [] := by simp [decL]
    exact ⟨0, by omega, rfl, by rw [e0]; exact HQ0.out, HB.out, hP.out, hCl.out⟩
  case round =>
    obtain ⟨j, hj, rfl, hQ, hB, hbl, hcl⟩ := hrel
    have HV2 := Lib.hid (HV.out.below hB)
    have HQ := Lib.hid hQ
    have HB2 := Lib.hid hB
    have HP2 := Lib.hid hbl
    have HC2 := Lib.hid hcl
    have c7 := hcl.cell 7
    have hkq := HV2.out.vqf.1
    simp only [List.getElem?_cons_zero, List.getElem?_cons_succ] at c7
    rw [hkq] at c7
    clear hkq
    have hsz := hB.size
    have q0 := hbl.cell 0
    have q1 := hbl.cell 1
    have q2 := hbl.cell 2
    have q4 := hbl.cell 4
    simp only [List.getElem?_cons_zero, List.getElem?_cons_succ] at q0 q1 q2 q4
    clear hQ hB hbl hcl
    by_cases hlt : j < qf.length
    · obtain ⟨i, hi⟩ : ∃ i, qf[j]? = some i := ⟨_, List.getElem?_eq_getElem hlt⟩
      obtain ⟨g, o, eA, hg, hc⟩ := HV2.out.vqf.2 j hlt
      rw [eA] at c7
      have HEA := Lib.hid eA
      clear eA
      have hgd : qf.getD j 0 = i := by simp [List.getD, hi]
      rw [hgd] at hc
      have HT := Lib.hid (decL_take 1 nf name hi)
      have HLE := Lib.hid (decL_length 1 nf name (qf.take j))
      have hlj : (qf.take j).length ≤ 1048576 := Nat.le_trans (List.length_take_le _ _) (by omega)
      have HL0 := Lib.hid (show (decL 1 nf name (qf.take j)).length ≤ 4000000 from by
        have h1 := decL_length 1 nf name qf
        have h2 := decL_length 0 nm name qm
        have h3 := HV2.out.lf
        have h4 := HV2.out.lm
        have h5 := HLE.out
        try simp only [List.length_append]
        omega)
      have HTn := Lib.hid HV2.out.vnf.1
      clear hi hgd
      by_cases hin : inR fn i = true
      · have hin' := inR_iff.1 hin
        obtain ⟨m, rfl⟩ : ∃ m : Nat, i = (m : Int) := ⟨i.toNat, by omega⟩
        have hm : m < nf.length := by rw [← HTn.out]; omega
        obtain ⟨b2, o2, eT, hb2, hs2, hc2⟩ := HV2.out.vnf.2 m hm
        have hmT : (m : Int) < (fn : Int) := by omega
        have hbT : fn ≤ 1048576 := HV2.out.tf
        have HH := Lib.hid (show hitN nf name (m : Int) = decide (nf.getD m ⟨#[]⟩ = name) from by
          unfold hitN
          rw [← HTn.out, hin]
          simp)
        rw [eT] at q2
        clear eT
        generalize nf.getD m ⟨#[]⟩ = nn at *
        by_cases hn : nn = name
        · have hn' := hn.symm
          subst hn'
          clear hn
          have HE := Lib.hid (show decL 1 nf name (qf.take (j + 1)) = (decL 1 nf name (qf.take j)) ++ [(1, (m : Int))] from by
            rw [HT.out, HH.out, decide_eq_true rfl, if_pos rfl])
          generalize hLL : decL 1 nf name (qf.take j) = LL at *
          clear hLL HT HH HLE
          go_wp2_with fail
          refine (refIn_is _ fn true hin _).mono ?_
          rintro e w' ⟨rfl, rfl⟩
          go_wp2_with (at_builtin; refine wpList_append_own _ rfl _ _ 41 rfl w.heap.size 43 i0 (.agg #[.int .i64 0, .int .i64 0]) 2 16 Tryz.underlying41 hi0 hz0 hz1 hz2 rfl (by decide) _ LL.length (refV LL) rfl (HQ.out.alloc _) ⟨wr.heap.size, 0, none⟩ 1 1 [.int .i64 1, .int .i64 (m : Int)] rfl rfl (World.news_of_block (cs := #[.int .i64 1, .int .i64 (m : Int)]) (t := 43) (fr := (0, 0)) (Go.heap_alloc_new wr _)) (two_one _ _) (by have := HL0.out; unfold maxLen; omega) (by have := HL0.out; omega) (by simp; omega) ?_)
          intro v' w2 hown hgr _
          have HQ2 := Lib.hid (show RRow w2 w.heap.size v' (LL ++ [(1, (m : Int))]) from by
            unfold RRow
            rw [refV_snoc]
            simpa using hown)
          have HB3 := Lib.hid ((HB2.out.alloc hsz (.cells #[.int .i64 1, .int .i64 (m : Int)] 43)).grown hgr (by simp; omega) (fun g hg' => (HQ.out.lt g hg').1))
          have HP3 := Lib.hid ((HP2.out.alloc (.cells #[.int .i64 1, .int .i64 (m : Int)] 43)).grown hgr (fun e => (HQ.out.ne_bl HP2.out (by decide)) e.symm))
          have HC3 := Lib.hid ((HC2.out.alloc (.cells #[.int .i64 1, .int .i64 (m : Int)] 43)).grown hgr (fun e => (HQ.out.ne_bl HC2.out (by decide)) e.symm))
          clear hown hgr
          go_wp2_with fail
          go_roundw
          case rel => exact ⟨j + 1, by omega, by go_num, by rw [HE.out]; exact HQ2.out, HB3.out, HP3.out, HC3.out⟩
          case measure => simp [intOf]; omega
        · have hn1 := ne_name hn
          have HE := Lib.hid (show decL 1 nf name (qf.take (j + 1)) = (decL 1 nf name (qf.take j)) from by
            rw [HT.out, HH.out, decide_eq_false hn, if_neg (by decide)])
          clear HT HH HLE
          go_wp2_with fail
          refine (refIn_is _ fn true hin _).mono ?_
          rintro e w' ⟨rfl, rfl⟩
          go_wp2_with fail
          go_roundw
          case rel => exact ⟨j + 1, by omega, by go_num, by rw [HE.out]; exact HQ.out, HB2.out, HP2.out, HC2.out⟩
          case measure => simp [intOf]; omega
      · have hin2 : inR fn i = false := by simpa using hin
        have HE := Lib.hid (show decL 1 nf name (qf.take (j + 1)) = (decL 1 nf name (qf.take j)) from by
          rw [HT.out, if_neg (by unfold hitN; rw [← HTn.out, hin2]; simp)])
        clear HT HLE hin
        go_wp2_with fail
        refine (refIn_is _ fn false hin2 _).mono ?_
        rintro e w' ⟨rfl, rfl⟩
        go_wp2_with fail
        go_roundw
        case rel => exact ⟨j + 1, by omega, by go_num, by rw [HE.out]; exact HQ.out, HB2.out, HP2.out, HC2.out⟩
        case measure => simp [intOf]; omega
    · have hjn : j = qf.length := by omega
      subst hjn
      have hQ3 := HQ.out
      rw [List.take_length] at hQ3
      have HQ3 := Lib.hid hQ3
      clear hQ3 HQ
      clear hlt hj
      go_wp2_with fail
      go_loopw [7, 11] (fun v i wr => ∃ j : Nat, j ≤ qm.length ∧ i = .int .i64 j ∧ RRow wr w.heap.size v (decL 1 nf name qf ++ decL 0 nm name (qm.take j)) ∧ Below w.heap.size w wr ∧ Bl wr w.heap.size 30 [.slice (some ⟨bc, oc, none⟩) cn cc, .slice ma mn mc, .slice fa fn fc, .slice ta tn tc, .slice ya yn yc, .int .i64 mi] ∧ Bl wr (w.heap.size + 1 + 1) 37 x.cells) (fun _ i _ => qm.length - (intOf i).toNat)
      case atStart =>
        have e0 : decL 1 nf name qf ++ decL 0 nm name (qm.take 0) = decL 1 nf name qf := by simp [decL]
        exact ⟨0, by omega, rfl, by rw [e0]; exact HQ3.out, HB2.out, HP2.out, HC2.out⟩
      case round =>
        obtain ⟨j, hj, rfl, hQ, hB, hbl, hcl⟩ := hrel
        have HV2 := Lib.hid (HV.out.below hB)
        have HQ := Lib.hid hQ
        have HB2 := Lib.hid hB
        have HP2 := Lib.hid hbl
        have HC2 := Lib.hid hcl
        have c8 := hcl.cell 8
        have hkq := HV2.out.vqm.1
        simp only [List.getElem?_cons_zero, List.getElem?_cons_succ] at c8
        rw [hkq] at c8
        clear hkq
        have hsz := hB.size
        have q0 := hbl.cell 0
        have q1 := hbl.cell 1
        have q2 := hbl.cell 2
        have q4 := hbl.cell 4
        simp only [List.getElem?_cons_zero, List.getElem?_cons_succ] at q0 q1 q2 q4
        clear hQ hB hbl hcl
        by_cases hlt : j < qm.length
        · obtain ⟨i, hi⟩ : ∃ i, qm[j]? = some i := ⟨_, List.getElem?_eq_getElem hlt⟩
          obtain ⟨g, o, eA, hg, hc⟩ := HV2.out.vqm.2 j hlt
          rw [eA] at c8
          have HEA := Lib.hid eA
          clear eA
          have hgd : qm.getD j 0 = i := by simp [List.getD, hi]
          rw [hgd] at hc
          have HT := Lib.hid (decL_take 0 nm name hi)
          have HLE := Lib.hid (decL_length 0 nm name (qm.take j))
          have hlj : (qm.take j).length ≤ 1048576 := Nat.le_trans (List.length_take_le _ _) (by omega)
          have HL0 := Lib.hid (show (decL 1 nf name qf ++ decL 0 nm name (qm.take j)).length ≤ 4000000 from by
            have h1 := decL_length 1 nf name qf
            have h2 := decL_length 0 nm name qm
            have h3 := HV2.out.lf
            have h4 := HV2.out.lm
            have h5 := HLE.out
            try simp only [List.length_append]
            omega)
          have HTn := Lib.hid HV2.out.vnm.1
          clear hi hgd
          by_cases hin : inR mn i = true
          · have hin' := inR_iff.1 hin
            obtain ⟨m, rfl⟩ : ∃ m : Nat, i = (m : Int) := ⟨i.toNat, by omega⟩
            have hm : m < nm.length := by rw [← HTn.out]; omega
            obtain ⟨b2, o2, eT, hb2, hs2, hc2⟩ := HV2.out.vnm.2 m hm
            have hmT : (m : Int) < (mn : Int) := by omega
            have hbT : mn ≤ 1048576 := HV2.out.tm
            have HH := Lib.hid (show hitN nm name (m : Int) = decide (nm.getD m ⟨#[]⟩ = name) from by
              unfold hitN
              rw [← HTn.out, hin]
              simp)
            rw [eT] at q1
            clear eT
            generalize nm.getD m ⟨#[]⟩ = nn at *
            by_cases hn : nn = name
            · have hn' := hn.symm
              subst hn'
              clear hn
              have HE := Lib.hid (show decL 1 nf name qf ++ decL 0 nm name (qm.take (j + 1)) = (decL 1 nf name qf ++ decL 0 nm name (qm.take j)) ++ [(0, (m : Int))] from by
                rw [HT.out, HH.out, decide_eq_true rfl, if_pos rfl, ← List.append_assoc])
              generalize hLL : decL 1 nf name qf ++ decL 0 nm name (qm.take j) = LL at *
              clear hLL HT HH HLE
              go_wp2_with fail
              refine (refIn_is _ mn true hin _).mono ?_
              rintro e w' ⟨rfl, rfl⟩
              go_wp2_with (at_builtin; refine wpList_append_own _ rfl _ _ 41 rfl w.heap.size 43 i0 (.agg #[.int .i64 0, .int .i64 0]) 2 16 Tryz.underlying41 hi0 hz0 hz1 hz2 rfl (by decide) _ LL.length (refV LL) rfl (HQ.out.alloc _) ⟨wr.heap.size, 0, none⟩ 1 1 [.int .i64 0, .int .i64 (m : Int)] rfl rfl (World.news_of_block (cs := #[.int .i64 0, .int .i64 (m : Int)]) (t := 43) (fr := (0, 0)) (Go.heap_alloc_new wr _)) (two_one _ _) (by have := HL0.out; unfold maxLen; omega) (by have := HL0.out; omega) (by simp; omega) ?_)
              intro v' w2 hown hgr _
              have HQ2 := Lib.hid (show RRow w2 w.heap.size v' (LL ++ [(0, (m : Int))]) from by
                unfold RRow
                rw [refV_snoc]
                simpa using hown)
              have HB3 := Lib.hid ((HB2.out.alloc hsz (.cells #[.int .i64 0, .int .i64 (m : Int)] 43)).grown hgr (by simp; omega) (fun g hg' => (HQ.out.lt g hg').1))
              have HP3 := Lib.hid ((HP2.out.alloc (.cells #[.int .i64 0, .int .i64 (m : Int)] 43)).grown hgr (fun e => (HQ.out.ne_bl HP2.out (by decide)) e.symm))
              have HC3 := Lib.hid ((HC2.out.alloc (.cells #[.int .i64 0, .int .i64 (m : Int)] 43)).grown hgr (fun e => (HQ.out.ne_bl HC2.out (by decide)) e.symm))
              clear hown hgr
              go_wp2_with fail
              go_roundw
              case rel => exact ⟨j + 1, by omega, by go_num, by rw [HE.out]; exact HQ2.out, HB3.out, HP3.out, HC3.out⟩
              case measure => simp [intOf]; omega
            · have hn1 := ne_name hn
              have HE := Lib.hid (show decL 1 nf name qf ++ decL 0 nm name (qm.take (j + 1)) = (decL 1 nf name qf ++ decL 0 nm name (qm.take j)) from by
                rw [HT.out, HH.out, decide_eq_false hn, if_neg (by decide)])
              clear HT HH HLE
              go_wp2_with fail
              refine (refIn_is _ mn true hin _).mono ?_
              rintro e w' ⟨rfl, rfl⟩
              go_wp2_with fail
              go_roundw
              case rel => exact ⟨j + 1, by omega, by go_num, by rw [HE.out]; exact HQ.out, HB2.out, HP2.out, HC2.out⟩
              case measure => simp [intOf]; omega
          · have hin2 : inR mn i = false := by simpa using hin
            have HE := Lib.hid (show decL 1 nf name qf ++ decL 0 nm name (qm.take (j + 1)) = (decL 1 nf name qf ++ decL 0 nm name (qm.take j)) from by
              rw [HT.out, if_neg (by unfold hitN; rw [← HTn.out, hin2]; simp)])
            clear HT HLE hin
            go_wp2_with fail
            refine (refIn_is _ mn false hin2 _).mono ?_
            rintro e w' ⟨rfl, rfl⟩
            go_wp2_with fail
            go_roundw
            case rel => exact ⟨j + 1, by omega, by go_num, by rw [HE.out]; exact HQ.out, HB2.out, HP2.out, HC2.out⟩
            case measure => simp [intOf]; omega
        · have hjn : j = qm.length := by omega
          subst hjn
          have hQ3 := HQ.out
          rw [List.take_length] at hQ3
          have HQ3 := Lib.hid hQ3
          clear hQ3 HQ
          clear hlt hj
          go_wp2_with fail
          go_loopw [7, 13] (fun v i wr => ∃ j : Nat, j ≤ qt.length ∧ i = .int .i64 j ∧ RRow wr w.heap.size v (decL 1 nf name qf ++ decL 0 nm name qm ++ decL 2 nt name (qt.take j)) ∧ Below w.heap.size w wr ∧ Bl wr w.heap.size 30 [.slice (some ⟨bc, oc, none⟩) cn cc, .slice ma mn mc, .slice fa fn fc, .slice ta tn tc, .slice ya yn yc, .int .i64 mi] ∧ Bl wr (w.heap.size + 1 + 1) 37 x.cells) (fun _ i _ => qt.length - (intOf i).toNat)
          case atStart =>
            have e0 : decL 1 nf name qf ++ decL 0 nm name qm ++ decL 2 nt name (qt.take 0) = decL 1 nf name qf ++ decL 0 nm name qm := by simp [decL]
            exact ⟨0, by omega, rfl, by rw [e0]; exact HQ3.out, HB2.out, HP2.out, HC2.out⟩
          case round =>
            obtain ⟨j, hj, rfl, hQ, hB, hbl, hcl⟩ := hrel
            have HV2 := Lib.hid (HV.out.below hB)
            have HQ := Lib.hid hQ
            have HB2 := Lib.hid hB
            have HP2 := Lib.hid hbl
            have HC2 := Lib.hid hcl
            have c9 := hcl.cell 9
            have hkq := HV2.out.vqt.1
            simp only [List.getElem?_cons_zero, List.getElem?_cons_succ] at c9
            rw [hkq] at c9
            clear hkq
            have hsz := hB.size
            have q0 := hbl.cell 0
            have q1 := hbl.cell 1
            have q2 := hbl.cell 2
            have q4 := hbl.cell 4
            simp only [List.getElem?_cons_zero, List.getElem?_cons_succ] at q0 q1 q2 q4
            clear hQ hB hbl hcl
            by_cases hlt : j < qt.length
            · obtain ⟨i, hi⟩ : ∃ i, qt[j]? = some i := ⟨_, List.getElem?_eq_getElem hlt⟩
              obtain ⟨g, o, eA, hg, hc⟩ := HV2.out.vqt.2 j hlt
              rw [eA] at c9
              have HEA := Lib.hid eA
              clear eA
              have hgd : qt.getD j 0 = i := by simp [List.getD, hi]
              rw [hgd] at hc
              have HT := Lib.hid (decL_take 2 nt name hi)
              have HLE := Lib.hid (decL_length 2 nt name (qt.take j))
              have hlj : (qt.take j).length ≤ 1048576 := Nat.le_trans (List.length_take_le _ _) (by omega)
              have HL0 := Lib.hid (show (decL 1 nf name qf ++ decL 0 nm name qm ++ decL 2 nt name (qt.take j)).length ≤ 4000000 from by
                have h1 := decL_length 1 nf name qf
                have h2 := decL_length 0 nm name qm
                have h3 := HV2.out.lf
                have h4 := HV2.out.lm
                have h5 := HLE.out
                try simp only [List.length_append]
                omega)
              have HTn := Lib.hid HV2.out.vnt.1
              clear hi hgd
              by_cases hin : inR yn i = true
              · have hin' := inR_iff.1 hin
                obtain ⟨m, rfl⟩ : ∃ m : Nat, i = (m : Int) := ⟨i.toNat, by omega⟩
                have hm : m < nt.length := by rw [← HTn.out]; omega
                obtain ⟨b2, o2, eT, hb2, hs2, hc2⟩ := HV2.out.vnt.2 m hm
                have hmT : (m : Int) < (yn : Int) := by omega
                have hbT : yn ≤ 1048576 := HV2.out.tt
                have HH := Lib.hid (show hitN nt name (m : Int) = decide (nt.getD m ⟨#[]⟩ = name) from by
                  unfold hitN
                  rw [← HTn.out, hin]
                  simp)
                rw [eT] at q4
                clear eT
                generalize nt.getD m ⟨#[]⟩ = nn at *
                by_cases hn : nn = name
                · have hn' := hn.symm
                  subst hn'
                  clear hn
                  have HE := Lib.hid (show decL 1 nf name qf ++ decL 0 nm name qm ++ decL 2 nt name (qt.take (j + 1)) = (decL 1 nf name qf ++ decL 0 nm name qm ++ decL 2 nt name (qt.take j)) ++ [(2, (m : Int))] from by
                    rw [HT.out, HH.out, decide_eq_true rfl, if_pos rfl, ← List.append_assoc])
                  generalize hLL : decL 1 nf name qf ++ decL 0 nm name qm ++ decL 2 nt name (qt.take j) = LL at *
                  clear hLL HT HH HLE
                  go_wp2_with fail
                  refine (refIn_is _ yn true hin _).mono ?_
                  rintro e w' ⟨rfl, rfl⟩
                  go_wp2_with (at_builtin; refine wpList_append_own _ rfl _ _ 41 rfl w.heap.size 43 i0 (.agg #[.int .i64 0, .int .i64 0]) 2 16 Tryz.underlying41 hi0 hz0 hz1 hz2 rfl (by decide) _ LL.length (refV LL) rfl (HQ.out.alloc _) ⟨wr.heap.size, 0, none⟩ 1 1 [.int .i64 2, .int .i64 (m : Int)] rfl rfl (World.news_of_block (cs := #[.int .i64 2, .int .i64 (m : Int)]) (t := 43) (fr := (0, 0)) (Go.heap_alloc_new wr _)) (two_one _ _) (by have := HL0.out; unfold maxLen; omega) (by have := HL0.out; omega) (by simp; omega) ?_)
                  intro v' w2 hown hgr _
                  have HQ2 := Lib.hid (show RRow w2 w.heap.size v' (LL ++ [(2, (m : Int))]) from by
                    unfold RRow
                    rw [refV_snoc]
                    simpa using hown)
                  have HB3 := Lib.hid ((HB2.out.alloc hsz (.cells #[.int .i64 2, .int .i64 (m : Int)] 43)).grown hgr (by simp; omega) (fun g hg' => (HQ.out.lt g hg').1))
                  have HP3 := Lib.hid ((HP2.out.alloc (.cells #[.int .i64 2, .int .i64 (m : Int)] 43)).grown hgr (fun e => (HQ.out.ne_bl HP2.out (by decide)) e.symm))
                  have HC3 := Lib.hid ((HC2.out.alloc (.cells #[.int .i64 2, .int .i64 (m : Int)] 43)).grown hgr (fun e => (HQ.out.ne_bl HC2.out (by decide)) e.symm))
                  clear hown hgr
                  go_wp2_with fail
                  go_roundw
                  case rel => exact ⟨j + 1, by omega, by go_num, by rw [HE.out]; exact HQ2.out, HB3.out, HP3.out, HC3.out⟩
                  case measure => simp [intOf]; omega
                · have hn1 := ne_name hn
                  have HE := Lib.hid (show decL 1 nf name qf ++ decL 0 nm name qm ++ decL 2 nt name (qt.take (j + 1)) = (decL 1 nf name qf ++ decL 0 nm name qm ++ decL 2 nt name (qt.take j)) from by
                    rw [HT.out, HH.out, decide_eq_false hn, if_neg (by decide)])
                  clear HT HH HLE
                  go_wp2_with fail
                  refine (refIn_is _ yn true hin _).mono ?_
                  rintro e w' ⟨rfl, rfl⟩
                  go_wp2_with fail
                  go_roundw
                  case rel => exact ⟨j + 1, by omega, by go_num, by rw [HE.out]; exact HQ.out, HB2.out, HP2.out, HC2.out⟩
                  case measure => simp [intOf]; omega
              · have hin2 : inR yn i = false := by simpa using hin
                have HE := Lib.hid (show decL 1 nf name qf ++ decL 0 nm name qm ++ decL 2 nt name (qt.take (j + 1)) = (decL 1 nf name qf ++ decL 0 nm name qm ++ decL 2 nt name (qt.take j)) from by
                  rw [HT.out, if_neg (by unfold hitN; rw [← HTn.out, hin2]; simp)])
                clear HT HLE hin
                go_wp2_with fail
                refine (refIn_is _ yn false hin2 _).mono ?_
                rintro e w' ⟨rfl, rfl⟩
                go_wp2_with fail
                go_roundw
                case rel => exact ⟨j + 1, by omega, by go_num, by rw [HE.out]; exact HQ.out, HB2.out, HP2.out, HC2.out⟩
                case measure => simp [intOf]; omega
            · have hjn : j = qt.length := by omega
              subst hjn
              have hQ3 := HQ.out
              rw [List.take_length] at hQ3
              have HQ3 := Lib.hid hQ3
              clear hQ3 HQ
              go_wp2_with fail
              go_ret
              exact ⟨_, rfl, HQ3.out, HB2.out⟩
end Go.Proofs.YtkjjieloncdjhaaGreatDoor
namespace Go.Proofs.YtkjjieloncdjhaaGreatDoor
open Go Go.RowKit

theorem RRow.slice {w : World} {base : Nat} {v : Value} {l : List (Int × Int)} (h : RRow w base v l) : ∃ (A : Option Addr) (cap : Nat), v = .slice A l.length cap := by
  rcases h.2 with ⟨rfl, h0⟩ | ⟨g, cap, cur, rfl, _⟩
  · rw [h0]
    exact ⟨none, 0, rfl⟩
  · exact ⟨_, cap, rfl⟩
theorem RRow.below {w w' : World} {base B : Nat} {v : Value} {l : List (Int × Int)} (h : RRow w base v l) (hB : Below B w w') (hw : w.heap.size ≤ B) : RRow w' base v l :=
  World.ownsRow.kept h (row := none) ⟨hB.os, hB.tape, hB.output, hB.size, fun k hk _ => hB.block k (by omega)⟩ (by cases hv : v.ownBlock <;> simp)
/-- References in memory. -/
def RefN (w : World) (A : Option Addr) (n : Nat) (l : List (Int × Int)) : Prop := n = l.length ∧ (0 < n → ∃ g o, A = some ⟨g, o, none⟩ ∧ ∀ k p, l[k]? = some p → w.cell? ⟨g, o + k * 2, none⟩ = some (.int .i64 p.1) ∧ w.cell? ⟨g, o + k * 2 + 1, none⟩ = some (.int .i64 p.2))
theorem refV_get : ∀ (l : List (Int × Int)) (k : Nat) (p : Int × Int), l[k]? = some p → (refV l)[k * 2]? = some (.int .i64 p.1) ∧ (refV l)[k * 2 + 1]? = some (.int .i64 p.2)
  | [], _, _, h => by simp at h
  | a :: r, 0, p, h => by
    have e : a = p := by simpa using h
    subst e
    simp [refV]
  | a :: r, k + 1, p, h => by
    have h2 := refV_get r k p (by simpa using h)
    have e : refV (a :: r) = .int .i64 a.1 :: .int .i64 a.2 :: refV r := by simp [refV]
    rw [e, show (k + 1) * 2 = k * 2 + 1 + 1 from by omega, show k * 2 + 1 + 1 + 1 = (k * 2 + 1) + 1 + 1 from rfl]
    simpa using h2
theorem RRow.refs {w : World} {base : Nat} {A : Option Addr} {n cap : Nat} {l : List (Int × Int)} (h : RRow w base (.slice A n cap) l) : RefN w A n l := by
  rcases h.2 with ⟨e, h0⟩ | ⟨g, cap', cur, e, hb, hh, hl, hm, hs, ht⟩
  · injection e with e1 e2 e3
    subst e2
    exact ⟨h0.symm, fun h => absurd h (by omega)⟩
  · injection e with e1 e2 e3
    subst e1 e2 e3
    refine ⟨rfl, fun _ => ⟨g, 0, rfl, fun k p hp => ?_⟩⟩
    have hk := (List.getElem?_eq_some_iff.1 hp).1
    obtain ⟨h1, h2⟩ := refV_get l k p hp
    have c1 := World.ownsRow.cellAt h (k * 2) (by omega)
    have c2 := World.ownsRow.cellAt h (k * 2 + 1) (by omega)
    rw [Nat.zero_add]
    exact ⟨c1.trans h1, c2.trans h2⟩

set_option maxRecDepth 100000 in
set_option maxHeartbeats 2000000 in
theorem equalRef_any (A B : Option Addr) (n m c d : Nat) (l : List (Int × Int)) (w : World) (h1 : RefN w A n l) (h2 : RefN w B m l) (hbig : l.length ≤ 4000000) :
    Calls Tryz.prog 16 #[.slice A n c, .slice B m d] w fun e w' => e = .returned (.bool true) ∧ ∃ q, w' = w.drewN q := by
  obtain ⟨e1, k1⟩ := h1
  obtain ⟨e2, k2⟩ := h2
  have hnm : m = n := by omega
  subst hnm
  rcases Nat.eq_zero_or_pos m with h0 | hpos
  · subst h0
    clear k1 k2 e1 e2
    go_enter Tryz.func16, Tryz.ntmps16
    go_wp2_with fail
    refine wp_loop_rounds 1 ?_
    rw [rounds_succ]
    go_wp2_with fail
    go_ret
    exact ⟨rfl, 0, rfl⟩
  · obtain ⟨g, o, rfl, c1⟩ := k1 hpos
    obtain ⟨g2, o2, rfl, c2⟩ := k2 hpos
    have C1 := Lib.hid c1
    have C2 := Lib.hid c2
    have E1 := Lib.hid e1
    have hb : m ≤ 4000000 := by omega
    clear c1 c2 k1 k2 e1 e2
    go_enter Tryz.func16, Tryz.ntmps16
    go_wp2_with fail
    go_loopw [13] (fun i wr => ∃ k q : Nat, k ≤ m ∧ i = .int .i64 k ∧ wr = w.drewN q) (fun i _ => m - (intOf i).toNat)
    case atStart => exact ⟨0, 0, by omega, rfl, rfl⟩
    case round =>
      obtain ⟨k, q, hk, rfl, rfl⟩ := hrel
      by_cases hlt : k < m
      · obtain ⟨p, hp⟩ : ∃ p, l[k]? = some p := ⟨_, List.getElem?_eq_getElem (by rw [← E1.out]; exact hlt)⟩
        obtain ⟨a1, a2⟩ := C1.out k p hp
        obtain ⟨b1, b2⟩ := C2.out k p hp
        obtain ⟨x, y⟩ := p
        dsimp only at a1 a2 b1 b2
        have a1' : (w.drewN q).cell? ⟨g, o + k * 2, none⟩ = some (.int .i64 x) := a1
        have a2' : (w.drewN q).cell? ⟨g, o + k * 2 + 1, none⟩ = some (.int .i64 y) := a2
        have b1' : (w.drewN q).cell? ⟨g2, o2 + k * 2, none⟩ = some (.int .i64 x) := b1
        have b2' : (w.drewN q).cell? ⟨g2, o2 + k * 2 + 1, none⟩ = some (.int .i64 y) := b2
        have q1 : (k : Int) < (m : Int) := by omega
        have HD := Lib.hid (fun r => (rfl : (w.drewN q).drewN r = (w.drewN q).drewN r))
        clear a1 a2 b1 b2 hp
        generalize hW : w.drewN q = W at *
        have HW := Lib.hid hW
        clear hW
        go_wp2_with fail
        go_quiet (fail)
        go_wp2_with fail
        go_roundw
        case rel => exact ⟨k + 1, q + nq, by omega, by go_num, by rw [← HW.out]; exact (World.drewN_drewN w q nq)⟩
        case measure => simp [intOf]; omega
      · have hkn : k = m := by omega
        subst hkn
        go_wp2_with fail
        go_ret
        exact ⟨rfl, q, rfl⟩

theorem DecV.mono {w : World} {B B' : Nat} {ca : Option Addr} {k : Nat} {x : ClC} {fa ma ya : Option Addr} {fn mn yn : Nat} {qf qm qt : List Int} {nf nm nt : List ByteArray} (h : DecV w B ca k x fa ma ya fn mn yn qf qm qt nf nm nt) (hB : B ≤ B') : DecV w B' ca k x fa ma ya fn mn yn qf qm qt nf nm nt := by
  have hn : ∀ {s : Sl} {q : List Int}, NumL w B s q → NumL w B' s q := fun h => ⟨h.1, fun k hk => by
    obtain ⟨g, o, e, hg, hc⟩ := h.2 k hk
    exact ⟨g, o, e, Nat.lt_of_lt_of_le hg hB, hc⟩⟩
  have ht : ∀ {A : Option Addr} {sz n : Nat} {ns : List ByteArray}, NmV w B A sz n ns → NmV w B' A sz n ns := fun h => ⟨h.1, fun k hk => by
    obtain ⟨g, o, e, hg, hc⟩ := h.2 k hk
    exact ⟨g, o, e, Nat.lt_of_lt_of_le hg hB, hc⟩⟩
  exact ⟨by
    obtain ⟨b, o, hb, hA⟩ := h.cl
    exact ⟨b, o, by omega, hA.lessen (by omega)⟩, hn h.vqf, hn h.vqm, hn h.vqt, ht h.vnf, ht h.vnm, ht h.vnt, h.lf, h.lm, h.lt, h.tf, h.tm, h.tt⟩

/-- What Declared reads, whatever the class. -/
def DecAny (w : World) (ca fa ma ya : Option Addr) (cn fn mn yn : Nat) (cls : Int) (x : ClC) (qs : List Int × List Int × List Int) (ns : List ByteArray × List ByteArray × List ByteArray) : Prop :=
  ∀ k : Nat, cls = (k : Int) → k < cn → DecV w w.heap.size ca k x fa ma ya fn mn yn qs.1 qs.2.1 qs.2.2 ns.1 ns.2.1 ns.2.2
def decOf (cn : Nat) (cls : Int) (qs : List Int × List Int × List Int) (ns : List ByteArray × List ByteArray × List ByteArray) (name : ByteArray) : List (Int × Int) :=
  if inR cn cls = true then decAll qs.1 qs.2.1 qs.2.2 ns.1 ns.2.1 ns.2.2 name else []

theorem declared_any (cls : Int) (name : ByteArray) (x : ClC) (qs : List Int × List Int × List Int) (ns : List ByteArray × List ByteArray × List ByteArray) (ca ma fa ta ya : Option Addr) (cn mn fn tn yn cc mc fc tc yc : Nat) (mi : Int) (w : World) (hcn : cn ≤ 1048576) (hV : DecAny w ca fa ma ya cn fn mn yn cls x qs ns) :
    Calls Tryz.prog 17 #[.agg #[.slice ca cn cc, .slice ma mn mc, .slice fa fn fc, .slice ta tn tc, .slice ya yn yc, .int .i64 mi], .int .i64 cls, .string name] w fun e w' => ∃ v, e = .returned v ∧ RRow w' w.heap.size v (decOf cn cls qs ns name) ∧ Below w.heap.size w w' := by
  by_cases hin : inR cn cls = true
  · have hin' := inR_iff.1 hin
    obtain ⟨k, rfl⟩ : ∃ k : Nat, cls = (k : Int) := ⟨cls.toNat, by omega⟩
    unfold decOf
    rw [if_pos hin]
    exact declared_in k x name ca ma fa ta ya cn mn fn tn yn cc mc fc tc yc mi _ _ _ _ _ _ w (by omega) hcn (hV k rfl (by omega))
  · have hin' : decide (0 ≤ cls ∧ cls < (cn : Int)) = false := by
      have : ¬ (0 ≤ cls ∧ cls < (cn : Int)) := fun h => hin (inR_iff.2 h)
      simpa using this
    unfold decOf
    rw [if_neg hin]
    have HB := Lib.hid ((Below.refl w.heap.size w).alloc (Nat.le_refl _) (.cells #[.slice ca cn cc, .slice ma mn mc, .slice fa fn fc, .slice ta tn tc, .slice ya yn yc, .int .i64 mi] 30))
    have q0 := (Bl.new w 30 [.slice ca cn cc, .slice ma mn mc, .slice fa fn fc, .slice ta tn tc, .slice ya yn yc, .int .i64 mi]).cell 0
    simp only [List.getElem?_cons_zero] at q0
    clear hin hV
    go_enter Tryz.func17, Tryz.ntmps17
    go_wp2_with fail
    refine (exists_is _ cn _ _ false hin' _).mono ?_
    rintro e w' ⟨rfl, rfl⟩
    go_wp2_with fail
    go_ret
    exact ⟨_, rfl, World.ownsRow_nil _ _ _ _, HB.out⟩

theorem refDeclared_any (cls : Int) (name : ByteArray) (x : ClC) (qs : List Int × List Int × List Int) (ns : List ByteArray × List ByteArray × List ByteArray) (ca ma fa ta ya : Option Addr) (cn mn fn tn yn cc mc fc tc yc : Nat) (mi : Int) (w : World) (hcn : cn ≤ 1048576) (hV : DecAny w ca fa ma ya cn fn mn yn cls x qs ns) :
    Calls Tryz.prog 18 #[.agg #[.slice ca cn cc, .slice ma mn mc, .slice fa fn fc, .slice ta tn tc, .slice ya yn yc, .int .i64 mi], .int .i64 cls, .string name] w fun e w' => ∃ v, e = .returned v ∧ RRow w' w.heap.size v (decOf cn cls qs ns name) ∧ Below w.heap.size w w' := by
  by_cases hin : inR cn cls = true
  · have hin' := inR_iff.1 hin
    obtain ⟨k, rfl⟩ : ∃ k : Nat, cls = (k : Int) := ⟨cls.toNat, by omega⟩
    unfold decOf
    rw [if_pos hin]
    exact refDeclared_in k x name ca ma fa ta ya cn mn fn tn yn cc mc fc tc yc mi _ _ _ _ _ _ w (by omega) hcn (hV k rfl (by omega))
  · have hin' : inR cn cls = false := by simpa using hin
    unfold decOf
    rw [if_neg hin]
    have HB := Lib.hid (((Below.refl w.heap.size w).alloc (Nat.le_refl _) (.cells #[.slice ca cn cc, .slice ma mn mc, .slice fa fn fc, .slice ta tn tc, .slice ya yn yc, .int .i64 mi] 30)).alloc (by simp) (.cells #[] 43))
    have q0 := ((Bl.new w 30 [.slice ca cn cc, .slice ma mn mc, .slice fa fn fc, .slice ta tn tc, .slice ya yn yc, .int .i64 mi]).alloc (.cells #[] 43)).cell 0
    simp only [List.getElem?_cons_zero] at q0
    have HQ0 := Lib.hid (show RRow ((w.alloc (.cells #[.slice ca cn cc, .slice ma mn mc, .slice fa fn fc, .slice ta tn tc, .slice ya yn yc, .int .i64 mi] 30)).alloc (.cells #[] 43)) w.heap.size (.slice (some ⟨w.heap.size + 1, 0, none⟩) 0 0) [] from by
      have h := World.ownsRow_made (base := w.heap.size) (e := 43) (size := 2) (w.alloc (.cells #[.slice ca cn cc, .slice ma mn mc, .slice fa fn fc, .slice ta tn tc, .slice ya yn yc, .int .i64 mi] 30)) #[] 0 (by simp) (by unfold maxLen; omega) rfl
      unfold RRow
      simpa [refV] using h)
    clear hin hV
    go_enter Tryz.func18, Tryz.ntmps18
    go_wp2_with fail
    refine (refIn_is _ cn false hin' _).mono ?_
    rintro e w' ⟨rfl, rfl⟩
    go_wp2_with fail
    go_ret
    exact ⟨_, rfl, HQ0.out, HB.out⟩

set_option maxRecDepth 100000 in
set_option maxHeartbeats 8000000 in
theorem declares_any (a0 : Int) (name : ByteArray) (hnm : name.size ≤ 9223372036854775807) (ca ma fa ta ya : Option Addr) (cn mn fn tn yn cc mc fc tc yc : Nat) (mi : Int) (w : World)
    (hc : ∀ L, w.heap.size ≤ L → ClRow L w ca cn) (hm : ∀ L, w.heap.size ≤ L → MeRow L w ma mn) (hf : ∀ L, w.heap.size ≤ L → FiRow L w fa fn) (ht : ∀ L, w.heap.size ≤ L → TpRow L w ta tn) (hy : ∀ L, w.heap.size ≤ L → TmRow L w ya yn) :
    Calls Tryz.prog 5 #[.agg #[.slice ca cn cc, .slice ma mn mc, .slice fa fn fc, .slice ta tn tc, .slice ya yn yc, .int .i64 mi], .int .i64 a0, .string name] w fun e W' => e = .returned (.bool true) ∧ Below w.heap.size w W' := by
  obtain ⟨nf, hnf⟩ := NmV.of (w := w) (A := fa) (sz := 9) (n := fn) (fun i hi => by
    obtain ⟨b, o, x, hA, hO⟩ := (hf w.heap.size (Nat.le_refl _)).2 i hi
    exact ⟨b, o, x.nm, hA.ad, hA.lt, hO.nm, hA.k0⟩)
  obtain ⟨nm, hnmm⟩ := NmV.of (w := w) (A := ma) (sz := 13) (n := mn) (fun i hi => by
    obtain ⟨b, o, x, hA, hO⟩ := (hm w.heap.size (Nat.le_refl _)).2 i hi
    exact ⟨b, o, x.nm, hA.ad, hA.lt, hO.nm, hA.k0⟩)
  obtain ⟨nt, hnt⟩ := NmV.of (w := w) (A := ya) (sz := 13) (n := yn) (fun i hi => by
    obtain ⟨b, o, xn, xo, xa, xl, xh, hA, hs, _⟩ := (hy w.heap.size (Nat.le_refl _)).2 i hi
    exact ⟨b, o, xn, hA.ad, hA.lt, hs, hA.k0⟩)
  obtain ⟨x, qs, hD⟩ : ∃ (x : ClC) (qs : List Int × List Int × List Int), fn ≤ 1048576 → mn ≤ 1048576 → yn ≤ 1048576 → (∀ k : Nat, a0 = (k : Int) → k < cn → DecV w w.heap.size ca k x fa ma ya fn mn yn qs.1 qs.2.1 qs.2.2 nf nm nt) ∧ (qs.1.length ≤ 1048576 ∧ qs.2.1.length ≤ 1048576 ∧ qs.2.2.length ≤ 1048576) := by
    by_cases hin : 0 ≤ a0 ∧ a0.toNat < cn
    · obtain ⟨b, o, x, hA, hO⟩ := (hc w.heap.size (Nat.le_refl _)).2 a0.toNat hin.2
      obtain ⟨q1, h1⟩ := NumL.of hO.nfi
      obtain ⟨q2, h2⟩ := NumL.of hO.nme
      obtain ⟨q3, h3⟩ := NumL.of hO.nty
      have l1 : q1.length ≤ 1048576 := by rw [← h1.1]; exact hO.fi
      have l2 : q2.length ≤ 1048576 := by rw [← h2.1]; exact hO.me
      have l3 : q3.length ≤ 1048576 := by rw [← h3.1]; exact hO.ty
      refine ⟨x, (q1, q2, q3), fun e1 e2 e3 => ⟨fun k hk hkc => ?_, l1, l2, l3⟩⟩
      have ek : a0.toNat = k := by omega
      subst ek
      exact ⟨⟨b, o, hA.lt, hA⟩, h1, h2, h3, hnf, hnmm, hnt, l1, l2, l3, e1, e2, e3⟩
    · exact ⟨⟨⟨#[]⟩, 0, 0, 0, ⟨none, 0, 0⟩, ⟨none, 0, 0⟩, ⟨none, 0, 0⟩, ⟨none, 0, 0⟩, ⟨none, 0, 0⟩, ⟨none, 0, 0⟩, ⟨none, 0, 0⟩, ⟨none, 0, 0⟩, 0⟩, ([], [], []), fun _ _ _ => ⟨fun k hk hkc => absurd ⟨by omega, by omega⟩ hin, by simp, by simp, by simp⟩⟩
  have HDD := Lib.hid hD
  have B0 := Lib.hid ((Below.refl w.heap.size w).alloc (Nat.le_refl _) (.cells #[.slice ca cn cc, .slice ma mn mc, .slice fa fn fc, .slice ta tn tc, .slice ya yn yc, .int .i64 mi] 30))
  have P0 := Lib.hid (Bl.new w 30 [.slice ca cn cc, .slice ma mn mc, .slice fa fn fc, .slice ta tn tc, .slice ya yn yc, .int .i64 mi])
  have oF : ∀ L, w.heap.size ≤ L → Og L w (w.alloc (.cells #[.slice ca cn cc, .slice ma mn mc, .slice fa fn fc, .slice ta tn tc, .slice ya yn yc, .int .i64 mi] 30)) := fun L _ => (Og.refl L w).alloc _
  have hsz : (w.alloc (.cells #[.slice ca cn cc, .slice ma mn mc, .slice fa fn fc, .slice ta tn tc, .slice ya yn yc, .int .i64 mi] 30)).heap.size = w.heap.size + 1 := by simp
  have hfew := few_lim ca ma fa ta ya cn mn fn tn yn cc mc fc tc yc mi (w.alloc (.cells #[.slice ca cn cc, .slice ma mn mc, .slice fa fn fc, .slice ta tn tc, .slice ya yn yc, .int .i64 mi] 30)) ((hc _ (by simp; omega)).og (oF _ (by simp; omega))) ((hm _ (by simp; omega)).og (oF _ (by simp; omega))) ((hf _ (by simp; omega)).og (oF _ (by simp; omega))) ((ht _ (by simp; omega)).og (oF _ (by simp; omega))) ((hy _ (by simp; omega)).og (oF _ (by simp; omega)))
  rw [hsz] at hfew
  have HFew := Lib.hid hfew
  have HXX : Hid (∀ W', Below (w.heap.size + 1) (w.alloc (.cells #[.slice ca cn cc, .slice ma mn mc, .slice fa fn fc, .slice ta tn tc, .slice ya yn yc, .int .i64 mi] 30)) W' → Below w.heap.size w W') := Lib.hid (fun W' hB => B0.out.trans (hB.mono (by omega)))
  have HBw := HXX
  have HS : Hid (∀ W', Below (w.heap.size + 1) (w.alloc (.cells #[.slice ca cn cc, .slice ma mn mc, .slice fa fn fc, .slice ta tn tc, .slice ya yn yc, .int .i64 mi] 30)) W' → (fun w' : World => w'.cell? ⟨w.heap.size, 0, none⟩ = some (.slice ca cn cc) ∧ w'.cell? ⟨w.heap.size, 1, none⟩ = some (.slice ma mn mc) ∧ w'.cell? ⟨w.heap.size, 2, none⟩ = some (.slice fa fn fc) ∧ w'.cell? ⟨w.heap.size, 3, none⟩ = some (.slice ta tn tc) ∧ w'.cell? ⟨w.heap.size, 4, none⟩ = some (.slice ya yn yc) ∧ w'.cell? ⟨w.heap.size, 5, none⟩ = some (.int .i64 mi)) W') := Lib.hid (fun W' hB => by
    have h := P0.out.below hB (by omega)
    exact ⟨h.cell 0, h.cell 1, h.cell 2, h.cell 3, h.cell 4, h.cell 5⟩)
  have hmx : Tryz.prog.follows .mixedOrders = true := by kernel_rfl
  clear hc hm hf ht hy oF hfew hD hnf hnmm hnt
  go_enter Tryz.func5, Tryz.ntmps5
  go_upto_region 1 with fail
  generalize hW : (w.alloc (.cells #[.slice ca cn cc, .slice ma mn mc, .slice fa fn fc, .slice ta tn tc, .slice ya yn yc, .int .i64 mi] 30)) = S0 at *
  clear hW B0 P0
  have hS0 : w.heap.size + 1 ≤ S0.heap.size := by omega
  obtain ⟨p0, p1, p2, p3, p4, p5⟩ := HS.out S0 (Below.refl _ _)
  go_wp2_with fail
  clear p0 p1 p2 p3 p4 p5
  refine HFew.out.mono ?_
  rintro e w1 ⟨⟨r, rfl, hFB⟩, hB⟩
  have HB1 := Lib.hid hB
  have hs1 : w.heap.size + 1 ≤ w1.heap.size := by have := hB.size; omega
  clear hB HFew
  cases r
  · clear hFB
    go_wp2_with fail
    refine (awake_any _).mono ?_
    rintro e w2 ⟨rfl, hB2⟩
    have HB2 := Lib.hid (HBw.out w2 (HB1.out.trans (hB2.mono hs1)))
    clear hB2
    go_wp2_with fail
    go_ret
    exact ⟨rfl, HB2.out⟩
  · obtain ⟨f1, f2, f3, f4, f5⟩ := hFB rfl
    obtain ⟨hDV, hl1, hl2, hl3⟩ := HDD.out (by omega) (by omega) (by omega)
    clear hFB HDD
    by_cases hbig : 100 < name.size
    · have hb1 : (100 : Int) < (name.size : Int) := by omega
      clear hDV
      go_wp2_with fail
      refine (awake_any _).mono ?_
      rintro e w2 ⟨rfl, hB2⟩
      have HB2 := Lib.hid (HBw.out w2 (HB1.out.trans (hB2.mono hs1)))
      clear hB2
      go_wp2_with fail
      go_ret
      exact ⟨rfl, HB2.out⟩
    · have hb1 : ¬ (100 : Int) < (name.size : Int) := by omega
      have hcn : cn ≤ 1048576 := by omega
      have HX : Hid (∀ W', Below (w.heap.size + 1) S0 W' → DecAny W' ca fa ma ya cn fn mn yn a0 x qs (nf, nm, nt)) := Lib.hid (fun W' hB k hk hkc => ((hDV k hk hkc).below (HXX.out W' hB)).mono (HXX.out W' hB).size)
      have HLn : Hid ((decOf cn a0 qs (nf, nm, nt) name).length ≤ 4000000) := Lib.hid (by
        unfold decOf
        split
        · have h1 := decL_length 1 nf name qs.1
          have h2 := decL_length 0 nm name qs.2.1
          have h3 := decL_length 2 nt name qs.2.2
          simp only [decAll, List.length_append]
          omega
        · simp)
      clear hDV hl1 hl2 hl3 HXX
      go_wp2_with fail
      refine anyC_region (c := 12) (S := (fun w' : World => w'.cell? ⟨w.heap.size, 0, none⟩ = some (.slice ca cn cc) ∧ w'.cell? ⟨w.heap.size, 1, none⟩ = some (.slice ma mn mc) ∧ w'.cell? ⟨w.heap.size, 2, none⟩ = some (.slice fa fn fc) ∧ w'.cell? ⟨w.heap.size, 3, none⟩ = some (.slice ta tn tc) ∧ w'.cell? ⟨w.heap.size, 4, none⟩ = some (.slice ya yn yc) ∧ w'.cell? ⟨w.heap.size, 5, none⟩ = some (.int .i64 mi))) hmx ?_
      have hSS0 := HS.out _ HB1.out.drew
      refine anyC_one (i := 0) (by kernel_rfl) rfl (by rfl) (fun K hK => ?_)
      go_simp
      refine (awake_any _).mono ?_
      rintro e w2 ⟨rfl, hB'⟩
      have HB2 := Lib.hid (HB1.out.drew.trans (hB'.mono hs1))
      have hS2 := HS.out w2 HB2.out
      clear hB' hSS0
      refine hK.out _ _ (.inr (.inr hS2)) ?_
      clear hK K
      (try simp only [Act.put, List.setIfInBounds_toArray, List.set_cons_zero, List.set_cons_succ])
      refine anyC_one (i := 1) (by kernel_rfl) rfl (by rfl) (fun K hK => ?_)
      go_simp
      refine hK.out _ _ (.inr (.inr hS2)) ?_
      clear hK K
      (try simp only [Act.put, List.setIfInBounds_toArray, List.set_cons_zero, List.set_cons_succ])
      refine anyC_take (i := 2) (v := ?_) (some 18) (by rfl) rfl (by kernel_rfl) (by kernel_rfl) (by kernel_rfl) (by kernel_rfl) (by kernel_rfl) (fun _ _ _ h => h) (Or.inl ⟨by rfl, ?_⟩) (by assumption) ?_
      rotate_left
      · (intro w hSw; (try dsimp only at hSw); go_simp; try with_reducible rfl)
      (try simp only [Act.put, List.setIfInBounds_toArray, List.set_cons_zero, List.set_cons_succ])
      refine anyC_take0 (i := 3) (v := ?_) (some 19) (by rfl) rfl (by kernel_rfl) (by kernel_rfl) (by kernel_rfl) (fun _ _ _ h => h) (Or.inl ⟨by rfl, ?_⟩) (by decide) (Or.inr (by assumption)) ?_
      rotate_left
      · (intro w; go_simp; try with_reducible rfl)
      (try simp only [Act.put, List.setIfInBounds_toArray, List.set_cons_zero, List.set_cons_succ])
      refine anyC_take0 (i := 4) (v := ?_) (some 20) (by rfl) rfl (by kernel_rfl) (by kernel_rfl) (by kernel_rfl) (fun _ _ _ h => h) (Or.inl ⟨by rfl, ?_⟩) (by decide) (Or.inr (by assumption)) ?_
      rotate_left
      · (intro w; go_simp; try with_reducible rfl)
      (try simp only [Act.put, List.setIfInBounds_toArray, List.set_cons_zero, List.set_cons_succ])
      refine anyC_take (i := 6) (v := ?_) (some 22) (by rfl) rfl (by kernel_rfl) (by kernel_rfl) (by kernel_rfl) (by kernel_rfl) (by kernel_rfl) (fun _ _ _ h => h) (Or.inl ⟨by rfl, ?_⟩) (by assumption) ?_
      rotate_left
      · (intro w hSw; (try dsimp only at hSw); go_simp; try with_reducible rfl)
      (try simp only [Act.put, List.setIfInBounds_toArray, List.set_cons_zero, List.set_cons_succ])
      refine anyC_take0 (i := 7) (v := ?_) (some 23) (by rfl) rfl (by kernel_rfl) (by kernel_rfl) (by kernel_rfl) (fun _ _ _ h => h) (Or.inl ⟨by rfl, ?_⟩) (by decide) (Or.inr (by assumption)) ?_
      rotate_left
      · (intro w; go_simp; try with_reducible rfl)
      (try simp only [Act.put, List.setIfInBounds_toArray, List.set_cons_zero, List.set_cons_succ])
      refine anyC_take0 (i := 8) (v := ?_) (some 24) (by rfl) rfl (by kernel_rfl) (by kernel_rfl) (by kernel_rfl) (fun _ _ _ h => h) (Or.inl ⟨by rfl, ?_⟩) (by decide) (Or.inr (by assumption)) ?_
      rotate_left
      · (intro w; go_simp; try with_reducible rfl)
      (try simp only [Act.put, List.setIfInBounds_toArray, List.set_cons_zero, List.set_cons_succ])
      refine anyC_one (i := 5) (by kernel_rfl) rfl (by rfl) (fun K hK => ?_)
      go_simp
      refine (declared_any a0 name x qs (nf, nm, nt) ca ma fa ta ya cn mn fn tn yn cc mc fc tc yc mi w2 hcn (HX.out w2 HB2.out)).mono ?_
      rintro e w3 ⟨v2, rfl, hq2, hB'⟩
      have HB3 := Lib.hid (HB2.out.trans (hB'.mono (Nat.le_trans hS0 HB2.out.size)))
      have hS3 := HS.out w3 HB3.out
      obtain ⟨A1, cap1, rfl⟩ := RRow.slice hq2
      have HQ1 := Lib.hid hq2
      clear hq2 hB' hS2
      refine hK.out _ _ (.inr (.inr hS3)) ?_
      clear hK K
      (try simp only [Act.put, List.setIfInBounds_toArray, List.set_cons_zero, List.set_cons_succ])
      refine anyC_one (i := 9) (by kernel_rfl) rfl (by rfl) (fun K hK => ?_)
      go_simp
      refine (refDeclared_any a0 name x qs (nf, nm, nt) ca ma fa ta ya cn mn fn tn yn cc mc fc tc yc mi w3 hcn (HX.out w3 HB3.out)).mono ?_
      rintro e w4 ⟨v3, rfl, hq3, hB'⟩
      have HB4 := Lib.hid (HB3.out.trans (hB'.mono (Nat.le_trans hS0 HB3.out.size)))
      have hS4 := HS.out w4 HB4.out
      obtain ⟨A2, cap2, rfl⟩ := RRow.slice hq3
      have HN1 := Lib.hid (RRow.refs (RRow.below HQ1.out hB' (Nat.le_refl _)))
      have HN2 := Lib.hid (RRow.refs hq3)
      clear hq3 hB' hS3
      refine hK.out _ _ (.inr (.inr hS4)) ?_
      clear hK K
      (try simp only [Act.put, List.setIfInBounds_toArray, List.set_cons_zero, List.set_cons_succ])
      refine anyC_one (i := 10) (by kernel_rfl) rfl (by rfl) (fun K hK => ?_)
      go_simp
      refine (equalRef_any A1 A2 _ _ cap1 cap2 _ w4 HN1.out HN2.out HLn.out).mono ?_
      rintro e w5 ⟨rfl, q, rfl⟩
      have HB5 := Lib.hid (belowDrewN HB4.out q)
      have hS5 := HS.out _ HB5.out
      clear hS4 HN1 HN2
      refine hK.out _ _ (.inr (.inr hS5)) ?_
      clear hK K
      (try simp only [Act.put, List.setIfInBounds_toArray, List.set_cons_zero, List.set_cons_succ])
      refine anyC_one (i := 11) (by kernel_rfl) rfl (by rfl) (fun K hK => ?_)
      go_simp
      refine hK.out _ _ (.inr (.inr hS5)) ?_
      clear hK K
      (try simp only [Act.put, List.setIfInBounds_toArray, List.set_cons_zero, List.set_cons_succ])
      refine anyC_one (i := 12) (by kernel_rfl) rfl (by rfl) (fun K hK => ?_)
      go_simp
      refine hK.out _ _ (.inl rfl) ?_
      apply anyC_end
      rotate_left
      · kernel_rfl
      go_wp2_with fail
      go_ret
      exact ⟨rfl, HBw.out _ HB5.out⟩
end Go.Proofs.YtkjjieloncdjhaaGreatDoor
