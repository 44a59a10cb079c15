/- SymbolsOrders: the walk. -/
import Derived.Test.YtkjjieloncdjhaaGreatDoorE17
import Derived.Test.YtkjjieloncdjhaaGreatDoorP1
import Derived.Test.YtkjjieloncdjhaaGreatDoorR8
namespace Go.Proofs.YtkjjieloncdjhaaGreatDoor
open Go Go.RowKit

theorem fldA (p i z : Int) (w : World) : (Instr.field 55 (.agg #[.int .i64 p, .int .i64 i, .int .i64 z]) 2).run Tryz.prog w = .ok (.int .i64 z) w := by kernel_rfl

theorem CkOk.par {cn : Nat} {xs : List ClC} {ps : List (List Ty)} (h : CkOk cn xs ps) (hl : ps.length = cn) {k : Nat} {ts : List Ty} (hts : ps[k]? = some ts) {t : Ty} (ht : t ∈ ts) (h10 : t.kd = 10) : (k : Int) ∈ childF (symL ps) t.sy ∧ Rch (symL ps) (k : Int) t.sy := by
  have hk : k < cn := by rw [← hl]; exact (List.getElem?_eq_some_iff.1 hts).1
  have hin := h.p k hk ts hts t ht h10
  have hs : (symL ps).length = cn := by unfold symL; rw [List.length_map, hl]
  have hpar : t.sy ∈ Go.Proofs.YtkjjieloncdjhaaGreatDoor.par (symL ps) (k : Int) := by
    rw [par_at hts]
    unfold symsOf
    exact List.mem_map.2 ⟨t, List.mem_filter.2 ⟨ht, by simpa using h10⟩, rfl⟩
  refine ⟨?_, .one hpar (by rw [hs]; exact hin)⟩
  unfold childF
  rw [if_pos (by rw [hs]; exact hin)]
  unfold pickP
  exact List.mem_filter.2 ⟨List.mem_map.2 ⟨k, List.mem_range.2 (by rw [hs]; exact hk), rfl⟩, by simpa using hpar⟩
theorem chain_trans' {ows : List Int} {n : Nat} (hn : n = ows.length) {a b c : Int} (h : b ∈ chain ows n a) (k : c ∈ chain ows n b) : c ∈ chain ows n a := by
  subst hn
  exact chain_trans h k
theorem getD_in {l : List Int} {j : Nat} (h : j < l.length) : l.getD j 0 ∈ l := by
  rw [List.getD_eq_getElem?_getD, List.getElem?_eq_getElem h]
  exact List.getElem_mem _

set_option maxRecDepth 100000 in
set_option maxHeartbeats 40000000 in
theorem orders_any (ca ma fa ta ya : Option Addr) (cn mn fn tn yn cc mc fc tc yc : Nat) (mi : Int) (w : World) (hcap : cn ≤ cc ∧ mn ≤ mc ∧ fn ≤ fc ∧ tn ≤ tc ∧ yn ≤ yc)
    (hc : ∀ L, w.heap.size ≤ L → ClRow L w ca cn) (hm : ∀ L, w.heap.size ≤ L → MeRow L w ma mn) (hf : ∀ L, w.heap.size ≤ L → FiRow L w fa fn) (ht : ∀ L, w.heap.size ≤ L → TpRow L w ta tn) (hy : ∀ L, w.heap.size ≤ L → TmRow L w ya yn) :
    Calls Tryz.prog 8 #[.agg #[.slice ca cn cc, .slice ma mn mc, .slice fa fn fc, .slice ta tn tc, .slice ya yn yc, .int .i64 mi]] w fun e W' => e = .returned (.bool true) ∧ Below w.heap.size w W' := by
  obtain ⟨xs, ps, hl, hV⟩ := ClsV.of (hc w.heap.size (Nat.le_refl _))
  have HL := Lib.hid hl
  have HLp := Lib.hid (show ps.length = cn from hV.len.trans hl.symm)
  have B0 := Lib.hid ((Below.refl w.heap.size w).alloc (Nat.le_refl _) (.cells #[.slice ca cn cc, .slice ma mn mc, .slice fa fn fc, .slice ta tn tc, .slice ya yn yc, .int .i64 mi] 30))
  have P0 := Lib.hid (Bl.new w 30 [.slice ca cn cc, .slice ma mn mc, .slice fa fn fc, .slice ta tn tc, .slice ya yn yc, .int .i64 mi])
  have oF : ∀ L, w.heap.size ≤ L → Og L w (w.alloc (.cells #[.slice ca cn cc, .slice ma mn mc, .slice fa fn fc, .slice ta tn tc, .slice ya yn yc, .int .i64 mi] 30)) := fun L _ => (Og.refl L w).alloc _
  have hsz : (w.alloc (.cells #[.slice ca cn cc, .slice ma mn mc, .slice fa fn fc, .slice ta tn tc, .slice ya yn yc, .int .i64 mi] 30)).heap.size = w.heap.size + 1 := by simp
  have hfew := few_lim ca ma fa ta ya cn mn fn tn yn cc mc fc tc yc mi (w.alloc (.cells #[.slice ca cn cc, .slice ma mn mc, .slice fa fn fc, .slice ta tn tc, .slice ya yn yc, .int .i64 mi] 30)) ((hc _ (by simp; omega)).og (oF _ (by simp; omega))) ((hm _ (by simp; omega)).og (oF _ (by simp; omega))) ((hf _ (by simp; omega)).og (oF _ (by simp; omega))) ((ht _ (by simp; omega)).og (oF _ (by simp; omega))) ((hy _ (by simp; omega)).og (oF _ (by simp; omega)))
  rw [hsz] at hfew
  have HFew := Lib.hid hfew
  have HX : Hid (∀ W', Below (w.heap.size + 1) (w.alloc (.cells #[.slice ca cn cc, .slice ma mn mc, .slice fa fn fc, .slice ta tn tc, .slice ya yn yc, .int .i64 mi] 30)) W' → ClsV W' W'.heap.size ca xs ps) := Lib.hid (fun W' hB => ((hV.below B0.out).below (hB.mono (by omega))).mono (by have := hB.size; omega))
  have HBw : Hid (∀ W', Below (w.heap.size + 1) (w.alloc (.cells #[.slice ca cn cc, .slice ma mn mc, .slice fa fn fc, .slice ta tn tc, .slice ya yn yc, .int .i64 mi] 30)) W' → Below w.heap.size w W') := Lib.hid (fun W' hB => B0.out.trans (hB.mono (by omega)))
  have HPrg : Hid (∀ W', Below (w.heap.size + 1) (w.alloc (.cells #[.slice ca cn cc, .slice ma mn mc, .slice fa fn fc, .slice ta tn tc, .slice ya yn yc, .int .i64 mi] 30)) W' → PrgR W'.heap.size W' ca ma fa ta ya cn mn fn tn yn) := Lib.hid (fun W' hB => by
    have hb := B0.out.trans (hB.mono (B' := w.heap.size) (by omega))
    have hs := hb.size
    exact ⟨(hc _ hs).og (og_of_below hb), (hm _ hs).og (og_of_below hb), (hf _ hs).og (og_of_below hb), (ht _ hs).og (og_of_below hb), (hy _ hs).og (og_of_below hb)⟩)
  have HS : Hid (∀ W', Below (w.heap.size + 1) (w.alloc (.cells #[.slice ca cn cc, .slice ma mn mc, .slice fa fn fc, .slice ta tn tc, .slice ya yn yc, .int .i64 mi] 30)) W' → W'.cell? ⟨w.heap.size, 0, none⟩ = some (.slice ca cn cc) ∧ W'.cell? ⟨w.heap.size, 1, none⟩ = some (.slice ma mn mc) ∧ W'.cell? ⟨w.heap.size, 2, none⟩ = some (.slice fa fn fc) ∧ W'.cell? ⟨w.heap.size, 3, none⟩ = some (.slice ta tn tc) ∧ W'.cell? ⟨w.heap.size, 4, none⟩ = some (.slice ya yn yc) ∧ W'.cell? ⟨w.heap.size, 5, none⟩ = some (.int .i64 mi)) := Lib.hid (fun W' hB => by
    have h := P0.out.below hB (by omega)
    exact ⟨h.cell 0, h.cell 1, h.cell 2, h.cell 3, h.cell 4, h.cell 5⟩)
  obtain ⟨hcap1, hcap2, hcap3, hcap4, hcap5⟩ := hcap
  clear hc hm hf ht hy oF hl hV hfew
  go_enter Tryz.func8, Tryz.ntmps8
  go_upto_region 1 with fail
  generalize hW : (w.alloc (.cells #[.slice ca cn cc, .slice ma mn mc, .slice fa fn fc, .slice ta tn tc, .slice ya yn yc, .int .i64 mi] 30)) = S0 at *
  clear hW B0 P0
  have hS0 : w.heap.size + 1 ≤ S0.heap.size := by omega
  obtain ⟨p0, p1, p2, p3, p4, p5⟩ := HS.out S0 (Below.refl _ _)
  go_wp2_with fail
  clear p0 p1 p2 p3 p4 p5
  refine HFew.out.mono ?_
  rintro e w1 ⟨⟨r, rfl, hFB⟩, hB⟩
  have HB1 := Lib.hid hB
  have hs1 : w.heap.size + 1 ≤ w1.heap.size := by have := hB.size; omega
  clear hB HFew
  cases r
  · clear hFB
    go_wp2_with fail
    refine (awake_any _).mono ?_
    rintro e w2 ⟨rfl, hB2⟩
    have HB2 := Lib.hid (HBw.out w2 (HB1.out.trans (hB2.mono hs1)))
    clear hB2
    go_wp2_with fail
    go_ret
    exact ⟨rfl, HB2.out⟩
  · obtain ⟨f1, f2, f3, f4, f5⟩ := hFB rfl
    clear hFB
    have hcn : cn ≤ 1048576 := by omega
    obtain ⟨p0, p1, p2, p3, p4, p5⟩ := HS.out w1 HB1.out
    go_wp2_with fail
    refine (check_all xs ps ca ma fa ta ya cn mn fn tn yn cc mc fc tc yc mi w1 (by omega) (by omega) (by omega) (by omega) (by omega) hcap3 hcap4 hcap5 HL.out (HPrg.out w1 HB1.out) (HX.out w1 HB1.out)).mono ?_
    rintro e w2 ⟨⟨cp, ci, cz, rfl, hok⟩, hB⟩
    have HOK := Lib.hid hok
    have HB2 := Lib.hid (HB1.out.trans (hB.mono hs1))
    have hs2 : w.heap.size + 1 ≤ w2.heap.size := by have := HB2.out.size; omega
    have hfa := fldA cp ci cz
    clear hB hok p0 p1 p2 p3 p4 p5 f1 f2 f3 f4 f5 hcap1 hcap2 hcap3 hcap4 hcap5
    obtain ⟨p0, p1, p2, p3, p4, p5⟩ := HS.out w2 HB2.out
    by_cases hz : cz = 0
    · have HOk := Lib.hid (HOK.out hz)
      subst hz
      clear HOK
      go_wp2_with fail
      clear hfa
      go_loopw [27] (fun s wr => ∃ k : Nat, k ≤ cn ∧ s = .int .i64 k ∧ Below (w.heap.size + 1) S0 wr) (fun s _ => cn - (intOf s).toNat)
      case atStart => exact ⟨0, by omega, rfl, HB2.out⟩
      case round =>
        obtain ⟨k, hk, rfl, hB⟩ := hrel
        have HBr := Lib.hid hB
        have hsr : w.heap.size + 1 ≤ wr.heap.size := by have := hB.size; omega
        clear hB p0 p1 p2 p3 p4 p5
        by_cases hlt : k < cn
        · obtain ⟨x, hx⟩ : ∃ x, xs[k]? = some x := ⟨_, List.getElem?_eq_getElem (by rw [← HL.out]; exact hlt)⟩
          obtain ⟨ts, hts⟩ : ∃ ts, ps[k]? = some ts := ⟨_, List.getElem?_eq_getElem (by rw [HLp.out]; exact hlt)⟩
          obtain ⟨bc, oc, hbc, hA⟩ := (HX.out wr HBr.out).at_ k x hx
          obtain rfl := hA.ad
          obtain ⟨-, -, -, k0, k1, k2, k3, k4, k5, k6, k7, k8, k9, k10, k11, k12⟩ := hA
          have HXx := Lib.hid hx
          have HTs := Lib.hid hts
          clear hx hts
          obtain ⟨q0, q1, q2, q3, q4, q5⟩ := HS.out wr HBr.out
          have HBc := Lib.hid (HBr.out.alloc hsr (.cells x.cells.toArray 37))
          have hN0 := Bl.new wr 37 x.cells
          have HNb := Lib.hid hN0
          obtain ⟨p0, p1, p2, p3, p4, p5⟩ := HS.out _ HBc.out
          have hl1 : w.heap.size < wr.heap.size := by omega
          have hl2 : ¬ w.heap.size = wr.heap.size := by omega
          clear hN0
          go_wp2_with fail
          refine (ancestors_any (some ⟨bc, oc, none⟩) cn cc xs ps (k : Int) (.slice ma mn mc) (.slice fa fn fc) (.slice ta tn tc) (.slice ya yn yc) (.int .i64 mi) _ HL.out hcn (HX.out _ HBc.out)).mono ?_
          rintro e w3 ⟨l, A1, cap1, rfl, hAn, hll, hNl, hGl, hB⟩
          have HAn := Lib.hid hAn
          have HB3 := Lib.hid (HBc.out.trans (hB.mono (by simp; omega)))
          have hs3 : w.heap.size + 1 ≤ w3.heap.size := by have := HB3.out.size; omega
          have HC := Lib.hid (HNb.out.below hB (by simp))
          have HNl := Lib.hid (fun W' (h : Below w3.heap.size w3 W') => hNl.below h hGl)
          have HBk := Lib.hid (fun W' (h : Below w3.heap.size w3 W') => HB3.out.trans (h.mono hs3))
          have HC5 := Lib.hid (fun W' (h : Below w3.heap.size w3 W') => (HC.out.below h HC.out.lt).cell 5)
          have hlen : l.length ≤ 1048576 := by
            have h1 := HLp.out
            simp only [symL, List.length_map] at hll
            omega
          clear hB hAn hNl hGl hll HNb k0 k1 k2 k3 k4 k5 k6 k7 k8 k9 k10 k11 k12 p0 p1 p2 p3 p4 p5 q0 q1 q2 q3 q4 q5 hl1 hl2 HBc
          generalize wr.heap.size = gr at *
          obtain ⟨p0, p1, p2, p3, p4, p5⟩ := HS.out w3 HB3.out
          go_wp2_with fail
          refine (insideN_any cc (some ⟨bc, oc, none⟩) cn (xs.map (·.ow)) (k : Int) (k : Int) (.slice ma mn mc) (.slice fa fn fc) (.slice ta tn tc) (.slice ya yn yc) (.int .i64 mi) (by simpa using HL.out) hcn w3 (HX.out w3 HB3.out).ows).mono ?_
          rintro e w4 ⟨rfl, hB⟩
          rw [decide_eq_false (HOk.out.n k hlt)]
          have HB4 := Lib.hid hB
          clear hB p0 p1 p2 p3 p4 p5
          go_wp2_with fail
          refine (contains_any A1 _ cap1 l (k : Int) _ hlen (HNl.out w4 HB4.out)).mono ?_
          rintro e w' ⟨rfl, rfl⟩
          rw [decide_eq_false (fun h => HOk.out.r k hlt ((HAn.out.me (k : Int)).1 h))]
          go_wp2_with fail
          go_loopw [46] (fun s wr => ∃ j : Nat, j ≤ l.length ∧ s = .int .i64 j ∧ Below w3.heap.size w3 wr) (fun s _ => l.length - (intOf s).toNat)
          case atStart => exact ⟨0, by omega, rfl, HB4.out⟩
          case round =>
            obtain ⟨j, hj, rfl, hB⟩ := hrel
            have HBj := Lib.hid hB
            clear hB HB4
            obtain ⟨p0, p1, p2, p3, p4, p5⟩ := HS.out wr (HBk.out wr HBj.out)
            by_cases hlj : j < l.length
            · obtain ⟨-, hNc⟩ := HNl.out wr HBj.out
              obtain ⟨g, o, eA, hc⟩ := hNc (by omega)
              subst eA
              have hcj := hc j hlj
              have HIn := Lib.hid (getD_in hlj)
              clear hc hNc
              generalize l.getD j 0 = a at *
              go_wp2_with fail
              refine (ancestors_any (some ⟨bc, oc, none⟩) cn cc xs ps a (.slice ma mn mc) (.slice fa fn fc) (.slice ta tn tc) (.slice ya yn yc) (.int .i64 mi) wr HL.out hcn (HX.out wr (HBk.out wr HBj.out))).mono ?_
              rintro e w5 ⟨l2, A2, cap2, rfl, hAn2, hll2, hNl2, hGl2, hB⟩
              have HAn2 := Lib.hid hAn2
              have HB5 := Lib.hid (HBj.out.trans (hB.mono HBj.out.size))
              have HNl2 := Lib.hid hNl2
              have hlen2 : l2.length ≤ 1048576 := by
                have h1 := HLp.out
                simp only [symL, List.length_map] at hll2
                omega
              clear hB hAn2 hNl2 hGl2 hll2 p0 p1 p2 p3 p4 p5 hcj
              go_wp2_with fail
              go_loop [54] (fun s => ∃ m : Nat, m ≤ l2.length ∧ s = .int .i64 m) (fun s => l2.length - (intOf s).toNat)
              case atStart => exact ⟨0, by omega, rfl⟩
              case round =>
                obtain ⟨m, hm, rfl⟩ := hrel
                by_cases hlm : m < l2.length
                · obtain ⟨-, hNc⟩ := HNl2.out
                  obtain ⟨g2, o2, eA, hc⟩ := hNc (by omega)
                  subst eA
                  have hcm := hc m hlm
                  have HIn2 := Lib.hid (getD_in hlm)
                  clear hc hNc
                  generalize l2.getD m 0 = b at *
                  go_wp2_with fail
                  refine (contains_any _ _ cap1 l b _ hlen (HNl.out w5 HB5.out)).mono ?_
                  rintro e w' ⟨rfl, rfl⟩
                  rw [decide_eq_true ((HAn.out.me b).2 (((HAn.out.me a).1 HIn.out).trans ((HAn2.out.me b).1 HIn2.out)))]
                  go_wp2_with fail
                  go_round
                  case rel => exact ⟨m + 1, by omega, by go_num⟩
                  case measure => simp [intOf]; omega
                · have hmn' : l2.length = m := by omega
                  subst hmn'
                  go_wp2_with fail
                  go_roundw
                  case rel => exact ⟨j + 1, by omega, by go_num, HB5.out⟩
                  case measure => simp [intOf]; omega
            · have hjn : l.length = j := by omega
              subst hjn
              go_wp2_with fail
              go_loopw [67] (fun s wr => ∃ a : Nat, a ≤ cn ∧ s = .int .i64 a ∧ Below w3.heap.size w3 wr) (fun s _ => cn - (intOf s).toNat)
              case atStart => exact ⟨0, by omega, rfl, HBj.out⟩
              case round =>
                obtain ⟨a, ha, rfl, hB⟩ := hrel
                have HBa := Lib.hid hB
                clear hB HBj p0 p1 p2 p3 p4 p5
                obtain ⟨p0, p1, p2, p3, p4, p5⟩ := HS.out wr (HBk.out wr HBa.out)
                by_cases hla : a < cn
                · go_wp2_with fail
                  go_loopw [73] (fun s wr => ∃ b : Nat, b ≤ cn ∧ s = .int .i64 b ∧ Below w3.heap.size w3 wr) (fun s _ => cn - (intOf s).toNat)
                  case atStart => exact ⟨0, by omega, rfl, HBa.out⟩
                  case round =>
                    obtain ⟨b, hb, rfl, hB⟩ := hrel
                    have HBb := Lib.hid hB
                    clear hB HBa p0 p1 p2 p3 p4 p5
                    obtain ⟨p0, p1, p2, p3, p4, p5⟩ := HS.out wr (HBk.out wr HBb.out)
                    by_cases hlb : b < cn
                    · go_wp2_with fail
                      refine (insideN_any cc (some ⟨bc, oc, none⟩) cn (xs.map (·.ow)) (k : Int) (a : Int) (.slice ma mn mc) (.slice fa fn fc) (.slice ta tn tc) (.slice ya yn yc) (.int .i64 mi) (by simpa using HL.out) hcn wr (HX.out wr (HBk.out wr HBb.out)).ows).mono ?_
                      rintro e w6 ⟨rfl, hB⟩
                      have HB6 := Lib.hid (HBb.out.trans (hB.mono HBb.out.size))
                      clear hB p0 p1 p2 p3 p4 p5
                      obtain ⟨p0, p1, p2, p3, p4, p5⟩ := HS.out w6 (HBk.out w6 HB6.out)
                      by_cases h1 : (a : Int) ∈ chain (xs.map (·.ow)) cn (k : Int)
                      · rw [decide_eq_true h1]
                        have H1 := Lib.hid h1
                        clear h1
                        go_wp2_with fail
                        refine (insideN_any cc (some ⟨bc, oc, none⟩) cn (xs.map (·.ow)) (a : Int) (b : Int) (.slice ma mn mc) (.slice fa fn fc) (.slice ta tn tc) (.slice ya yn yc) (.int .i64 mi) (by simpa using HL.out) hcn w6 (HX.out w6 (HBk.out w6 HB6.out)).ows).mono ?_
                        rintro e w7 ⟨rfl, hB⟩
                        have HB7 := Lib.hid (HB6.out.trans (hB.mono HB6.out.size))
                        clear hB p0 p1 p2 p3 p4 p5
                        obtain ⟨p0, p1, p2, p3, p4, p5⟩ := HS.out w7 (HBk.out w7 HB7.out)
                        by_cases h2 : (b : Int) ∈ chain (xs.map (·.ow)) cn (a : Int)
                        · rw [decide_eq_true h2]
                          have H2 := Lib.hid h2
                          clear h2
                          go_wp2_with fail
                          refine (insideN_any cc (some ⟨bc, oc, none⟩) cn (xs.map (·.ow)) (k : Int) (b : Int) (.slice ma mn mc) (.slice fa fn fc) (.slice ta tn tc) (.slice ya yn yc) (.int .i64 mi) (by simpa using HL.out) hcn w7 (HX.out w7 (HBk.out w7 HB7.out)).ows).mono ?_
                          rintro e w8 ⟨rfl, hB⟩
                          have HB8 := Lib.hid (HB7.out.trans (hB.mono HB7.out.size))
                          clear hB p0 p1 p2 p3 p4 p5
                          rw [decide_eq_true (chain_trans' (by simpa using HL.out) H1.out H2.out)]
                          go_wp2_with fail
                          go_roundw
                          case rel => exact ⟨b + 1, by omega, by go_num, HB8.out⟩
                          case measure => simp [intOf]; omega
                        · rw [decide_eq_false h2]
                          clear h2
                          go_wp2_with fail
                          go_roundw
                          case rel => exact ⟨b + 1, by omega, by go_num, HB7.out⟩
                          case measure => simp [intOf]; omega
                      · rw [decide_eq_false h1]
                        clear h1
                        go_wp2_with fail
                        go_roundw
                        case rel => exact ⟨b + 1, by omega, by go_num, HB6.out⟩
                        case measure => simp [intOf]; omega
                    · have hbn : b = cn := by omega
                      go_wp2_with fail
                      go_roundw
                      case rel => exact ⟨a + 1, by omega, by go_num, HBb.out⟩
                      case measure => simp [intOf]; omega
                · have HBq := HBa
                  have c5 := HC5.out wr HBa.out
                  simp only [List.getElem?_cons_zero, List.getElem?_cons_succ] at c5
                  generalize hxa : x.pr.a = af at c5
                  have HXA := Lib.hid hxa
                  clear hxa
                  obtain ⟨htl, hT⟩ := (HX.out wr (HBk.out wr HBa.out)).pa k x ts HXx.out HTs.out
                  have hxl : x.pr.l = ts.length := hT.1
                  rw [hxl] at c5
                  have HXL := Lib.hid hxl
                  clear hxl hT
                  go_wp2_with fail
                  go_loopw [98] (fun s wr => ∃ q : Nat, q ≤ ts.length ∧ s = .int .i64 q ∧ Below w3.heap.size w3 wr) (fun s _ => ts.length - (intOf s).toNat)
                  case atStart => exact ⟨0, by omega, rfl, HBq.out⟩
                  case round =>
                    obtain ⟨q, hq, rfl, hB⟩ := hrel
                    have HBp := Lib.hid hB
                    clear hB HBa HBq p0 p1 p2 p3 p4 p5 c5
                    by_cases hlq : q < ts.length
                    · obtain ⟨t, ht⟩ : ∃ t, ts[q]? = some t := ⟨_, List.getElem?_eq_getElem hlq⟩
                      obtain ⟨-, -, hT2⟩ := (HX.out wr (HBk.out wr HBp.out)).pa k x ts HXx.out HTs.out
                      obtain ⟨g, o, eA, hTy⟩ := hT2 (by omega)
                      rw [HXA.out] at eA
                      subst eA
                      obtain ⟨u0, u1, u2, u3, u4⟩ := hTy.2 q t ht
                      have HPar := Lib.hid (fun h => HOk.out.par HLp.out HTs.out (List.mem_of_getElem? ht) h)
                      clear hT2 hTy ht
                      obtain ⟨tk, tsy, tnm, nu, aa, an, ac⟩ := t
                      dsimp only at u0 u1 u2 u3 u4 HPar
                      have HB9 := Lib.hid (HBp.out.alloc HBp.out.size (.cells #[.int .i64 tk, .int .i64 tsy, .string tnm, .int .i64 nu, .slice aa an ac] 59))
                      have hTb := Bl.new wr 59 [.int .i64 tk, .int .i64 tsy, .string tnm, .int .i64 nu, .slice aa an ac]
                      have v0 := hTb.cell 0
                      have v1 := hTb.cell 1
                      simp only [List.getElem?_cons_zero, List.getElem?_cons_succ] at v0 v1
                      have HTb := Lib.hid hTb
                      obtain ⟨p0, p1, p2, p3, p4, p5⟩ := HS.out _ (HBk.out _ HB9.out)
                      clear hTb
                      by_cases h10 : tk = 10
                      · have HPa := Lib.hid (HPar.out h10)
                        subst h10
                        go_wp2_with fail
                        refine (children_any (some ⟨bc, oc, none⟩) cn cc xs ps tsy (.slice ma mn mc) (.slice fa fn fc) (.slice ta tn tc) (.slice ya yn yc) (.int .i64 mi) _ HL.out hcn (HX.out _ (HBk.out _ HB9.out))).mono ?_
                        rintro e w10 ⟨v, rfl, hq1, hB⟩
                        have HB10 := Lib.hid (HB9.out.trans (hB.mono HB9.out.size))
                        have HT10 := Lib.hid (HTb.out.below hB HTb.out.lt)
                        obtain ⟨A3, cap3, rfl⟩ := hq1.slice
                        have HN3 := Lib.hid hq1.nums
                        have hl3 : (childF (symL ps) tsy).length ≤ 1048576 := by
                          have h1 := childF_le (symL ps) tsy
                          have h2 := HLp.out
                          simp only [symL, List.length_map] at h1
                          unfold symL
                          omega
                        clear hB hq1 p0 p1 p2 p3 p4 p5 u0 u1 u2 u3 u4 v0 v1
                        go_wp2_with fail
                        refine (contains_any A3 _ cap3 _ (k : Int) _ hl3 HN3.out).mono ?_
                        rintro e w' ⟨rfl, rfl⟩
                        rw [decide_eq_true HPa.out.1]
                        have v1 := HT10.out.cell 1
                        simp only [List.getElem?_cons_zero, List.getElem?_cons_succ] at v1
                        go_wp2_with fail
                        refine (contains_any A1 _ cap1 l tsy _ hlen (HNl.out w10 HB10.out)).mono ?_
                        rintro e w' ⟨rfl, rfl⟩
                        rw [decide_eq_true ((HAn.out.me tsy).2 HPa.out.2)]
                        go_wp2_with fail
                        go_roundw
                        case rel => exact ⟨q + 1, by omega, by go_num, HB10.out⟩
                        case measure => simp [intOf]; omega
                      · have hk10 : (tk == 10) = false := by simpa using h10
                        go_wp2_with fail
                        go_roundw
                        case rel => exact ⟨q + 1, by omega, by go_num, HB9.out⟩
                        case measure => simp [intOf]; omega
                    · have HE := Lib.hid (HBk.out wr HBp.out)
                      go_wp2_with fail
                      go_roundw
                      case rel => exact ⟨k + 1, by omega, by go_num, HE.out⟩
                      case measure => simp [intOf]; omega
        · go_wp2_with fail
          refine (awake_any _).mono ?_
          rintro e w9 ⟨rfl, hB⟩
          have HB9 := Lib.hid (HBw.out w9 (HBr.out.trans (hB.mono hsr)))
          clear hB
          go_wp2_with fail
          go_ret
          exact ⟨rfl, HB9.out⟩
    · have hz1 : (cz == 0) = false := by simpa using hz
      clear HOK
      go_wp2_with fail
      refine (awake_any _).mono ?_
      rintro e w3 ⟨rfl, hB⟩
      have HB3 := Lib.hid (HBw.out w3 (HB2.out.trans (hB.mono hs2)))
      clear hB
      go_wp2_with fail
      go_ret
      exact ⟨rfl, HB3.out⟩
end Go.Proofs.YtkjjieloncdjhaaGreatDoor
