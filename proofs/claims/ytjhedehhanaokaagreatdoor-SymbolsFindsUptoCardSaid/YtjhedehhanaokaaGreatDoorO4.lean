/- SymbolsFinds, where what it reads is of bulk at most 1048576. -/
import Derived.Test.YtjhedehhanaokaaGreatDoorCards
import Derived.Test.YtjhedehhanaokaaGreatDoorTie
import Derived.Test.YtjhedehhanaokaaGreatDoorF15
import Derived.Test.YtjhedehhanaokaaGreatDoorO3
import Derived.ProofKit
import Derived.OpenShut
import Derived.Deep.DeepHandedRow
import Derived.Carry
namespace Go.Proofs.YtjhedehhanaokaaGreatDoor.fnFinds
open Go Go.ChangeMaps Go.ChangeShapes Go.WideShapes Go.ChangeAt Go.RowKit
open Rows (uptoBulk uptoBulkAll)

theorem laidOut : laidOutB Tryz.prog = true := by kernel_rfl
theorem co24 : Tryz.prog.cellsOf 24 = 1 := by kernel_rfl
theorem co25 : Tryz.prog.cellsOf 25 = 1 := by kernel_rfl
theorem co26 : Tryz.prog.cellsOf 26 = 1 := by kernel_rfl
theorem co27 : Tryz.prog.cellsOf 27 = 1 := by kernel_rfl
theorem co28 : Tryz.prog.cellsOf 28 = 1 := by kernel_rfl
theorem co30 : Tryz.prog.cellsOf 30 = 6 := by kernel_rfl
theorem co31 : Tryz.prog.cellsOf 31 = 2 := by kernel_rfl

set_option maxRecDepth 100000 in
theorem pr_open {H : Type} {enc : TypeId × Value → H} {w : World} {base : Nat} {sp : Nat → Bool} {held : Bool} {fuel : Nat} {cs : List Value} {y : DataW H × List MemPlace} (h : DataW.trod enc Tryz.prog w base sp held fuel 30 cs = some y) (hB : uptoBulk y.1 ≤ 1048576) :
    ∃ (ca ma fa ta ya : Option Addr) (cn mn fn tn yn cc mc fc tc yc : Nat) (mi : Int), cs = [.slice ca cn cc, .slice ma mn mc, .slice fa fn fc, .slice ta tn tc, .slice ya yn yc, .int .i64 mi] ∧
      (∀ L, w.heap.size ≤ L → ClRow L w ca cn) ∧ (∀ L, w.heap.size ≤ L → MeRow L w ma mn) ∧ (∀ L, w.heap.size ≤ L → FiRow L w fa fn) ∧ (∀ L, w.heap.size ≤ L → TpRow L w ta tn) ∧ (∀ L, w.heap.size ≤ L → TmRow L w ya yn) := by
  obtain ⟨xs, n, hfuel, hy, hlen, hxl, hf⟩ := DataW.trod_struct Tryz.underlying30 h
  rw [co30] at hlen
  match cs, hlen with
  | [c0, c1, c2, c3, c4, c5], _ =>
    match xs, hxl with
    | [x0, x1, x2, x3, x4, x5], _ =>
      have f0 := hf 0 _ rfl
      have f1 := hf 1 _ rfl
      have f2 := hf 2 _ rfl
      have f3 := hf 3 _ rfl
      have f4 := hf 4 _ rfl
      have f5 := hf 5 _ rfl
      simp [co3, co24, co25, co26, co27, co28] at f0 f1 f2 f3 f4 f5
      have hB' : uptoBulkAll [x0.1, x1.1, x2.1, x3.1, x4.1, x5.1] + 1 ≤ 1048576 := by
        rw [hy] at hB
        simpa [uptoBulk] using hB
      have b : ∀ d ∈ [x0.1, x1.1, x2.1, x3.1, x4.1, x5.1], uptoBulk d ≤ 1048576 := fun d hd => by
        have := bulk_mem hd
        omega
      obtain ⟨ca, cn, cc, rfl, h0⟩ := cl_open f0 (b _ (by simp))
      obtain ⟨ma, mn, mc, rfl, h1⟩ := me_open f1 (b _ (by simp))
      obtain ⟨fa, fn, fc, rfl, h2⟩ := fi_open f2 (b _ (by simp))
      obtain ⟨ta, tn, tc, rfl, h3⟩ := tp_open f3 (b _ (by simp))
      obtain ⟨ya, yn, yc, rfl, h4⟩ := tm_open f4 (b _ (by simp))
      obtain ⟨mi, rfl⟩ := cell_int Tryz.underlying3 f5
      exact ⟨ca, ma, fa, ta, ya, cn, mn, fn, tn, yn, cc, mc, fc, tc, yc, mi, rfl, h0, h1, h2, h3, h4⟩

set_option maxRecDepth 100000 in
theorem contract (H : Type) (enc : TypeId × Value → H) (W : World) (base : Nat) (args : Array Value) (ds gs : List (DataW H)) (before : List MemPlace) (hB : uptoBulkAll ds ≤ 1048576)
    (hval : ∀ (j : Nat) t v, Tryz.f4.params[j]? = some t → args[j]? = some v → Value.okWide Tryz.prog W .any base t v)
    (hW : DataW.Whole enc Tryz.prog Tryz.f4.params.toList Rows.symbolsFindsSpec.vars false W args.toList ds gs before) :
    Calls Tryz.prog 4 args W fun e W' => ∃ v, e = .returned v ∧ Rows.symbolsFindsSpec.post enc Tryz.prog Tryz.f4 false true false false W args v W' := by
  have hW' := hW
  obtain ⟨p, q, hA0, hV, rfl, hfz, hnd⟩ := hW
  have hA : DataW.TrodAll enc Tryz.prog W 0 (fun _ => true) true Tryz.f4.params.toList args.toList ds p := hA0
  have hltp := hA.lt
  rw [Tryz.params4] at hA hval
  obtain ⟨v0, vs0, d0, ds0, p0, q0, hargs, rfl, rfl, h0, r0⟩ := trodAll_cons hA
  obtain ⟨v1, vs1, d1, ds1, p1, q1, rfl, rfl, rfl, h1, r1⟩ := trodAll_cons r0
  obtain ⟨v2, vs2, d2, ds2, p2, q2, rfl, rfl, rfl, h2, r2⟩ := trodAll_cons r1
  obtain ⟨rfl, rfl, rfl⟩ := trodAll_nil r2
  obtain rfl : args = #[v0, v1, v2] := by cases args; simp_all
  obtain ⟨rfl, rfl⟩ := trodVars_none hV
  have k0 := h0
  have k1 := h1
  have k2 := h2
  have o0 := hval 0 30 v0 rfl rfl
  unfold Value.okWide at o0
  rw [Tryz.underlying30] at o0
  obtain ⟨cs, rfl, _, _⟩ := o0
  obtain ⟨fuel, hf0⟩ := h0
  have hb0 : uptoBulk d0 ≤ 1048576 := by
    have := bulk_mem (l := [d0, d1, d2]) (d := d0) (by simp)
    omega
  obtain ⟨ca, ma, fa, ta, ya, cn, mn, fn, tn, yn, cc, mc, fc, tc, yc, mi, hcs, hc, hm, hf, ht, hy⟩ := pr_open hf0 hb0
  obtain rfl : cs = #[.slice ca cn cc, .slice ma mn mc, .slice fa fn fc, .slice ta tn tc, .slice ya yn yc, .int .i64 mi] := by
    cases cs
    simpa [Value.cells] using hcs
  obtain ⟨ow, rfl, _⟩ := open_int Tryz.underlying3 (hval 1 3 v1 rfl rfl) h1
  have o2 := hval 2 31 v2 rfl rfl
  unfold Value.okWide at o2
  rw [Tryz.underlying31] at o2
  obtain ⟨c2, rfl, _, _⟩ := o2
  obtain ⟨fuel2, hf2⟩ := h2
  obtain ⟨xs, m, _, _, hl2, hxl2, hel2⟩ := DataW.trod_array Tryz.underlying31 hf2
  rw [co31] at hl2
  obtain ⟨l2, rfl⟩ : ∃ l, c2 = (⟨l⟩ : Array Value) := ⟨c2.toList, rfl⟩
  simp only [Value.cells] at hl2 hel2
  match l2, hl2 with
  | [e0, e1], _ =>
    match xs, hxl2 with
    | [x0, x1], _ =>
      have g0 := hel2 0 (by omega)
      have g1 := hel2 1 (by omega)
      simp [co3] at g0 g1
      obtain ⟨a0, rfl⟩ := cell_int Tryz.underlying3 g0
      obtain ⟨b0, rfl⟩ := cell_int Tryz.underlying3 g1
      simp only [List.append_nil] at hW'
      refine (finds_any ow a0 b0 ca ma fa ta ya cn mn fn tn yn cc mc fc tc yc mi W hc hm hf ht hy).mono fun e W' ⟨he, hb⟩ => ?_
      subst he
      have lt0 : ∀ x ∈ p0, x.block < W.heap.size := fun x hx => hltp x (by simp [hx])
      have lt1 : ∀ x ∈ p1, x.block < W.heap.size := fun x hx => hltp x (by simp [hx])
      have lt2 : ∀ x ∈ p2, x.block < W.heap.size := fun x hx => hltp x (by simp [hx])
      have t0 := Below.trod laidOut (by kernel_rfl) (of_decide_eq_true (by kernel_rfl)) k0 hb lt0
      have t1 := Below.trod laidOut (by kernel_rfl) (of_decide_eq_true (by kernel_rfl)) k1 hb lt1
      have t2 := Below.trod laidOut (by kernel_rfl) (of_decide_eq_true (by kernel_rfl)) k2 hb lt2
      have tA : DataW.TrodAll enc Tryz.prog W' 0 (fun b => decide (b < W.heap.size)) true [30, 3, 31] [_, _, _] [d0, d1, d2] (p0 ++ (p1 ++ (p2 ++ []))) := ⟨p0, _, t0, ⟨p1, _, t1, ⟨p2, _, t2, rfl, rfl⟩, rfl⟩, rfl⟩
      exact ⟨_, rfl, [d0, d1, d2], [], _, [], _, [], hW', trodAll_cons_mk (shut_bool Tryz.underlying4 _) trodAll_mk0, tA, rfl, hb.frame _, fun h => by cases h⟩
end Go.Proofs.YtjhedehhanaokaaGreatDoor.fnFinds
