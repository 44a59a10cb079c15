/- A whole program that is read: where its lists lie. -/
import Derived.Test.YtjhedehhanaokaaGreatDoorCards
import Derived.Test.YtjhedehhanaokaaGreatDoorTie
import Derived.Test.YtjhedehhanaokaaGreatDoorO3
import Derived.ProofKit
import Derived.OpenShut
import Derived.Deep.DeepHandedRow
import Derived.Carry
namespace Go.Proofs.YtjhedehhanaokaaGreatDoor.prg6
open Go Go.ChangeMaps Go.ChangeShapes Go.WideShapes Go.ChangeAt Go.RowKit
open Rows (uptoBulk uptoBulkAll)

theorem laidOut : laidOutB Tryz.prog = true := by kernel_rfl
theorem co24 : Tryz.prog.cellsOf 24 = 1 := by kernel_rfl
theorem co25 : Tryz.prog.cellsOf 25 = 1 := by kernel_rfl
theorem co26 : Tryz.prog.cellsOf 26 = 1 := by kernel_rfl
theorem co27 : Tryz.prog.cellsOf 27 = 1 := by kernel_rfl
theorem co28 : Tryz.prog.cellsOf 28 = 1 := by kernel_rfl
theorem co30 : Tryz.prog.cellsOf 30 = 6 := by kernel_rfl
theorem co31 : Tryz.prog.cellsOf 31 = 2 := by kernel_rfl

set_option maxRecDepth 100000 in
theorem pr_open {H : Type} {enc : TypeId × Value → H} {w : World} {base : Nat} {sp : Nat → Bool} {held : Bool} {fuel : Nat} {cs : List Value} {y : DataW H × List MemPlace} (h : DataW.trod enc Tryz.prog w base sp held fuel 30 cs = some y) (hB : uptoBulk y.1 ≤ 1048576) :
    ∃ (ca ma fa ta ya : Option Addr) (cn mn fn tn yn cc mc fc tc yc : Nat) (mi : Int), cs = [.slice ca cn cc, .slice ma mn mc, .slice fa fn fc, .slice ta tn tc, .slice ya yn yc, .int .i64 mi] ∧
      (∀ L, w.heap.size ≤ L → ClRow L w ca cn) ∧ (∀ L, w.heap.size ≤ L → MeRow L w ma mn) ∧ (∀ L, w.heap.size ≤ L → FiRow L w fa fn) ∧ (∀ L, w.heap.size ≤ L → TpRow L w ta tn) ∧ (∀ L, w.heap.size ≤ L → TmRow L w ya yn) := by
  obtain ⟨xs, n, hfuel, hy, hlen, hxl, hf⟩ := DataW.trod_struct Tryz.underlying30 h
  rw [co30] at hlen
  match cs, hlen with
  | [c0, c1, c2, c3, c4, c5], _ =>
    match xs, hxl with
    | [x0, x1, x2, x3, x4, x5], _ =>
      have f0 := hf 0 _ rfl
      have f1 := hf 1 _ rfl
      have f2 := hf 2 _ rfl
      have f3 := hf 3 _ rfl
      have f4 := hf 4 _ rfl
      have f5 := hf 5 _ rfl
      simp [co3, co24, co25, co26, co27, co28] at f0 f1 f2 f3 f4 f5
      have hB' : uptoBulkAll [x0.1, x1.1, x2.1, x3.1, x4.1, x5.1] + 1 ≤ 1048576 := by
        rw [hy] at hB
        simpa [uptoBulk] using hB
      have b : ∀ d ∈ [x0.1, x1.1, x2.1, x3.1, x4.1, x5.1], uptoBulk d ≤ 1048576 := fun d hd => by
        have := bulk_mem hd
        omega
      obtain ⟨ca, cn, cc, rfl, h0⟩ := cl_open f0 (b _ (by simp))
      obtain ⟨ma, mn, mc, rfl, h1⟩ := me_open f1 (b _ (by simp))
      obtain ⟨fa, fn, fc, rfl, h2⟩ := fi_open f2 (b _ (by simp))
      obtain ⟨ta, tn, tc, rfl, h3⟩ := tp_open f3 (b _ (by simp))
      obtain ⟨ya, yn, yc, rfl, h4⟩ := tm_open f4 (b _ (by simp))
      obtain ⟨mi, rfl⟩ := cell_int Tryz.underlying3 f5
      exact ⟨ca, ma, fa, ta, ya, cn, mn, fn, tn, yn, cc, mc, fc, tc, yc, mi, rfl, h0, h1, h2, h3, h4⟩

end Go.Proofs.YtjhedehhanaokaaGreatDoor.prg6
