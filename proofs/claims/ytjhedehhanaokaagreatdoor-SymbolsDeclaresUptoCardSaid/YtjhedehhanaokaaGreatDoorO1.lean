/- A list of types that is read: where its cells lie. -/
import Derived.Test.YtjhedehhanaokaaGreatDoorF11
import Derived.ChangeArms
import Derived.DataReads
import Derived.ChangeOld
namespace Go.Proofs.YtjhedehhanaokaaGreatDoor
open Go Go.RowKit

section
variable {H : Type} {enc : TypeId × Value → H} {P : Program} {w : World} {base : Nat} {sp : Nat → Bool} {held : Bool} {t : TypeId} {v : Value} {cs : List Value} {x : DataW H × List MemPlace} {fuel : Nat}
theorem cell_int (ht : P.underlying t = some (.int .i64)) (h : DataW.trod enc P w base sp held fuel t [v] = some x) : ∃ n : Int, v = .int .i64 n := by
  cases fuel with
  | zero => simp [DataW.trod] at h
  | succ n =>
    unfold DataW.trod at h
    rw [ht] at h
    split at h <;> simp_all
theorem cell_str (ht : P.underlying t = some .string) (h : DataW.trod enc P w base sp held fuel t [v] = some x) : ∃ s : ByteArray, v = .string s ∧ s.size ≤ 9223372036854775807 := by
  cases fuel with
  | zero => simp [DataW.trod] at h
  | succ n =>
    unfold DataW.trod at h
    rw [ht] at h
    split at h <;> simp_all
    obtain ⟨h1, _⟩ := h
    simpa [maxLen] using h1
end

theorem cellsOf59 : Tryz.prog.cellsOf 59 = 5 := by kernel_rfl

theorem add_none {a : Addr} {w : World} {v : Value} (h : w.cell? a = some v) : a = ⟨a.block, a.off, none⟩ := by
  obtain ⟨b, o, sp⟩ := a
  cases sp with
  | none => rfl
  | some k =>
    exfalso
    unfold World.cell? at h
    split at h <;> simp_all

theorem add_at (b o n : Nat) : (⟨b, o, none⟩ : Addr).add n = ⟨b, o + n, none⟩ := by unfold Addr.add; split <;> simp_all

set_option maxRecDepth 100000 in
/-- One type that is read. -/
theorem ty_cells {H : Type} {enc : TypeId × Value → H} {w : World} {base : Nat} {sp : Nat → Bool} {held : Bool} {fuel : Nat} {cs : List Value} {y : DataW H × List MemPlace} (h : DataW.trod enc Tryz.prog w base sp held fuel 59 cs = some y) :
    ∃ (kd sy nu : Int) (nm : ByteArray) (v : Value) (n : Nat) (z : DataW H × List MemPlace), fuel = n + 1 ∧ cs = [.int .i64 kd, .int .i64 sy, .string nm, .int .i64 nu, v] ∧ nm.size ≤ 9223372036854775807 ∧ DataW.trod enc Tryz.prog w base sp held n 34 [v] = some z := by
  obtain ⟨xs, n, hfuel, _, hlen, hxl, hf⟩ := DataW.trod_struct Tryz.underlying59 h
  rw [cellsOf59] at hlen
  match cs, hlen with
  | [c0, c1, c2, c3, c4], _ =>
    have c1o : Tryz.prog.cellsOf 3 = 1 := by kernel_rfl
    have c9o : Tryz.prog.cellsOf 9 = 1 := by kernel_rfl
    have c34o : Tryz.prog.cellsOf 34 = 1 := by kernel_rfl
    match xs, hxl with
    | [x0, x1, x2, x3, x4], _ =>
      have f0 := hf 0 _ rfl
      have f1 := hf 1 _ rfl
      have f2 := hf 2 _ rfl
      have f3 := hf 3 _ rfl
      have f4 := hf 4 _ rfl
      simp [c1o, c9o, c34o] at f0 f1 f2 f3 f4
      obtain ⟨k0, rfl⟩ := cell_int Tryz.underlying3 f0
      obtain ⟨k1, rfl⟩ := cell_int Tryz.underlying3 f1
      obtain ⟨k2, rfl, hs⟩ := cell_str Tryz.underlying9 f2
      obtain ⟨k3, rfl⟩ := cell_int Tryz.underlying3 f3
      exact ⟨k0, k1, k3, k2, c4, n, _, hfuel, rfl, hs, f4⟩

set_option maxRecDepth 100000 in
/-- A list of types that is read lies there, to every depth. -/
theorem ty_open {H : Type} {enc : TypeId × Value → H} {w : World} {base : Nat} {sp : Nat → Bool} {held : Bool} : ∀ (fuel : Nat) (v : Value) (x : DataW H × List MemPlace), DataW.trod enc Tryz.prog w base sp held fuel 34 [v] = some x →
    ∃ a n c, v = .slice a n c ∧ n ≤ 9223372036854775807 ∧ (a = none → n = 0 ∧ c = 0) ∧ ∀ d L, w.heap.size ≤ L → TyRow d L w a n := by
  intro fuel
  induction fuel using Nat.strongRecOn with
  | ind fuel ih =>
  intro v x h
  rcases DataW.trod_slice Tryz.underlying34 h with ⟨h0, _⟩ | ⟨a, len, cap, elems, rest, n, hfuel, hv, _, _, hlc, hcm, hlen, hel, _, _⟩
  · injection h0 with h0
    subst h0
    exact ⟨none, 0, 0, rfl, by omega, fun _ => ⟨rfl, rfl⟩, fun d L _ => by
      cases d with
      | zero => trivial
      | succ d => exact ⟨by omega, fun i hi => absurd hi (by omega)⟩⟩
  · injection hv with hv
    subst hv
    have hmx : len ≤ 9223372036854775807 := by unfold maxLen at hcm; omega
    refine ⟨some a, len, cap, rfl, hmx, (fun e => by cases e), fun d L hL => ?_⟩
    cases d with
    | zero => trivial
    | succ d =>
      refine ⟨hmx, fun i hi => ?_⟩
      have hi' := hel i hi
      rw [cellsOf59, List.getElem?_eq_getElem (by omega)] at hi'
      obtain ⟨cs', hc, ht⟩ := Option.bind_eq_some_iff.1 hi'
      obtain ⟨kd, sy, nu, nm, v', m, z, hm, rfl, hs, h34⟩ := ty_cells ht
      obtain ⟨a', n', c', rfl, _, _, hrow⟩ := ih m (by omega) v' z h34
      obtain ⟨_, _, hcell⟩ := World.cells?_some hc
      have e0 := hcell 0 (by omega)
      have e1 := hcell 1 (by omega)
      have e2 := hcell 2 (by omega)
      have e3 := hcell 3 (by omega)
      have e4 := hcell 4 (by omega)
      have hlt : (a.add (i * 5)).block < w.heap.size := World.cells?_block hc (by omega)
      obtain ⟨b, o, s0⟩ := a
      have hsn : s0 = none := by
        have h0' := hel 0 (by omega)
        rw [cellsOf59, List.getElem?_eq_getElem (by omega)] at h0'
        obtain ⟨cs0, hc0, _⟩ := Option.bind_eq_some_iff.1 h0'
        obtain ⟨_, hl0, hcell0⟩ := World.cells?_some hc0
        have q := hcell0 0 (by omega)
        rw [List.getElem?_eq_getElem (by omega)] at q
        have e : ((⟨b, o, s0⟩ : Addr).add (0 * 5)).add 0 = ⟨b, o, s0⟩ := rfl
        rw [e] at q
        have := add_none q
        injection this
      subst hsn
      have hadd : ∀ j, ((⟨b, o, none⟩ : Addr).add (i * 5)).add j = ⟨b, o + i * 5 + j, none⟩ := fun j => by rw [add_at, add_at]
      rw [hadd] at e0 e1 e2 e3 e4
      have hb : b < w.heap.size := by
        have : ((⟨b, o, none⟩ : Addr).add (i * 5)).block = b := by rw [add_at]
        omega
      exact ⟨b, o, kd, sy, nu, nm, a', n', c', ⟨rfl, by omega, hb, e0, e1, e2, e3, e4⟩, hs, hrow d L hL⟩
end Go.Proofs.YtjhedehhanaokaaGreatDoor
