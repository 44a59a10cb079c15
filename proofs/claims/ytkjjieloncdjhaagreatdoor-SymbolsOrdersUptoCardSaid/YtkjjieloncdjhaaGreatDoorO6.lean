/- A list of types that is read: where its cells lie. -/
import Derived.Test.YtkjjieloncdjhaaGreatDoorF11
import Derived.ChangeArms
import Derived.DataReads
import Derived.ChangeOld
import Derived.Test.YtkjjieloncdjhaaGreatDoorRows
import Derived.Test.YtkjjieloncdjhaaGreatDoorCards
import Derived.Test.YtkjjieloncdjhaaGreatDoorTie
import Derived.ProofKit
import Derived.OpenShut
import Derived.Deep.DeepHandedRow
import Derived.Carry
namespace Go.Proofs.YtkjjieloncdjhaaGreatDoor
open Go Go.RowKit

section
variable {H : Type} {enc : TypeId × Value → H} {P : Program} {w : World} {base : Nat} {sp : Nat → Bool} {held : Bool} {t : TypeId} {v : Value} {cs : List Value} {x : DataW H × List MemPlace} {fuel : Nat}
theorem cell_int (ht : P.underlying t = some (.int .i64)) (h : DataW.trod enc P w base sp held fuel t [v] = some x) : ∃ n : Int, v = .int .i64 n := by
  cases fuel with
  | zero => simp [DataW.trod] at h
  | succ n =>
    unfold DataW.trod at h
    rw [ht] at h
    split at h <;> simp_all
theorem cell_str (ht : P.underlying t = some .string) (h : DataW.trod enc P w base sp held fuel t [v] = some x) : ∃ s : ByteArray, v = .string s ∧ s.size ≤ 9223372036854775807 := by
  cases fuel with
  | zero => simp [DataW.trod] at h
  | succ n =>
    unfold DataW.trod at h
    rw [ht] at h
    split at h <;> simp_all
    obtain ⟨h1, _⟩ := h
    simpa [maxLen] using h1
end

theorem cellsOf59 : Tryz.prog.cellsOf 59 = 5 := by kernel_rfl

theorem add_none {a : Addr} {w : World} {v : Value} (h : w.cell? a = some v) : a = ⟨a.block, a.off, none⟩ := by
  obtain ⟨b, o, sp⟩ := a
  cases sp with
  | none => rfl
  | some k =>
    exfalso
    unfold World.cell? at h
    split at h <;> simp_all

theorem add_at (b o n : Nat) : (⟨b, o, none⟩ : Addr).add n = ⟨b, o + n, none⟩ := by unfold Addr.add; split <;> simp_all

set_option maxRecDepth 100000 in
/-- One type that is read. -/
theorem ty_cells {H : Type} {enc : TypeId × Value → H} {w : World} {base : Nat} {sp : Nat → Bool} {held : Bool} {fuel : Nat} {cs : List Value} {y : DataW H × List MemPlace} (h : DataW.trod enc Tryz.prog w base sp held fuel 59 cs = some y) :
    ∃ (kd sy nu : Int) (nm : ByteArray) (v : Value) (n : Nat) (z : DataW H × List MemPlace), fuel = n + 1 ∧ cs = [.int .i64 kd, .int .i64 sy, .string nm, .int .i64 nu, v] ∧ nm.size ≤ 9223372036854775807 ∧ DataW.trod enc Tryz.prog w base sp held n 34 [v] = some z := by
  obtain ⟨xs, n, hfuel, _, hlen, hxl, hf⟩ := DataW.trod_struct Tryz.underlying59 h
  rw [cellsOf59] at hlen
  match cs, hlen with
  | [c0, c1, c2, c3, c4], _ =>
    have c1o : Tryz.prog.cellsOf 3 = 1 := by kernel_rfl
    have c9o : Tryz.prog.cellsOf 9 = 1 := by kernel_rfl
    have c34o : Tryz.prog.cellsOf 34 = 1 := by kernel_rfl
    match xs, hxl with
    | [x0, x1, x2, x3, x4], _ =>
      have f0 := hf 0 _ rfl
      have f1 := hf 1 _ rfl
      have f2 := hf 2 _ rfl
      have f3 := hf 3 _ rfl
      have f4 := hf 4 _ rfl
      simp [c1o, c9o, c34o] at f0 f1 f2 f3 f4
      obtain ⟨k0, rfl⟩ := cell_int Tryz.underlying3 f0
      obtain ⟨k1, rfl⟩ := cell_int Tryz.underlying3 f1
      obtain ⟨k2, rfl, hs⟩ := cell_str Tryz.underlying9 f2
      obtain ⟨k3, rfl⟩ := cell_int Tryz.underlying3 f3
      exact ⟨k0, k1, k3, k2, c4, n, _, hfuel, rfl, hs, f4⟩

set_option maxRecDepth 100000 in
/-- A list of types that is read lies there, to every depth. -/
theorem ty_open {H : Type} {enc : TypeId × Value → H} {w : World} {base : Nat} {sp : Nat → Bool} {held : Bool} : ∀ (fuel : Nat) (v : Value) (x : DataW H × List MemPlace), DataW.trod enc Tryz.prog w base sp held fuel 34 [v] = some x →
    ∃ a n c, v = .slice a n c ∧ n ≤ 9223372036854775807 ∧ (a = none → n = 0 ∧ c = 0) ∧ ∀ d L, w.heap.size ≤ L → TyRow d L w a n := by
  intro fuel
  induction fuel using Nat.strongRecOn with
  | ind fuel ih =>
  intro v x h
  rcases DataW.trod_slice Tryz.underlying34 h with ⟨h0, _⟩ | ⟨a, len, cap, elems, rest, n, hfuel, hv, _, _, hlc, hcm, hlen, hel, _, _⟩
  · injection h0 with h0
    subst h0
    exact ⟨none, 0, 0, rfl, by omega, fun _ => ⟨rfl, rfl⟩, fun d L _ => by
      cases d with
      | zero => trivial
      | succ d => exact ⟨by omega, fun i hi => absurd hi (by omega)⟩⟩
  · injection hv with hv
    subst hv
    have hmx : len ≤ 9223372036854775807 := by unfold maxLen at hcm; omega
    refine ⟨some a, len, cap, rfl, hmx, (fun e => by cases e), fun d L hL => ?_⟩
    cases d with
    | zero => trivial
    | succ d =>
      refine ⟨hmx, fun i hi => ?_⟩
      have hi' := hel i hi
      rw [cellsOf59, List.getElem?_eq_getElem (by omega)] at hi'
      obtain ⟨cs', hc, ht⟩ := Option.bind_eq_some_iff.1 hi'
      obtain ⟨kd, sy, nu, nm, v', m, z, hm, rfl, hs, h34⟩ := ty_cells ht
      obtain ⟨a', n', c', rfl, _, _, hrow⟩ := ih m (by omega) v' z h34
      obtain ⟨_, _, hcell⟩ := World.cells?_some hc
      have e0 := hcell 0 (by omega)
      have e1 := hcell 1 (by omega)
      have e2 := hcell 2 (by omega)
      have e3 := hcell 3 (by omega)
      have e4 := hcell 4 (by omega)
      have hlt : (a.add (i * 5)).block < w.heap.size := World.cells?_block hc (by omega)
      obtain ⟨b, o, s0⟩ := a
      have hsn : s0 = none := by
        have h0' := hel 0 (by omega)
        rw [cellsOf59, List.getElem?_eq_getElem (by omega)] at h0'
        obtain ⟨cs0, hc0, _⟩ := Option.bind_eq_some_iff.1 h0'
        obtain ⟨_, hl0, hcell0⟩ := World.cells?_some hc0
        have q := hcell0 0 (by omega)
        rw [List.getElem?_eq_getElem (by omega)] at q
        have e : ((⟨b, o, s0⟩ : Addr).add (0 * 5)).add 0 = ⟨b, o, s0⟩ := rfl
        rw [e] at q
        have := add_none q
        injection this
      subst hsn
      have hadd : ∀ j, ((⟨b, o, none⟩ : Addr).add (i * 5)).add j = ⟨b, o + i * 5 + j, none⟩ := fun j => by rw [add_at, add_at]
      rw [hadd] at e0 e1 e2 e3 e4
      have hb : b < w.heap.size := by
        have : ((⟨b, o, none⟩ : Addr).add (i * 5)).block = b := by rw [add_at]
        omega
      exact ⟨b, o, kd, sy, nu, nm, a', n', c', ⟨rfl, by omega, hb, e0, e1, e2, e3, e4⟩, hs, hrow d L hL⟩
end Go.Proofs.YtkjjieloncdjhaaGreatDoor
namespace Go.Proofs.YtkjjieloncdjhaaGreatDoor
open Go Go.RowKit
open Rows (uptoBulk uptoBulkAll)

theorem bulk_pos {H : Type} (d : DataW H) : 1 ≤ uptoBulk d := by
  cases d with
  | lit l => cases l <;> simp [uptoBulk]
  | _ => simp [uptoBulk]
theorem bulk_mem {H : Type} {l : List (DataW H)} {d : DataW H} (h : d ∈ l) : uptoBulk d ≤ uptoBulkAll l := by
  induction l with
  | nil => cases h
  | cons e r ih =>
    rcases List.mem_cons.1 h with rfl | h
    · simp [uptoBulkAll]
    · have := ih h
      simp only [uptoBulkAll]
      omega
theorem bulk_len {H : Type} (l : List (DataW H)) : l.length ≤ uptoBulkAll l := by
  induction l with
  | nil => simp
  | cons e r ih =>
    have := bulk_pos e
    simp only [uptoBulkAll, List.length_cons]
    omega

section
variable {H : Type} {enc : TypeId × Value → H} {w : World} {base : Nat} {sp : Nat → Bool} {held : Bool}

/-- A slice that is read. -/
theorem sl_open {t e : TypeId} {k fuel : Nat} {v : Value} {x : DataW H × List MemPlace} (ht : Tryz.prog.underlying t = some (.slice e)) (hk : Tryz.prog.cellsOf e = k) (hk0 : 0 < k) (h : DataW.trod enc Tryz.prog w base sp held fuel t [v] = some x) :
    ∃ a n c, v = .slice a n c ∧ n ≤ 9223372036854775807 ∧ n ≤ uptoBulk x.1 ∧ (a = none → n = 0 ∧ c = 0) ∧
      ∀ i, i < n → ∃ (b o m : Nat) (cs : List Value) (y : DataW H × List MemPlace), fuel = m + 1 ∧ a = some ⟨b, o, none⟩ ∧ b < w.heap.size ∧ DataW.trod enc Tryz.prog w base sp held m e cs = some y ∧ uptoBulk y.1 ≤ uptoBulk x.1 ∧
        ∀ j v, cs[j]? = some v → w.cell? ⟨b, o + i * k + j, none⟩ = some v := by
  subst hk
  rcases DataW.trod_slice ht h with ⟨h0, _⟩ | ⟨a, len, cap, elems, rest, n, hfuel, hv, hx, _, hlc, hcm, hlen, hel, _, _⟩
  · injection h0 with h0
    exact ⟨none, 0, 0, h0, by omega, by omega, fun _ => ⟨rfl, rfl⟩, fun i hi => absurd hi (by omega)⟩
  · injection hv with hv
    have hmx : len ≤ 9223372036854775807 := by unfold maxLen at hcm; omega
    have hbl : len ≤ uptoBulk x.1 := by
      have := bulk_len (elems.map (·.1))
      rw [List.length_map, hlen] at this
      rw [hx]
      simp only [uptoBulk]
      omega
    refine ⟨some a, len, cap, hv, hmx, hbl, (fun e => by cases e), fun i hi => ?_⟩
    have hi' := hel i hi
    rw [List.getElem?_eq_getElem (by omega)] at hi'
    obtain ⟨cs', hc, ht'⟩ := Option.bind_eq_some_iff.1 hi'
    obtain ⟨_, hl', hcell⟩ := World.cells?_some hc
    have hlt : (a.add (i * Tryz.prog.cellsOf e)).block < w.heap.size := World.cells?_block hc hk0
    have hbe : uptoBulk (elems[i]'(by omega)).1 ≤ uptoBulk x.1 := by
      have := bulk_mem (l := elems.map (·.1)) (List.mem_map.2 ⟨elems[i]'(by omega), List.getElem_mem _, rfl⟩)
      rw [hx]
      simp only [uptoBulk]
      omega
    obtain ⟨b, o, s0⟩ := a
    have hsn : s0 = none := by
      have h0' := hel 0 (by omega)
      rw [List.getElem?_eq_getElem (by omega)] at h0'
      obtain ⟨cs0, hc0, _⟩ := Option.bind_eq_some_iff.1 h0'
      obtain ⟨_, hl0, hcell0⟩ := World.cells?_some hc0
      have q := hcell0 0 hk0
      rw [List.getElem?_eq_getElem (by omega), Nat.zero_mul] at q
      have e : ((⟨b, o, s0⟩ : Addr).add 0).add 0 = ⟨b, o, s0⟩ := rfl
      rw [e] at q
      have := add_none q
      injection this
    subst hsn
    rw [add_at] at hlt
    refine ⟨b, o, n, cs', _, hfuel, rfl, hlt, ht', hbe, fun j v hj => ?_⟩
    have hjl : j < Tryz.prog.cellsOf e := by
      have := (List.getElem?_eq_some_iff.1 hj).1
      omega
    have := hcell j hjl
    rw [add_at, add_at] at this
    exact this.trans hj

/-- Its capacity. -/
theorem sl_cap {t e : TypeId} {fuel n c : Nat} {a : Option Addr} {x : DataW H × List MemPlace} (ht : Tryz.prog.underlying t = some (.slice e)) (h : DataW.trod enc Tryz.prog w base sp held fuel t [.slice a n c] = some x) : n ≤ c := by
  rcases DataW.trod_slice ht h with ⟨h0, _⟩ | ⟨a', len, cap, elems, rest, m, _, hv, _, _, hlc, _, _, _, _, _⟩
  · injection h0 with h0
    injection h0 with _ h1 h2
    omega
  · injection hv with hv
    injection hv with _ h1 h2
    omega

theorem cellsOf72 : Tryz.prog.cellsOf 72 = 12 := by kernel_rfl

set_option maxRecDepth 100000 in
/-- One tree that is read. -/
theorem tr_cells {fuel : Nat} {cs : List Value} {y : DataW H × List MemPlace} (h : DataW.trod enc Tryz.prog w base sp held fuel 72 cs = some y) (hB : uptoBulk y.1 ≤ 1048576) :
    ∃ (X : TrC) (n : Nat) (z : DataW H × List MemPlace), fuel = n + 1 ∧ cs = X.cells ∧ (∀ L, w.heap.size ≤ L → TrOk 69 L w X) ∧ DataW.trod enc Tryz.prog w base sp held n 35 [.slice X.ka X.kl X.kc] = some z ∧ uptoBulk z.1 ≤ 1048576 := by
  obtain ⟨xs, n, hfuel, hy, hlen, hxl, hf⟩ := DataW.trod_struct Tryz.underlying72 h
  rw [cellsOf72] at hlen
  match cs, hlen with
  | [c0, c1, c2, c3, c4, c5, c6, c7, c8, c9, c10, c11], _ =>
    have c1o : Tryz.prog.cellsOf 3 = 1 := by kernel_rfl
    have c2o : Tryz.prog.cellsOf 2 = 1 := by kernel_rfl
    have c9o : Tryz.prog.cellsOf 9 = 1 := by kernel_rfl
    have c34o : Tryz.prog.cellsOf 34 = 1 := by kernel_rfl
    have c35o : Tryz.prog.cellsOf 35 = 1 := by kernel_rfl
    match xs, hxl with
    | [x0, x1, x2, x3, x4, x5, x6, x7], _ =>
      have f0 := hf 0 _ rfl
      have f1 := hf 1 _ rfl
      have f2 := hf 2 _ rfl
      have f3 := hf 3 _ rfl
      have f4 := hf 4 _ rfl
      have f5 := hf 5 _ rfl
      have f6 := hf 6 _ rfl
      have f7 := hf 7 _ rfl
      simp [c1o, c2o, c9o, c34o, c35o, cellsOf59] at f0 f1 f2 f3 f4 f5 f6 f7
      have hB' : uptoBulkAll [x0.1, x1.1, x2.1, x3.1, x4.1, x5.1, x6.1, x7.1] + 1 ≤ 1048576 := by
        rw [hy] at hB
        simpa [uptoBulk] using hB
      have b5 : uptoBulk x5.1 ≤ 1048576 := by
        have := bulk_mem (l := [x0.1, x1.1, x2.1, x3.1, x4.1, x5.1, x6.1, x7.1]) (d := x5.1) (by simp)
        omega
      have b6 : uptoBulk x6.1 ≤ 1048576 := by
        have := bulk_mem (l := [x0.1, x1.1, x2.1, x3.1, x4.1, x5.1, x6.1, x7.1]) (d := x6.1) (by simp)
        omega
      obtain ⟨k0, rfl⟩ := cell_int Tryz.underlying3 f0
      obtain ⟨k1, rfl⟩ := cell_int Tryz.underlying3 f1
      obtain ⟨k2, rfl⟩ := cell_int Tryz.underlying2 f2
      obtain ⟨k3, rfl, hs⟩ := cell_str Tryz.underlying9 f3
      obtain ⟨t0, t1, t3, t2, vt, m, zt, _, ht, hts, hta⟩ := ty_cells f4
      obtain ⟨ta, tl, tc, rfl, _, _, hta'⟩ := ty_open _ _ _ hta
      obtain ⟨la, ll, lc, rfl, _, hnil, hla⟩ := ty_open _ _ _ f5
      obtain ⟨la2, ll2, lc2, e2, _, hll, _, _⟩ := sl_open Tryz.underlying34 cellsOf59 (by omega) f5
      injection e2 with e2a e2b e2c
      obtain ⟨ka, kl, kc, rfl, _, _, _, _⟩ := sl_open Tryz.underlying35 cellsOf72 (by omega) f6
      obtain ⟨k7, rfl⟩ := cell_int Tryz.underlying3 f7
      injection ht with h4 ht
      injection ht with h5 ht
      injection ht with h6 ht
      injection ht with h7 ht
      injection ht with h8 ht
      subst h4 h5 h6 h7 h8
      exact ⟨⟨k0, k1, k2, k3, t0, t1, t2, t3, ta, tl, tc, la, ll, lc, ka, kl, kc, k7⟩, n, x6, hfuel, rfl, fun L hL => ⟨hs, hts, hta' 69 L hL, hla (69 + 1) L hL, by show ll ≤ 1048576; omega, fun e => (hnil e).2⟩, f6, b6⟩

set_option maxRecDepth 100000 in
/-- A list of trees that is read lies there, to every depth. -/
theorem tr_open : ∀ (fuel : Nat) (v : Value) (x : DataW H × List MemPlace), DataW.trod enc Tryz.prog w base sp held fuel 35 [v] = some x → uptoBulk x.1 ≤ 1048576 →
    ∃ a n c, v = .slice a n c ∧ n ≤ 9223372036854775807 ∧ ∀ d L, w.heap.size ≤ L → TrRow 69 d L w a n := by
  intro fuel
  induction fuel using Nat.strongRecOn with
  | ind fuel ih =>
  intro v x h hB
  obtain ⟨a, n, c, hv, hn, _, _, hel⟩ := sl_open Tryz.underlying35 cellsOf72 (by omega) h
  refine ⟨a, n, c, hv, hn, fun d L hL => ?_⟩
  cases d with
  | zero => trivial
  | succ d =>
    refine ⟨hn, fun i hi => ?_⟩
    obtain ⟨b, o, m, cs, y, hm, ha, hb, ht, hby, hcell⟩ := hel i hi
    obtain ⟨X, m2, z, hm2, rfl, hok, hk, hbz⟩ := tr_cells ht (by omega)
    obtain ⟨ka, kl, kc, e, _, hrow⟩ := ih m2 (by omega) _ z hk hbz
    injection e with e1 e2 e3
    refine ⟨b, o, X, ⟨ha, by omega, hb, hcell 0 _ rfl, hcell 1 _ rfl, hcell 2 _ rfl, hcell 3 _ rfl, hcell 4 _ rfl, hcell 5 _ rfl, hcell 6 _ rfl, hcell 7 _ rfl, hcell 8 _ rfl, hcell 9 _ rfl, hcell 10 _ rfl, hcell 11 _ rfl⟩, hok L hL, ?_⟩
    rw [e1, e2]
    exact hrow d L hL
end
end Go.Proofs.YtkjjieloncdjhaaGreatDoor
namespace Go.Proofs.YtkjjieloncdjhaaGreatDoor
open Go Go.RowKit
open Rows (uptoBulk uptoBulkAll)

theorem co2 : Tryz.prog.cellsOf 2 = 1 := by kernel_rfl
theorem co3 : Tryz.prog.cellsOf 3 = 1 := by kernel_rfl
theorem co9 : Tryz.prog.cellsOf 9 = 1 := by kernel_rfl
theorem co33 : Tryz.prog.cellsOf 33 = 1 := by kernel_rfl
theorem co34 : Tryz.prog.cellsOf 34 = 1 := by kernel_rfl
theorem co35 : Tryz.prog.cellsOf 35 = 1 := by kernel_rfl
theorem co61 : Tryz.prog.cellsOf 61 = 1 := by kernel_rfl
theorem co62 : Tryz.prog.cellsOf 62 = 1 := by kernel_rfl
theorem cellsOf129 : Tryz.prog.cellsOf 129 = 7 := by kernel_rfl
theorem cellsOf37 : Tryz.prog.cellsOf 37 = 13 := by kernel_rfl
theorem cellsOf64 : Tryz.prog.cellsOf 64 = 13 := by kernel_rfl
theorem cellsOf74 : Tryz.prog.cellsOf 74 = 9 := by kernel_rfl
theorem cellsOf76 : Tryz.prog.cellsOf 76 = 15 := by kernel_rfl
theorem cellsOf79 : Tryz.prog.cellsOf 79 = 13 := by kernel_rfl

structure LoC where
  nm : ByteArray
  fl : Int
  ty : T5
abbrev LoC.cells (x : LoC) : List Value := [.string x.nm, .int .i64 x.fl, .int .i64 x.ty.k, .int .i64 x.ty.s, .string x.ty.n, .int .i64 x.ty.u, .slice x.ty.a x.ty.l x.ty.c]
structure LoOk (L : Nat) (w : World) (x : LoC) : Prop where
  nm : x.nm.size ≤ 9223372036854775807
  ty : x.ty.Ok L w
structure TmC where
  nm : ByteArray
  ow : Int
  ar : Int
  lo : T5
  hi : T5
abbrev TmC.cells (x : TmC) : List Value := [.string x.nm, .int .i64 x.ow, .int .i64 x.ar, .int .i64 x.lo.k, .int .i64 x.lo.s, .string x.lo.n, .int .i64 x.lo.u, .slice x.lo.a x.lo.l x.lo.c, .int .i64 x.hi.k, .int .i64 x.hi.s, .string x.hi.n, .int .i64 x.hi.u, .slice x.hi.a x.hi.l x.hi.c]
structure TmOk (L : Nat) (w : World) (x : TmC) : Prop where
  nm : x.nm.size ≤ 9223372036854775807
  lo : x.lo.Ok L w
  hi : x.hi.Ok L w

section
variable {H : Type} {enc : TypeId × Value → H} {w : World} {base : Nat} {sp : Nat → Bool} {held : Bool}

theorem int_cs {P : Program} {t : TypeId} {cs : List Value} {x : DataW H × List MemPlace} {fuel : Nat} (ht : P.underlying t = some (.int .i64)) (h : DataW.trod enc P w base sp held fuel t cs = some x) : ∃ n : Int, cs = [.int .i64 n] := by
  cases fuel with
  | zero => simp [DataW.trod] at h
  | succ n =>
    unfold DataW.trod at h
    rw [ht] at h
    split at h <;> simp_all
theorem num_row {fuel n : Nat} {a : Option Addr} {x : DataW H × List MemPlace} (h : ∀ i, i < n → ∃ (b o m : Nat) (cs : List Value) (y : DataW H × List MemPlace), fuel = m + 1 ∧ a = some ⟨b, o, none⟩ ∧ b < w.heap.size ∧ DataW.trod enc Tryz.prog w base sp held m 3 cs = some y ∧ uptoBulk y.1 ≤ uptoBulk x.1 ∧
    ∀ j v, cs[j]? = some v → w.cell? ⟨b, o + i * 1 + j, none⟩ = some v) : ∀ L, w.heap.size ≤ L → NumRow L w a n := fun L hL i hi => by
  obtain ⟨b, o, m, cs, y, _, ha, hb, ht, _, hc⟩ := h i hi
  obtain ⟨z, rfl⟩ := int_cs Tryz.underlying3 ht
  have := hc 0 _ rfl
  simp only [Nat.mul_one, Nat.add_zero] at this
  exact ⟨b, o, z, ha, by omega, hb, this⟩

theorem ty5 {fuel : Nat} {cs : List Value} {y : DataW H × List MemPlace} (h : DataW.trod enc Tryz.prog w base sp held fuel 59 cs = some y) : ∃ t : T5, cs = t.cells ∧ ∀ L, w.heap.size ≤ L → t.Ok L w := by
  obtain ⟨t0, t1, t3, t2, vt, m, zt, _, rfl, hts, hta⟩ := ty_cells h
  obtain ⟨ta, tl, tc, rfl, _, _, hta'⟩ := ty_open _ _ _ hta
  exact ⟨⟨t0, t1, t2, t3, ta, tl, tc⟩, rfl, fun L hL => ⟨hts, hta' 69 L hL⟩⟩

set_option maxRecDepth 100000 in
theorem lo_cells {fuel : Nat} {cs : List Value} {y : DataW H × List MemPlace} (h : DataW.trod enc Tryz.prog w base sp held fuel 129 cs = some y) (hB : uptoBulk y.1 ≤ 1048576) :
    ∃ X : LoC, cs = X.cells ∧ ∀ L, w.heap.size ≤ L → LoOk L w X := by
  obtain ⟨xs, n, hfuel, hy, hlen, hxl, hf⟩ := DataW.trod_struct Tryz.underlying129 h
  rw [cellsOf129] at hlen
  match cs, hlen with
  | [c0, c1, c2, c3, c4, c5, c6], _ =>
    match xs, hxl with
    | [x0, x1, x2], _ =>
      have f0 := hf 0 _ rfl
      have f1 := hf 1 _ rfl
      have f2 := hf 2 _ rfl
      simp [co3, co9, cellsOf59] at f0 f1 f2
      have hB' : uptoBulkAll [x0.1, x1.1, x2.1] + 1 ≤ 1048576 := by
        rw [hy] at hB
        simpa [uptoBulk] using hB
      obtain ⟨v0, rfl, s0⟩ := cell_str Tryz.underlying9 f0
      obtain ⟨v1, rfl⟩ := cell_int Tryz.underlying3 f1
      obtain ⟨t2, e2, r2⟩ := ty5 f2
      injection e2 with e2_0 e2
      injection e2 with e2_1 e2
      injection e2 with e2_2 e2
      injection e2 with e2_3 e2
      injection e2 with e2_4 e2
      subst e2_0 e2_1 e2_2 e2_3 e2_4
      exact ⟨⟨v0, v1, t2⟩, rfl, fun L hL => ⟨s0, r2 L hL⟩⟩

theorem lo_open (fuel : Nat) (v : Value) (x : DataW H × List MemPlace) (h : DataW.trod enc Tryz.prog w base sp held fuel 61 [v] = some x) (hB : uptoBulk x.1 ≤ 1048576) :
    ∃ a n c, v = .slice a n c ∧ n ≤ 1048576 ∧ ∀ L, w.heap.size ≤ L → LoRow L w a n := by
  obtain ⟨a, n, c, hv, hn, hnb, _, hel⟩ := sl_open Tryz.underlying61 cellsOf129 (by omega) h
  refine ⟨a, n, c, hv, by omega, fun L hL => ⟨hn, fun i hi => ?_⟩⟩
  obtain ⟨b, o, m, cs, y, hm, ha, hb, ht, hby, hc⟩ := hel i hi
  obtain ⟨X, rfl, hok⟩ := lo_cells ht (by omega)
  have k := hok L hL
  exact ⟨b, o, X.fl, X.ty.k, X.ty.s, X.ty.u, X.nm, X.ty.n, X.ty.a, X.ty.l, X.ty.c, ⟨ha, by omega, hb, hc 0 _ rfl, hc 1 _ rfl, hc 2 _ rfl, hc 3 _ rfl, hc 4 _ rfl, hc 5 _ rfl, hc 6 _ rfl⟩, k.nm, k.ty.n, k.ty.r⟩

theorem ptr_arms {P : Program} {t e : TypeId} {fuel : Nat} {v : Value} {x : DataW H × List MemPlace} (ht : P.underlying t = some (.pointer e)) (h : DataW.trod enc P w base sp held fuel t [v] = some x) :
    v = .pointer none ∨ ∃ (a : Addr) (n : Nat) (cs : List Value) (y : DataW H × List MemPlace), v = .pointer (some a) ∧ w.cells? base a (P.cellsOf e) = some cs ∧ DataW.trod enc P w base sp held n e cs = some y ∧ uptoBulk y.1 ≤ uptoBulk x.1 := by
  cases fuel with
  | zero => simp [DataW.trod] at h
  | succ n =>
    unfold DataW.trod at h
    rw [ht] at h
    split at h <;> try (simp_all; done)
    rename_i e' a hpe heq
    right
    simp only [Option.some.injEq, TypeDesc.pointer.injEq] at hpe
    subst hpe
    obtain ⟨y, hy, hx⟩ := Option.map_eq_some_iff.1 h
    obtain ⟨cs, hc, ht'⟩ := Option.bind_eq_some_iff.1 hy
    injection heq with heq
    refine ⟨a, n, cs, y, heq, hc, ht', ?_⟩
    rw [← hx]
    simp [uptoBulk]

set_option maxRecDepth 100000 in
theorem bo_open {fuel : Nat} {v : Value} {x : DataW H × List MemPlace} (h : DataW.trod enc Tryz.prog w base sp held fuel 62 [v] = some x) (hB : uptoBulk x.1 ≤ 1048576) :
    ∃ p, v = .pointer p ∧ ∀ L, w.heap.size ≤ L → (p = none ∨ ∃ (b o : Nat) (t : TrC), p = some ⟨b, o, none⟩ ∧ BoAt w L b o t ∧ TrOk 69 L w t ∧ TrRow 69 199 L w t.ka t.kl) := by
  rcases ptr_arms Tryz.underlying62 h with rfl | ⟨a, n, cs, y, rfl, hc, ht, hy⟩
  · exact ⟨none, rfl, fun _ _ => .inl rfl⟩
  · rw [cellsOf72] at hc
    obtain ⟨X, m, z, _, rfl, hok, hk, hbz⟩ := tr_cells ht (by omega)
    obtain ⟨ka, kl, kc, e, _, hrow⟩ := tr_open m _ z hk hbz
    injection e with e1 e2 e3
    obtain ⟨_, _, hcell⟩ := World.cells?_some hc
    have hlt : a.block < w.heap.size := World.cells?_block hc (by omega)
    obtain ⟨b, o, s0⟩ := a
    have hsn : s0 = none := by
      have q : w.cell? ((⟨b, o, s0⟩ : Addr).add 0) = some (.int .i64 X.kd) := hcell 0 (by omega)
      have e : (⟨b, o, s0⟩ : Addr).add 0 = ⟨b, o, s0⟩ := rfl
      rw [e] at q
      have := add_none q
      injection this
    subst hsn
    have k : ∀ j, j < 12 → w.cell? ⟨b, o + j, none⟩ = X.cells[j]? := fun j hj => by
      have := hcell j hj
      rw [add_at] at this
      exact this
    exact ⟨_, rfl, fun L hL => .inr ⟨b, o, X, rfl, ⟨by have : b < w.heap.size := hlt; omega, hlt, k 0 (by omega), k 1 (by omega), k 2 (by omega), k 3 (by omega), k 4 (by omega), k 5 (by omega), k 6 (by omega), k 7 (by omega), k 8 (by omega), k 9 (by omega), k 10 (by omega), k 11 (by omega)⟩, hok L hL, by rw [e1, e2]; exact hrow 199 L hL⟩⟩
set_option maxRecDepth 100000 in
theorem cl_cells {fuel : Nat} {cs : List Value} {y : DataW H × List MemPlace} (h : DataW.trod enc Tryz.prog w base sp held fuel 37 cs = some y) (hB : uptoBulk y.1 ≤ 1048576) :
    ∃ X : ClC, cs = X.cells ∧ ∀ L, w.heap.size ≤ L → ClOk L w X := by
  obtain ⟨xs, n, hfuel, hy, hlen, hxl, hf⟩ := DataW.trod_struct Tryz.underlying37 h
  rw [cellsOf37] at hlen
  match cs, hlen with
  | [c0, c1, c2, c3, c4, c5, c6, c7, c8, c9, c10, c11, c12], _ =>
    match xs, hxl with
    | [x0, x1, x2, x3, x4, x5, x6, x7, x8, x9, x10, x11, x12], _ =>
      have f0 := hf 0 _ rfl
      have f1 := hf 1 _ rfl
      have f2 := hf 2 _ rfl
      have f3 := hf 3 _ rfl
      have f4 := hf 4 _ rfl
      have f5 := hf 5 _ rfl
      have f6 := hf 6 _ rfl
      have f7 := hf 7 _ rfl
      have f8 := hf 8 _ rfl
      have f9 := hf 9 _ rfl
      have f10 := hf 10 _ rfl
      have f11 := hf 11 _ rfl
      have f12 := hf 12 _ rfl
      simp [co3, co9, co33, co34, co35] at f0 f1 f2 f3 f4 f5 f6 f7 f8 f9 f10 f11 f12
      have hB' : uptoBulkAll [x0.1, x1.1, x2.1, x3.1, x4.1, x5.1, x6.1, x7.1, x8.1, x9.1, x10.1, x11.1, x12.1] + 1 ≤ 1048576 := by
        rw [hy] at hB
        simpa [uptoBulk] using hB
      have b4 : uptoBulk x4.1 ≤ 1048576 := by
        have := bulk_mem (l := [x0.1, x1.1, x2.1, x3.1, x4.1, x5.1, x6.1, x7.1, x8.1, x9.1, x10.1, x11.1, x12.1]) (d := x4.1) (by simp)
        omega
      have b5 : uptoBulk x5.1 ≤ 1048576 := by
        have := bulk_mem (l := [x0.1, x1.1, x2.1, x3.1, x4.1, x5.1, x6.1, x7.1, x8.1, x9.1, x10.1, x11.1, x12.1]) (d := x5.1) (by simp)
        omega
      have b6 : uptoBulk x6.1 ≤ 1048576 := by
        have := bulk_mem (l := [x0.1, x1.1, x2.1, x3.1, x4.1, x5.1, x6.1, x7.1, x8.1, x9.1, x10.1, x11.1, x12.1]) (d := x6.1) (by simp)
        omega
      have b7 : uptoBulk x7.1 ≤ 1048576 := by
        have := bulk_mem (l := [x0.1, x1.1, x2.1, x3.1, x4.1, x5.1, x6.1, x7.1, x8.1, x9.1, x10.1, x11.1, x12.1]) (d := x7.1) (by simp)
        omega
      have b8 : uptoBulk x8.1 ≤ 1048576 := by
        have := bulk_mem (l := [x0.1, x1.1, x2.1, x3.1, x4.1, x5.1, x6.1, x7.1, x8.1, x9.1, x10.1, x11.1, x12.1]) (d := x8.1) (by simp)
        omega
      have b9 : uptoBulk x9.1 ≤ 1048576 := by
        have := bulk_mem (l := [x0.1, x1.1, x2.1, x3.1, x4.1, x5.1, x6.1, x7.1, x8.1, x9.1, x10.1, x11.1, x12.1]) (d := x9.1) (by simp)
        omega
      have b10 : uptoBulk x10.1 ≤ 1048576 := by
        have := bulk_mem (l := [x0.1, x1.1, x2.1, x3.1, x4.1, x5.1, x6.1, x7.1, x8.1, x9.1, x10.1, x11.1, x12.1]) (d := x10.1) (by simp)
        omega
      have b11 : uptoBulk x11.1 ≤ 1048576 := by
        have := bulk_mem (l := [x0.1, x1.1, x2.1, x3.1, x4.1, x5.1, x6.1, x7.1, x8.1, x9.1, x10.1, x11.1, x12.1]) (d := x11.1) (by simp)
        omega
      obtain ⟨v0, rfl, s0⟩ := cell_str Tryz.underlying9 f0
      obtain ⟨v1, rfl⟩ := cell_int Tryz.underlying3 f1
      obtain ⟨v2, rfl⟩ := cell_int Tryz.underlying3 f2
      obtain ⟨v3, rfl⟩ := cell_int Tryz.underlying3 f3
      obtain ⟨a4, n4, d4, rfl, m4, l4, _, k4⟩ := sl_open Tryz.underlying33 co3 (by omega) f4
      have u4 := num_row k4
      have f34 := f5
      have s34 := sl_open Tryz.underlying34 cellsOf59 (by omega) f5
      obtain ⟨a5, n5, d5, rfl, m5, _, r5⟩ := ty_open _ _ _ f5
      obtain ⟨_, _, _, q34, _, l5, _, _⟩ := s34
      injection q34 with q34a q34b q34c
      subst q34b
      obtain ⟨a6, n6, d6, rfl, m6, l6, _, k6⟩ := sl_open Tryz.underlying33 co3 (by omega) f6
      have u6 := num_row k6
      obtain ⟨a7, n7, d7, rfl, m7, l7, _, k7⟩ := sl_open Tryz.underlying33 co3 (by omega) f7
      have u7 := num_row k7
      obtain ⟨a8, n8, d8, rfl, m8, l8, _, k8⟩ := sl_open Tryz.underlying33 co3 (by omega) f8
      have u8 := num_row k8
      obtain ⟨a9, n9, d9, rfl, m9, l9, _, k9⟩ := sl_open Tryz.underlying33 co3 (by omega) f9
      have u9 := num_row k9
      obtain ⟨a10, n10, d10, rfl, m10, r10⟩ := tr_open _ _ _ f10 b10
      obtain ⟨a11, n11, d11, rfl, m11, r11⟩ := tr_open _ _ _ f11 b11
      obtain ⟨v12, rfl⟩ := cell_int Tryz.underlying3 f12
      exact ⟨⟨v0, v1, v2, v3, ⟨a4, n4, d4⟩, ⟨a5, n5, d5⟩, ⟨a6, n6, d6⟩, ⟨a7, n7, d7⟩, ⟨a8, n8, d8⟩, ⟨a9, n9, d9⟩, ⟨a10, n10, d10⟩, ⟨a11, n11, d11⟩, v12⟩, rfl, fun L hL => ⟨s0, (by show n4 ≤ 1048576; omega), (by show n6 ≤ 1048576; omega), (by show n7 ≤ 1048576; omega), (by show n8 ≤ 1048576; omega), (by show n9 ≤ 1048576; omega), r5 _ L hL, r10 _ L hL, r11 _ L hL, (by show n5 ≤ 1048576; omega), u4 L hL, u6 L hL, u7 L hL, u8 L hL, u9 L hL, sl_cap Tryz.underlying34 f34⟩⟩
set_option maxRecDepth 100000 in
theorem me_cells {fuel : Nat} {cs : List Value} {y : DataW H × List MemPlace} (h : DataW.trod enc Tryz.prog w base sp held fuel 64 cs = some y) (hB : uptoBulk y.1 ≤ 1048576) :
    ∃ X : MeC, cs = X.cells ∧ ∀ L, w.heap.size ≤ L → MeOk L w X := by
  obtain ⟨xs, n, hfuel, hy, hlen, hxl, hf⟩ := DataW.trod_struct Tryz.underlying64 h
  rw [cellsOf64] at hlen
  match cs, hlen with
  | [c0, c1, c2, c3, c4, c5, c6, c7, c8, c9, c10, c11, c12], _ =>
    match xs, hxl with
    | [x0, x1, x2, x3, x4, x5, x6, x7, x8], _ =>
      have f0 := hf 0 _ rfl
      have f1 := hf 1 _ rfl
      have f2 := hf 2 _ rfl
      have f3 := hf 3 _ rfl
      have f4 := hf 4 _ rfl
      have f5 := hf 5 _ rfl
      have f6 := hf 6 _ rfl
      have f7 := hf 7 _ rfl
      have f8 := hf 8 _ rfl
      simp [co3, co9, co33, co61, co62, cellsOf59] at f0 f1 f2 f3 f4 f5 f6 f7 f8
      have hB' : uptoBulkAll [x0.1, x1.1, x2.1, x3.1, x4.1, x5.1, x6.1, x7.1, x8.1] + 1 ≤ 1048576 := by
        rw [hy] at hB
        simpa [uptoBulk] using hB
      have b3 : uptoBulk x3.1 ≤ 1048576 := by
        have := bulk_mem (l := [x0.1, x1.1, x2.1, x3.1, x4.1, x5.1, x6.1, x7.1, x8.1]) (d := x3.1) (by simp)
        omega
      have b5 : uptoBulk x5.1 ≤ 1048576 := by
        have := bulk_mem (l := [x0.1, x1.1, x2.1, x3.1, x4.1, x5.1, x6.1, x7.1, x8.1]) (d := x5.1) (by simp)
        omega
      have b7 : uptoBulk x7.1 ≤ 1048576 := by
        have := bulk_mem (l := [x0.1, x1.1, x2.1, x3.1, x4.1, x5.1, x6.1, x7.1, x8.1]) (d := x7.1) (by simp)
        omega
      obtain ⟨v0, rfl, s0⟩ := cell_str Tryz.underlying9 f0
      obtain ⟨v1, rfl⟩ := cell_int Tryz.underlying3 f1
      obtain ⟨v2, rfl⟩ := cell_int Tryz.underlying3 f2
      obtain ⟨a3, n3, d3, rfl, m3, l3, _, k3⟩ := sl_open Tryz.underlying33 co3 (by omega) f3
      have u3 := num_row k3
      obtain ⟨v4, rfl⟩ := cell_int Tryz.underlying3 f4
      have f61 := f5
      obtain ⟨a5, n5, d5, rfl, l5, r5⟩ := lo_open _ _ _ f5 b5
      obtain ⟨t6, e6, r6⟩ := ty5 f6
      injection e6 with e6_0 e6
      injection e6 with e6_1 e6
      injection e6 with e6_2 e6
      injection e6 with e6_3 e6
      injection e6 with e6_4 e6
      subst e6_0 e6_1 e6_2 e6_3 e6_4
      obtain ⟨p7, rfl, r7⟩ := bo_open f7 b7
      obtain ⟨v8, rfl⟩ := cell_int Tryz.underlying3 f8
      exact ⟨⟨v0, v1, v2, ⟨a3, n3, d3⟩, v4, ⟨a5, n5, d5⟩, t6, p7, v8⟩, rfl, fun L hL => ⟨s0, m3, r5 L hL, r6 L hL, r7 L hL, (by show n3 ≤ 1048576; omega), l5, u3 L hL, sl_cap Tryz.underlying61 f61⟩⟩
set_option maxRecDepth 100000 in
theorem fi_cells {fuel : Nat} {cs : List Value} {y : DataW H × List MemPlace} (h : DataW.trod enc Tryz.prog w base sp held fuel 74 cs = some y) (hB : uptoBulk y.1 ≤ 1048576) :
    ∃ X : FiC, cs = X.cells ∧ ∀ L, w.heap.size ≤ L → FiOk L w X := by
  obtain ⟨xs, n, hfuel, hy, hlen, hxl, hf⟩ := DataW.trod_struct Tryz.underlying74 h
  rw [cellsOf74] at hlen
  match cs, hlen with
  | [c0, c1, c2, c3, c4, c5, c6, c7, c8], _ =>
    match xs, hxl with
    | [x0, x1, x2, x3, x4], _ =>
      have f0 := hf 0 _ rfl
      have f1 := hf 1 _ rfl
      have f2 := hf 2 _ rfl
      have f3 := hf 3 _ rfl
      have f4 := hf 4 _ rfl
      simp [co3, co9, cellsOf59] at f0 f1 f2 f3 f4
      have hB' : uptoBulkAll [x0.1, x1.1, x2.1, x3.1, x4.1] + 1 ≤ 1048576 := by
        rw [hy] at hB
        simpa [uptoBulk] using hB
      obtain ⟨v0, rfl, s0⟩ := cell_str Tryz.underlying9 f0
      obtain ⟨v1, rfl⟩ := cell_int Tryz.underlying3 f1
      obtain ⟨v2, rfl⟩ := cell_int Tryz.underlying3 f2
      obtain ⟨t3, e3, r3⟩ := ty5 f3
      injection e3 with e3_0 e3
      injection e3 with e3_1 e3
      injection e3 with e3_2 e3
      injection e3 with e3_3 e3
      injection e3 with e3_4 e3
      subst e3_0 e3_1 e3_2 e3_3 e3_4
      obtain ⟨v4, rfl⟩ := cell_int Tryz.underlying3 f4
      exact ⟨⟨v0, v1, v2, t3, v4⟩, rfl, fun L hL => ⟨s0, r3 L hL⟩⟩
set_option maxRecDepth 100000 in
theorem tp_cells {fuel : Nat} {cs : List Value} {y : DataW H × List MemPlace} (h : DataW.trod enc Tryz.prog w base sp held fuel 76 cs = some y) (hB : uptoBulk y.1 ≤ 1048576) :
    ∃ X : TpC, cs = X.cells ∧ ∀ L, w.heap.size ≤ L → TpOk L w X := by
  obtain ⟨xs, n, hfuel, hy, hlen, hxl, hf⟩ := DataW.trod_struct Tryz.underlying76 h
  rw [cellsOf76] at hlen
  match cs, hlen with
  | [c0, c1, c2, c3, c4, c5, c6, c7, c8, c9, c10, c11, c12, c13, c14], _ =>
    match xs, hxl with
    | [x0, x1, x2, x3, x4, x5, x6], _ =>
      have f0 := hf 0 _ rfl
      have f1 := hf 1 _ rfl
      have f2 := hf 2 _ rfl
      have f3 := hf 3 _ rfl
      have f4 := hf 4 _ rfl
      have f5 := hf 5 _ rfl
      have f6 := hf 6 _ rfl
      simp [co3, co9, cellsOf59] at f0 f1 f2 f3 f4 f5 f6
      have hB' : uptoBulkAll [x0.1, x1.1, x2.1, x3.1, x4.1, x5.1, x6.1] + 1 ≤ 1048576 := by
        rw [hy] at hB
        simpa [uptoBulk] using hB
      obtain ⟨v0, rfl, s0⟩ := cell_str Tryz.underlying9 f0
      obtain ⟨v1, rfl⟩ := cell_int Tryz.underlying3 f1
      obtain ⟨v2, rfl⟩ := cell_int Tryz.underlying3 f2
      obtain ⟨v3, rfl⟩ := cell_int Tryz.underlying3 f3
      obtain ⟨v4, rfl⟩ := cell_int Tryz.underlying3 f4
      obtain ⟨t5, e5, r5⟩ := ty5 f5
      injection e5 with e5_0 e5
      injection e5 with e5_1 e5
      injection e5 with e5_2 e5
      injection e5 with e5_3 e5
      injection e5 with e5_4 e5
      subst e5_0 e5_1 e5_2 e5_3 e5_4
      obtain ⟨t6, e6, r6⟩ := ty5 f6
      injection e6 with e6_0 e6
      injection e6 with e6_1 e6
      injection e6 with e6_2 e6
      injection e6 with e6_3 e6
      injection e6 with e6_4 e6
      subst e6_0 e6_1 e6_2 e6_3 e6_4
      exact ⟨⟨v0, v1, v2, v3, v4, t5, t6⟩, rfl, fun L hL => ⟨s0, r5 L hL, r6 L hL⟩⟩
set_option maxRecDepth 100000 in
theorem tm_cells {fuel : Nat} {cs : List Value} {y : DataW H × List MemPlace} (h : DataW.trod enc Tryz.prog w base sp held fuel 79 cs = some y) (hB : uptoBulk y.1 ≤ 1048576) :
    ∃ X : TmC, cs = X.cells ∧ ∀ L, w.heap.size ≤ L → TmOk L w X := by
  obtain ⟨xs, n, hfuel, hy, hlen, hxl, hf⟩ := DataW.trod_struct Tryz.underlying79 h
  rw [cellsOf79] at hlen
  match cs, hlen with
  | [c0, c1, c2, c3, c4, c5, c6, c7, c8, c9, c10, c11, c12], _ =>
    match xs, hxl with
    | [x0, x1, x2, x3, x4], _ =>
      have f0 := hf 0 _ rfl
      have f1 := hf 1 _ rfl
      have f2 := hf 2 _ rfl
      have f3 := hf 3 _ rfl
      have f4 := hf 4 _ rfl
      simp [co3, co9, cellsOf59] at f0 f1 f2 f3 f4
      have hB' : uptoBulkAll [x0.1, x1.1, x2.1, x3.1, x4.1] + 1 ≤ 1048576 := by
        rw [hy] at hB
        simpa [uptoBulk] using hB
      obtain ⟨v0, rfl, s0⟩ := cell_str Tryz.underlying9 f0
      obtain ⟨v1, rfl⟩ := cell_int Tryz.underlying3 f1
      obtain ⟨v2, rfl⟩ := cell_int Tryz.underlying3 f2
      obtain ⟨t3, e3, r3⟩ := ty5 f3
      injection e3 with e3_0 e3
      injection e3 with e3_1 e3
      injection e3 with e3_2 e3
      injection e3 with e3_3 e3
      injection e3 with e3_4 e3
      subst e3_0 e3_1 e3_2 e3_3 e3_4
      obtain ⟨t4, e4, r4⟩ := ty5 f4
      injection e4 with e4_0 e4
      injection e4 with e4_1 e4
      injection e4 with e4_2 e4
      injection e4 with e4_3 e4
      injection e4 with e4_4 e4
      subst e4_0 e4_1 e4_2 e4_3 e4_4
      exact ⟨⟨v0, v1, v2, t3, t4⟩, rfl, fun L hL => ⟨s0, r3 L hL, r4 L hL⟩⟩

theorem cl_open {fuel : Nat} {v : Value} {x : DataW H × List MemPlace} (h : DataW.trod enc Tryz.prog w base sp held fuel 24 [v] = some x) (hB : uptoBulk x.1 ≤ 1048576) :
    ∃ a n c, v = .slice a n c ∧ n ≤ c ∧ ∀ L, w.heap.size ≤ L → ClRow L w a n := by
  obtain ⟨a, n, c, hv, hn, _, _, hel⟩ := sl_open Tryz.underlying24 cellsOf37 (by omega) h
  refine ⟨a, n, c, hv, sl_cap Tryz.underlying24 (hv ▸ h), fun L hL => ⟨hn, fun i hi => ?_⟩⟩
  obtain ⟨b, o, m, cs, y, hm, ha, hb, ht, hby, hc⟩ := hel i hi
  obtain ⟨X, rfl, hok⟩ := cl_cells ht (by omega)
  exact ⟨b, o, X, ⟨ha, by omega, hb, hc 0 _ rfl, hc 1 _ rfl, hc 2 _ rfl, hc 3 _ rfl, hc 4 _ rfl, hc 5 _ rfl, hc 6 _ rfl, hc 7 _ rfl, hc 8 _ rfl, hc 9 _ rfl, hc 10 _ rfl, hc 11 _ rfl, hc 12 _ rfl⟩, hok L hL⟩

theorem me_open {fuel : Nat} {v : Value} {x : DataW H × List MemPlace} (h : DataW.trod enc Tryz.prog w base sp held fuel 25 [v] = some x) (hB : uptoBulk x.1 ≤ 1048576) :
    ∃ a n c, v = .slice a n c ∧ n ≤ c ∧ ∀ L, w.heap.size ≤ L → MeRow L w a n := by
  obtain ⟨a, n, c, hv, hn, _, _, hel⟩ := sl_open Tryz.underlying25 cellsOf64 (by omega) h
  refine ⟨a, n, c, hv, sl_cap Tryz.underlying25 (hv ▸ h), fun L hL => ⟨hn, fun i hi => ?_⟩⟩
  obtain ⟨b, o, m, cs, y, hm, ha, hb, ht, hby, hc⟩ := hel i hi
  obtain ⟨X, rfl, hok⟩ := me_cells ht (by omega)
  exact ⟨b, o, X, ⟨ha, by omega, hb, hc 0 _ rfl, hc 1 _ rfl, hc 2 _ rfl, hc 3 _ rfl, hc 4 _ rfl, hc 5 _ rfl, hc 6 _ rfl, hc 7 _ rfl, hc 8 _ rfl, hc 9 _ rfl, hc 10 _ rfl, hc 11 _ rfl, hc 12 _ rfl⟩, hok L hL⟩

theorem fi_open {fuel : Nat} {v : Value} {x : DataW H × List MemPlace} (h : DataW.trod enc Tryz.prog w base sp held fuel 26 [v] = some x) (hB : uptoBulk x.1 ≤ 1048576) :
    ∃ a n c, v = .slice a n c ∧ n ≤ c ∧ ∀ L, w.heap.size ≤ L → FiRow L w a n := by
  obtain ⟨a, n, c, hv, hn, _, _, hel⟩ := sl_open Tryz.underlying26 cellsOf74 (by omega) h
  refine ⟨a, n, c, hv, sl_cap Tryz.underlying26 (hv ▸ h), fun L hL => ⟨hn, fun i hi => ?_⟩⟩
  obtain ⟨b, o, m, cs, y, hm, ha, hb, ht, hby, hc⟩ := hel i hi
  obtain ⟨X, rfl, hok⟩ := fi_cells ht (by omega)
  exact ⟨b, o, X, ⟨ha, by omega, hb, hc 0 _ rfl, hc 1 _ rfl, hc 2 _ rfl, hc 3 _ rfl, hc 4 _ rfl, hc 5 _ rfl, hc 6 _ rfl, hc 7 _ rfl, hc 8 _ rfl⟩, hok L hL⟩

theorem tp_open {fuel : Nat} {v : Value} {x : DataW H × List MemPlace} (h : DataW.trod enc Tryz.prog w base sp held fuel 27 [v] = some x) (hB : uptoBulk x.1 ≤ 1048576) :
    ∃ a n c, v = .slice a n c ∧ n ≤ c ∧ ∀ L, w.heap.size ≤ L → TpRow L w a n := by
  obtain ⟨a, n, c, hv, hn, _, _, hel⟩ := sl_open Tryz.underlying27 cellsOf76 (by omega) h
  refine ⟨a, n, c, hv, sl_cap Tryz.underlying27 (hv ▸ h), fun L hL => ⟨hn, fun i hi => ?_⟩⟩
  obtain ⟨b, o, m, cs, y, hm, ha, hb, ht, hby, hc⟩ := hel i hi
  obtain ⟨X, rfl, hok⟩ := tp_cells ht (by omega)
  exact ⟨b, o, X, ⟨ha, by omega, hb, hc 0 _ rfl, hc 1 _ rfl, hc 2 _ rfl, hc 3 _ rfl, hc 4 _ rfl, hc 5 _ rfl, hc 6 _ rfl, hc 7 _ rfl, hc 8 _ rfl, hc 9 _ rfl, hc 10 _ rfl, hc 11 _ rfl, hc 12 _ rfl, hc 13 _ rfl, hc 14 _ rfl⟩, hok L hL⟩

theorem tm_open {fuel : Nat} {v : Value} {x : DataW H × List MemPlace} (h : DataW.trod enc Tryz.prog w base sp held fuel 28 [v] = some x) (hB : uptoBulk x.1 ≤ 1048576) :
    ∃ a n c, v = .slice a n c ∧ n ≤ c ∧ ∀ L, w.heap.size ≤ L → TmRow L w a n := by
  obtain ⟨a, n, c, hv, hn, _, _, hel⟩ := sl_open Tryz.underlying28 cellsOf79 (by omega) h
  refine ⟨a, n, c, hv, sl_cap Tryz.underlying28 (hv ▸ h), fun L hL => ⟨hn, fun i hi => ?_⟩⟩
  obtain ⟨b, o, m, cs, y, hm, ha, hb, ht, hby, hc⟩ := hel i hi
  obtain ⟨X, rfl, hok⟩ := tm_cells ht (by omega)
  have k := hok L hL
  exact ⟨b, o, X.nm, X.ow, X.ar, X.lo, X.hi, ⟨ha, by omega, hb, hc 0 _ rfl, hc 1 _ rfl, hc 2 _ rfl, hc 3 _ rfl, hc 4 _ rfl, hc 5 _ rfl, hc 6 _ rfl, hc 7 _ rfl, hc 8 _ rfl, hc 9 _ rfl, hc 10 _ rfl, hc 11 _ rfl, hc 12 _ rfl⟩, k.nm, k.lo, k.hi⟩
end
end Go.Proofs.YtkjjieloncdjhaaGreatDoor
namespace Go.Proofs.YtkjjieloncdjhaaGreatDoor.prg6
open Go Go.ChangeMaps Go.ChangeShapes Go.WideShapes Go.ChangeAt Go.RowKit
open Rows (uptoBulk uptoBulkAll)

theorem laidOut : laidOutB Tryz.prog = true := by kernel_rfl
theorem co24 : Tryz.prog.cellsOf 24 = 1 := by kernel_rfl
theorem co25 : Tryz.prog.cellsOf 25 = 1 := by kernel_rfl
theorem co26 : Tryz.prog.cellsOf 26 = 1 := by kernel_rfl
theorem co27 : Tryz.prog.cellsOf 27 = 1 := by kernel_rfl
theorem co28 : Tryz.prog.cellsOf 28 = 1 := by kernel_rfl
theorem co30 : Tryz.prog.cellsOf 30 = 6 := by kernel_rfl
theorem co31 : Tryz.prog.cellsOf 31 = 2 := by kernel_rfl

set_option maxRecDepth 100000 in
theorem pr_open {H : Type} {enc : TypeId × Value → H} {w : World} {base : Nat} {sp : Nat → Bool} {held : Bool} {fuel : Nat} {cs : List Value} {y : DataW H × List MemPlace} (h : DataW.trod enc Tryz.prog w base sp held fuel 30 cs = some y) (hB : uptoBulk y.1 ≤ 1048576) :
    ∃ (ca ma fa ta ya : Option Addr) (cn mn fn tn yn cc mc fc tc yc : Nat) (mi : Int), cs = [.slice ca cn cc, .slice ma mn mc, .slice fa fn fc, .slice ta tn tc, .slice ya yn yc, .int .i64 mi] ∧
      (∀ L, w.heap.size ≤ L → ClRow L w ca cn) ∧ (∀ L, w.heap.size ≤ L → MeRow L w ma mn) ∧ (∀ L, w.heap.size ≤ L → FiRow L w fa fn) ∧ (∀ L, w.heap.size ≤ L → TpRow L w ta tn) ∧ (∀ L, w.heap.size ≤ L → TmRow L w ya yn) ∧ (cn ≤ cc ∧ mn ≤ mc ∧ fn ≤ fc ∧ tn ≤ tc ∧ yn ≤ yc) := by
  obtain ⟨xs, n, hfuel, hy, hlen, hxl, hf⟩ := DataW.trod_struct Tryz.underlying30 h
  rw [co30] at hlen
  match cs, hlen with
  | [c0, c1, c2, c3, c4, c5], _ =>
    match xs, hxl with
    | [x0, x1, x2, x3, x4, x5], _ =>
      have f0 := hf 0 _ rfl
      have f1 := hf 1 _ rfl
      have f2 := hf 2 _ rfl
      have f3 := hf 3 _ rfl
      have f4 := hf 4 _ rfl
      have f5 := hf 5 _ rfl
      simp [co3, co24, co25, co26, co27, co28] at f0 f1 f2 f3 f4 f5
      have hB' : uptoBulkAll [x0.1, x1.1, x2.1, x3.1, x4.1, x5.1] + 1 ≤ 1048576 := by
        rw [hy] at hB
        simpa [uptoBulk] using hB
      have b : ∀ d ∈ [x0.1, x1.1, x2.1, x3.1, x4.1, x5.1], uptoBulk d ≤ 1048576 := fun d hd => by
        have := bulk_mem hd
        omega
      obtain ⟨ca, cn, cc, rfl, g0, h0⟩ := cl_open f0 (b _ (by simp))
      obtain ⟨ma, mn, mc, rfl, g1, h1⟩ := me_open f1 (b _ (by simp))
      obtain ⟨fa, fn, fc, rfl, g2, h2⟩ := fi_open f2 (b _ (by simp))
      obtain ⟨ta, tn, tc, rfl, g3, h3⟩ := tp_open f3 (b _ (by simp))
      obtain ⟨ya, yn, yc, rfl, g4, h4⟩ := tm_open f4 (b _ (by simp))
      obtain ⟨mi, rfl⟩ := cell_int Tryz.underlying3 f5
      exact ⟨ca, ma, fa, ta, ya, cn, mn, fn, tn, yn, cc, mc, fc, tc, yc, mi, rfl, h0, h1, h2, h3, h4, g0, g1, g2, g3, g4⟩

end Go.Proofs.YtkjjieloncdjhaaGreatDoor.prg6
