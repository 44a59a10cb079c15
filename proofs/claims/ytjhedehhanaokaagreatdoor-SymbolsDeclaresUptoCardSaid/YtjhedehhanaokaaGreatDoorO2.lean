/- A list of trees that is read: where its cells lie. -/
import Derived.Test.YtjhedehhanaokaaGreatDoorO1
import Derived.Test.YtjhedehhanaokaaGreatDoorRows
namespace Go.Proofs.YtjhedehhanaokaaGreatDoor
open Go Go.RowKit
open Rows (uptoBulk uptoBulkAll)

theorem bulk_pos {H : Type} (d : DataW H) : 1 ≤ uptoBulk d := by
  cases d with
  | lit l => cases l <;> simp [uptoBulk]
  | _ => simp [uptoBulk]
theorem bulk_mem {H : Type} {l : List (DataW H)} {d : DataW H} (h : d ∈ l) : uptoBulk d ≤ uptoBulkAll l := by
  induction l with
  | nil => cases h
  | cons e r ih =>
    rcases List.mem_cons.1 h with rfl | h
    · simp [uptoBulkAll]
    · have := ih h
      simp only [uptoBulkAll]
      omega
theorem bulk_len {H : Type} (l : List (DataW H)) : l.length ≤ uptoBulkAll l := by
  induction l with
  | nil => simp
  | cons e r ih =>
    have := bulk_pos e
    simp only [uptoBulkAll, List.length_cons]
    omega

section
variable {H : Type} {enc : TypeId × Value → H} {w : World} {base : Nat} {sp : Nat → Bool} {held : Bool}

/-- A slice that is read. -/
theorem sl_open {t e : TypeId} {k fuel : Nat} {v : Value} {x : DataW H × List MemPlace} (ht : Tryz.prog.underlying t = some (.slice e)) (hk : Tryz.prog.cellsOf e = k) (hk0 : 0 < k) (h : DataW.trod enc Tryz.prog w base sp held fuel t [v] = some x) :
    ∃ a n c, v = .slice a n c ∧ n ≤ 9223372036854775807 ∧ n ≤ uptoBulk x.1 ∧ (a = none → n = 0 ∧ c = 0) ∧
      ∀ i, i < n → ∃ (b o m : Nat) (cs : List Value) (y : DataW H × List MemPlace), fuel = m + 1 ∧ a = some ⟨b, o, none⟩ ∧ b < w.heap.size ∧ DataW.trod enc Tryz.prog w base sp held m e cs = some y ∧ uptoBulk y.1 ≤ uptoBulk x.1 ∧
        ∀ j v, cs[j]? = some v → w.cell? ⟨b, o + i * k + j, none⟩ = some v := by
  subst hk
  rcases DataW.trod_slice ht h with ⟨h0, _⟩ | ⟨a, len, cap, elems, rest, n, hfuel, hv, hx, _, hlc, hcm, hlen, hel, _, _⟩
  · injection h0 with h0
    exact ⟨none, 0, 0, h0, by omega, by omega, fun _ => ⟨rfl, rfl⟩, fun i hi => absurd hi (by omega)⟩
  · injection hv with hv
    have hmx : len ≤ 9223372036854775807 := by unfold maxLen at hcm; omega
    have hbl : len ≤ uptoBulk x.1 := by
      have := bulk_len (elems.map (·.1))
      rw [List.length_map, hlen] at this
      rw [hx]
      simp only [uptoBulk]
      omega
    refine ⟨some a, len, cap, hv, hmx, hbl, (fun e => by cases e), fun i hi => ?_⟩
    have hi' := hel i hi
    rw [List.getElem?_eq_getElem (by omega)] at hi'
    obtain ⟨cs', hc, ht'⟩ := Option.bind_eq_some_iff.1 hi'
    obtain ⟨_, hl', hcell⟩ := World.cells?_some hc
    have hlt : (a.add (i * Tryz.prog.cellsOf e)).block < w.heap.size := World.cells?_block hc hk0
    have hbe : uptoBulk (elems[i]'(by omega)).1 ≤ uptoBulk x.1 := by
      have := bulk_mem (l := elems.map (·.1)) (List.mem_map.2 ⟨elems[i]'(by omega), List.getElem_mem _, rfl⟩)
      rw [hx]
      simp only [uptoBulk]
      omega
    obtain ⟨b, o, s0⟩ := a
    have hsn : s0 = none := by
      have h0' := hel 0 (by omega)
      rw [List.getElem?_eq_getElem (by omega)] at h0'
      obtain ⟨cs0, hc0, _⟩ := Option.bind_eq_some_iff.1 h0'
      obtain ⟨_, hl0, hcell0⟩ := World.cells?_some hc0
      have q := hcell0 0 hk0
      rw [List.getElem?_eq_getElem (by omega), Nat.zero_mul] at q
      have e : ((⟨b, o, s0⟩ : Addr).add 0).add 0 = ⟨b, o, s0⟩ := rfl
      rw [e] at q
      have := add_none q
      injection this
    subst hsn
    rw [add_at] at hlt
    refine ⟨b, o, n, cs', _, hfuel, rfl, hlt, ht', hbe, fun j v hj => ?_⟩
    have hjl : j < Tryz.prog.cellsOf e := by
      have := (List.getElem?_eq_some_iff.1 hj).1
      omega
    have := hcell j hjl
    rw [add_at, add_at] at this
    exact this.trans hj

theorem cellsOf72 : Tryz.prog.cellsOf 72 = 12 := by kernel_rfl

set_option maxRecDepth 100000 in
/-- One tree that is read. -/
theorem tr_cells {fuel : Nat} {cs : List Value} {y : DataW H × List MemPlace} (h : DataW.trod enc Tryz.prog w base sp held fuel 72 cs = some y) (hB : uptoBulk y.1 ≤ 1048576) :
    ∃ (X : TrC) (n : Nat) (z : DataW H × List MemPlace), fuel = n + 1 ∧ cs = X.cells ∧ (∀ L, w.heap.size ≤ L → TrOk 69 L w X) ∧ DataW.trod enc Tryz.prog w base sp held n 35 [.slice X.ka X.kl X.kc] = some z ∧ uptoBulk z.1 ≤ 1048576 := by
  obtain ⟨xs, n, hfuel, hy, hlen, hxl, hf⟩ := DataW.trod_struct Tryz.underlying72 h
  rw [cellsOf72] at hlen
  match cs, hlen with
  | [c0, c1, c2, c3, c4, c5, c6, c7, c8, c9, c10, c11], _ =>
    have c1o : Tryz.prog.cellsOf 3 = 1 := by kernel_rfl
    have c2o : Tryz.prog.cellsOf 2 = 1 := by kernel_rfl
    have c9o : Tryz.prog.cellsOf 9 = 1 := by kernel_rfl
    have c34o : Tryz.prog.cellsOf 34 = 1 := by kernel_rfl
    have c35o : Tryz.prog.cellsOf 35 = 1 := by kernel_rfl
    match xs, hxl with
    | [x0, x1, x2, x3, x4, x5, x6, x7], _ =>
      have f0 := hf 0 _ rfl
      have f1 := hf 1 _ rfl
      have f2 := hf 2 _ rfl
      have f3 := hf 3 _ rfl
      have f4 := hf 4 _ rfl
      have f5 := hf 5 _ rfl
      have f6 := hf 6 _ rfl
      have f7 := hf 7 _ rfl
      simp [c1o, c2o, c9o, c34o, c35o, cellsOf59] at f0 f1 f2 f3 f4 f5 f6 f7
      have hB' : uptoBulkAll [x0.1, x1.1, x2.1, x3.1, x4.1, x5.1, x6.1, x7.1] + 1 ≤ 1048576 := by
        rw [hy] at hB
        simpa [uptoBulk] using hB
      have b5 : uptoBulk x5.1 ≤ 1048576 := by
        have := bulk_mem (l := [x0.1, x1.1, x2.1, x3.1, x4.1, x5.1, x6.1, x7.1]) (d := x5.1) (by simp)
        omega
      have b6 : uptoBulk x6.1 ≤ 1048576 := by
        have := bulk_mem (l := [x0.1, x1.1, x2.1, x3.1, x4.1, x5.1, x6.1, x7.1]) (d := x6.1) (by simp)
        omega
      obtain ⟨k0, rfl⟩ := cell_int Tryz.underlying3 f0
      obtain ⟨k1, rfl⟩ := cell_int Tryz.underlying3 f1
      obtain ⟨k2, rfl⟩ := cell_int Tryz.underlying2 f2
      obtain ⟨k3, rfl, hs⟩ := cell_str Tryz.underlying9 f3
      obtain ⟨t0, t1, t3, t2, vt, m, zt, _, ht, hts, hta⟩ := ty_cells f4
      obtain ⟨ta, tl, tc, rfl, _, _, hta'⟩ := ty_open _ _ _ hta
      obtain ⟨la, ll, lc, rfl, _, hnil, hla⟩ := ty_open _ _ _ f5
      obtain ⟨la2, ll2, lc2, e2, _, hll, _, _⟩ := sl_open Tryz.underlying34 cellsOf59 (by omega) f5
      injection e2 with e2a e2b e2c
      obtain ⟨ka, kl, kc, rfl, _, _, _, _⟩ := sl_open Tryz.underlying35 cellsOf72 (by omega) f6
      obtain ⟨k7, rfl⟩ := cell_int Tryz.underlying3 f7
      injection ht with h4 ht
      injection ht with h5 ht
      injection ht with h6 ht
      injection ht with h7 ht
      injection ht with h8 ht
      subst h4 h5 h6 h7 h8
      exact ⟨⟨k0, k1, k2, k3, t0, t1, t2, t3, ta, tl, tc, la, ll, lc, ka, kl, kc, k7⟩, n, x6, hfuel, rfl, fun L hL => ⟨hs, hts, hta' 69 L hL, hla (69 + 1) L hL, by show ll ≤ 1048576; omega, fun e => (hnil e).2⟩, f6, b6⟩

set_option maxRecDepth 100000 in
/-- A list of trees that is read lies there, to every depth. -/
theorem tr_open : ∀ (fuel : Nat) (v : Value) (x : DataW H × List MemPlace), DataW.trod enc Tryz.prog w base sp held fuel 35 [v] = some x → uptoBulk x.1 ≤ 1048576 →
    ∃ a n c, v = .slice a n c ∧ n ≤ 9223372036854775807 ∧ ∀ d L, w.heap.size ≤ L → TrRow 69 d L w a n := by
  intro fuel
  induction fuel using Nat.strongRecOn with
  | ind fuel ih =>
  intro v x h hB
  obtain ⟨a, n, c, hv, hn, _, _, hel⟩ := sl_open Tryz.underlying35 cellsOf72 (by omega) h
  refine ⟨a, n, c, hv, hn, fun d L hL => ?_⟩
  cases d with
  | zero => trivial
  | succ d =>
    refine ⟨hn, fun i hi => ?_⟩
    obtain ⟨b, o, m, cs, y, hm, ha, hb, ht, hby, hcell⟩ := hel i hi
    obtain ⟨X, m2, z, hm2, rfl, hok, hk, hbz⟩ := tr_cells ht (by omega)
    obtain ⟨ka, kl, kc, e, _, hrow⟩ := ih m2 (by omega) _ z hk hbz
    injection e with e1 e2 e3
    refine ⟨b, o, X, ⟨ha, by omega, hb, hcell 0 _ rfl, hcell 1 _ rfl, hcell 2 _ rfl, hcell 3 _ rfl, hcell 4 _ rfl, hcell 5 _ rfl, hcell 6 _ rfl, hcell 7 _ rfl, hcell 8 _ rfl, hcell 9 _ rfl, hcell 10 _ rfl, hcell 11 _ rfl⟩, hok L hL, ?_⟩
    rw [e1, e2]
    exact hrow d L hL
end
end Go.Proofs.YtjhedehhanaokaaGreatDoor
