/- Lists of numbers; the classes of parents. -/
import Derived.Test.YtkjjieloncdjhaaGreatDoorL1
namespace Go.Proofs.YtkjjieloncdjhaaGreatDoor
open Go Go.RowKit

abbrev i64 (n : Int) : Value := .int .i64 n

/-- A slice of numbers in memory. -/
def Nums (w : World) (A : Option Addr) (n : Nat) (xs : List Int) : Prop := n = xs.length ∧ (0 < n → ∃ g o, A = some ⟨g, o, none⟩ ∧ ∀ k, k < n → w.cell? ⟨g, o + k, none⟩ = some (.int .i64 (xs.getD k 0)))

def IdxRes (xs : List Int) (x : Int) (w : World) (e : Ending) (w' : World) : Prop := ∃ r : Int, e = .returned (.int .i64 r) ∧ (0 ≤ r ↔ x ∈ xs) ∧ w = w'

theorem take_none {xs : List Int} {x : Int} {k : Nat} (h : ∀ y ∈ xs.take k, y ≠ x) (hk : k < xs.length) (hne : xs.getD k 0 ≠ x) : ∀ y ∈ xs.take (k + 1), y ≠ x := by
  intro y hy
  rw [List.take_succ_eq_append_getElem hk] at hy
  rcases List.mem_append.1 hy with h1 | h1
  · exact h y h1
  · simp at h1
    subst h1
    rw [List.getD_eq_getElem?_getD, List.getElem?_eq_getElem hk] at hne
    exact hne

set_option maxHeartbeats 1000000 in
theorem index_any (A : Option Addr) (n c : Nat) (xs : List Int) (x : Int) (w : World) (hn : n ≤ 1048576) (h : Nums w A n xs) : Calls Tryz.prog 65 #[.slice A n c, .int .i64 x] w (IdxRes xs x w) := by
  obtain ⟨hl, hc⟩ := h
  have HL := Lib.hid hl
  rcases Nat.eq_zero_or_pos n with h0 | hpos
  · subst h0
    clear hc hl
    go_enter Tryz.func65, Tryz.ntmps65
    go_wp2_with fail
    refine wp_loop_rounds 1 ?_
    rw [rounds_succ]
    go_wp2_with fail
    go_ret
    exact ⟨-1, rfl, by
      have : xs = [] := List.eq_nil_of_length_eq_zero HL.out.symm
      simp [this], rfl⟩
  · obtain ⟨g, o, rfl, hcell⟩ := hc hpos
    have HC := Lib.hid hcell
    clear hc hcell hl
    go_enter Tryz.func65, Tryz.ntmps65
    go_wp2_with fail
    go_loop [8] (fun i => ∃ k : Nat, k ≤ n ∧ i = .int .i64 k ∧ ∀ y ∈ xs.take k, y ≠ x) (fun i => n - (intOf i).toNat)
    case atStart => exact ⟨0, by omega, rfl, by simp⟩
    case round =>
      obtain ⟨k, hk, rfl, hy⟩ := hrel
      have HY := Lib.hid hy
      clear hy
      by_cases hlt : k < n
      · have hck := HC.out k hlt
        have HM := Lib.hid (show xs.getD k 0 ∈ xs from by
          rw [List.getD_eq_getElem?_getD, List.getElem?_eq_getElem (by rw [← HL.out]; exact hlt)]
          exact List.getElem_mem _)
        have HT := Lib.hid (take_none HY.out (by rw [← HL.out]; exact hlt))
        generalize xs.getD k 0 = v at *
        by_cases hv : x = v
        · subst hv
          go_wp2_with fail
          go_ret
          exact ⟨k, rfl, ⟨fun _ => HM.out, fun _ => by omega⟩, rfl⟩
        · have hv' : (x == v) = false := by simpa using hv
          have HT2 := Lib.hid (HT.out (fun e => hv e.symm))
          clear HT
          go_wp2_with fail
          go_round
          case rel => exact ⟨k + 1, by omega, by go_num, HT2.out⟩
          case measure => simp [intOf]; omega
      · have hkn : k = n := by omega
        subst hkn
        go_wp2_with fail
        go_ret
        refine ⟨-1, rfl, ⟨fun h => absurd h (by decide), fun hx => ?_⟩, rfl⟩
        exact absurd rfl (HY.out x (by rw [HL.out, List.take_length]; exact hx))

theorem contains_any (A : Option Addr) (n c : Nat) (xs : List Int) (x : Int) (w : World) (hn : n ≤ 1048576) (h : Nums w A n xs) : Calls Tryz.prog 31 #[.slice A n c, .int .i64 x] w fun e w' => e = .returned (.bool (decide (x ∈ xs))) ∧ w = w' := by
  have C := Lib.hid (index_any A n c xs x w hn h)
  clear h
  go_enter Tryz.func31, Tryz.ntmps31
  go_wp2_with fail
  refine C.out.mono ?_
  rintro e w1 ⟨r, rfl, hr, rfl⟩
  have HR := Lib.hid (show decide (0 ≤ r) = decide (x ∈ xs) from decide_eq_decide.2 hr)
  clear hr
  go_wp2_with fail
  go_ret
  exact ⟨congrArg (fun b => Ending.returned (.bool b)) HR.out, rfl⟩

/-- A type: its kind, its symbol, its name, its number, its arguments. -/
structure Ty where
  kd : Int
  sy : Int
  nm : ByteArray
  nu : Int
  aa : Option Addr
  an : Nat
  ac : Nat
/-- Types in memory. -/
def Tys (w : World) (B g o : Nat) (ts : List Ty) : Prop := g < B ∧ ∀ (k : Nat) (t : Ty), ts[k]? = some t →
  w.cell? ⟨g, o + k * 5, none⟩ = some (.int .i64 t.kd) ∧ w.cell? ⟨g, o + k * 5 + 1, none⟩ = some (.int .i64 t.sy) ∧ w.cell? ⟨g, o + k * 5 + 2, none⟩ = some (.string t.nm) ∧ w.cell? ⟨g, o + k * 5 + 3, none⟩ = some (.int .i64 t.nu) ∧ w.cell? ⟨g, o + k * 5 + 4, none⟩ = some (.slice t.aa t.an t.ac)
theorem Tys.below {w w' : World} {B B' g o : Nat} {ts : List Ty} (h : Tys w B g o ts) (hB : Below B w w') (hs : B ≤ B') : Tys w' B' g o ts :=
  ⟨Nat.lt_of_lt_of_le h.1 hs, fun k t ht => by
    obtain ⟨a, b, c, d, e⟩ := h.2 k t ht
    exact ⟨(hB.cell (p := ⟨g, _, none⟩) h.1).trans a, (hB.cell (p := ⟨g, _, none⟩) h.1).trans b, (hB.cell (p := ⟨g, _, none⟩) h.1).trans c, (hB.cell (p := ⟨g, _, none⟩) h.1).trans d, (hB.cell (p := ⟨g, _, none⟩) h.1).trans e⟩⟩

/-- The classes among types. -/
def symsOf (ts : List Ty) : List Int := (ts.filter (fun t => t.kd == 10)).map (·.sy)
theorem symsOf_snoc (ts : List Ty) (t : Ty) : symsOf (ts ++ [t]) = symsOf ts ++ (if t.kd == 10 then [t.sy] else []) := by
  unfold symsOf
  rw [List.filter_append, List.map_append]
  by_cases h : t.kd == 10
  · simp [h]
  · simp [h]
theorem symsOf_le (ts : List Ty) : (symsOf ts).length ≤ ts.length := by
  unfold symsOf
  rw [List.length_map]
  exact List.length_filter_le _ _

theorem infoInt : (Tryz.prog.info? 3).map (fun i => (i.zero, i.size, i.bytes)) = some (some (.int .i64 0), 1, 8) := by kernel_rfl
end Go.Proofs.YtkjjieloncdjhaaGreatDoor
