/- A list of classes copied. -/
import Derived.Test.YtkjjieloncdjhaaGreatDoorL18
import Derived.Laws.OwnMore
namespace Go.Proofs.YtkjjieloncdjhaaGreatDoor
open Go Go.RowKit

abbrev clA (nm : ByteArray) (pa : Nat) : List Value := [Value.string nm, i64 1, i64 0, i64 (-1), nilS, sl pa 1, nilS, nilS, nilS, nilS, nilS, nilS, i64 0]
abbrev clB (pb : Nat) : List Value := [Value.string nmB, i64 2, i64 0, i64 (-1), nilS, sl pb 2, nilS, nilS, nilS, nilS, nilS, nilS, i64 0]
abbrev clC (pc : Nat) : List Value := [Value.string nmC, i64 0, i64 0, i64 1, nilS, sl pc 1, nilS, nilS, nilS, nilS, nilS, nilS, i64 0]
abbrev cl3 (nm : ByteArray) (pa pb pc : Nat) : List Value := clA nm pa ++ (clB pb ++ clC pc)
abbrev tyL : List Value := [i64 1, i64 0, Value.string ⟨#[]⟩, i64 0, nilS]
abbrev tyL2 : List Value := [i64 1, i64 0, Value.string ⟨#[]⟩, i64 0, nilS, i64 10, i64 0, Value.string ⟨#[]⟩, i64 0, nilS]

theorem cl3_0 {nm : ByteArray} {pa pb pc j : Nat} {v : Value} (h : (clA nm pa)[j]? = some v) : (cl3 nm pa pb pc)[j]? = some v := by
  have hj : j < 13 := (List.getElem?_eq_some_iff.1 h).1
  rw [List.getElem?_append_left (by simpa using hj)]
  exact h
theorem cl3_1 {nm : ByteArray} {pa pb pc j : Nat} {v : Value} (h : (clB pb)[j]? = some v) : (cl3 nm pa pb pc)[13 + j]? = some v := by
  have hj : j < 13 := (List.getElem?_eq_some_iff.1 h).1
  rw [List.getElem?_append_right (by simp), List.getElem?_append_left (by simp; omega)]
  rw [show 13 + j - (clA nm pa).length = j from by simp]
  exact h
theorem cl3_2 {nm : ByteArray} {pa pb pc j : Nat} {v : Value} (h : (clC pc)[j]? = some v) : (cl3 nm pa pb pc)[26 + j]? = some v := by
  have hj : j < 13 := (List.getElem?_eq_some_iff.1 h).1
  rw [List.getElem?_append_right (by simp; omega), List.getElem?_append_right (by simp; omega)]
  rw [show 26 + j - (clA nm pa).length - (clB pb).length = j from by simp; omega]
  exact h

/-- Three classes lie in memory where their cells and the rows of their parents do. -/
theorem PW.of_cells {w : World} {b pa pb pc : Nat} {nm : ByteArray} (hb : b < w.heap.size) (hc : ∀ j v, (cl3 nm pa pb pc)[j]? = some v → w.cell? ⟨b, j, none⟩ = some v) (ha : Bl w pa 59 tyL) (h2 : Bl w pb 59 tyL2) (h3 : Bl w pc 59 tyL) : PW w b nm pa pb pc :=
  ⟨hb, ha.lt, h2.lt, h3.lt, fun j v e => hc j v (cl3_0 e), fun _ v e => hc _ v (cl3_1 e), fun _ v e => hc _ v (cl3_2 e), fun j _ e => (ha.cell j).trans e, fun j _ e => (h2.cell j).trans e, fun j _ e => (h3.cell j).trans e⟩

theorem infoCls : (Tryz.prog.info? 37).map (fun i => (i.zero, i.size, i.bytes)) = some (some (.agg #[.string ⟨#[]⟩, i64 0, i64 0, i64 0, nilS, nilS, nilS, nilS, nilS, nilS, nilS, nilS, i64 0]), 13, 240) := by kernel_rfl

theorem cl3_one {nm : ByteArray} {pa pb pc : Nat} : ∀ u ∈ cl3 nm pa pb pc, u.oneCell' = true := by
  intro u hu
  have : u.oneCell' = true ∨ u ∉ cl3 nm pa pb pc := by
    by_cases h : u ∈ cl3 nm pa pb pc
    · left
      simp only [cl3, clA, clB, clC, List.cons_append, List.nil_append, List.mem_cons, List.mem_nil_iff, or_false] at h
      rcases h with h | h | h | h | h | h | h | h | h | h | h | h | h | h | h | h | h | h | h | h | h | h | h | h | h | h | h | h | h | h | h | h | h | h | h | h | h | h | h <;> subst h <;> rfl
    · exact .inr h
  exact this.resolve_right (fun h => h hu)

theorem news3 {w : World} {b : Nat} {L : List Value} (hb : Bl w b 37 L) : ∀ j u, L[j]? = some u → w.cell? ((⟨b, 0, none⟩ : Addr).add j) = some u := by
  intro j u hu
  have hadd : (⟨b, 0, none⟩ : Addr).add j = ⟨b, j, none⟩ := by unfold Addr.add; split <;> simp_all
  rw [hadd, hb.cell j]
  exact hu

set_option maxRecDepth 100000 in
set_option maxHeartbeats 2000000 in
theorem clone_any (b pa pb pc : Nat) (nm : ByteArray) (w : World) (hb : Bl w b 37 (cl3 nm pa pb pc)) :
    Calls Tryz.prog 33 #[.slice (some ⟨b, 0, none⟩) 3 3] w fun e w' => (∃ v, e = .returned v ∧ w'.ownsRow w.heap.size 37 13 v 3 (cl3 nm pa pb pc)) ∧ Below w.heap.size w w' := by
  obtain ⟨i0, hi0, hz0, hz1, hz2⟩ := info_parts infoCls
  have HB := Lib.hid hb
  clear hb
  go_enter Tryz.func33, Tryz.ntmps33
  have HN : ∀ (w1 : World), (Go.binOp .eql 24 (Value.slice (some ⟨b, 0, none⟩) 3 3) (Value.slice none 0 0)).run Tryz.prog w1 = .ok (.bool false) w1 := fun w1 => Lib.run_eql_slice_nil w1 24 37 _ _ _ _ _ Tryz.underlying24
  go_wp2_with (at_builtin; refine wpList_append_own _ rfl _ _ 24 rfl w.heap.size 37 i0 _ 13 240 Tryz.underlying24 hi0 hz0 hz1 hz2 rfl (by decide) _ _ _ rfl (World.ownsRow_lit (base := w.heap.size) (e := 37) (size := 13) w #[] 0 (Nat.le_refl _) (by unfold maxLen; omega) rfl) ⟨b, 0, none⟩ 3 3 (cl3 nm pa pb pc) rfl rfl (news3 (HB.out.alloc _)) cl3_one (by unfold maxLen; omega) (by omega) (by simp) ?_)
  intro v' w3 hown3 hgrow3 _
  have BW : Below w.heap.size w w3 := ((Below.refl _ _).alloc (Nat.le_refl _) _).grown hgrow3 (by simp) (by intro k e; cases e; exact Nat.le_refl _)
  have BW1 := Lib.hid BW
  have O3 := Lib.hid hown3
  clear BW hown3 hgrow3
  go_wp2_with fail
  go_ret
  exact ⟨⟨_, rfl, O3.out⟩, BW1.out⟩
end Go.Proofs.YtkjjieloncdjhaaGreatDoor
