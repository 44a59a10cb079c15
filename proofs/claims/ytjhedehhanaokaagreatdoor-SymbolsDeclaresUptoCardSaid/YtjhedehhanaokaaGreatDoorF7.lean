/- A list of types appended to a new list of one. -/
import Derived.Test.YtjhedehhanaokaaGreatDoorF5
import Derived.Deep.AppendLies
namespace Go.Proofs.YtjhedehhanaokaaGreatDoor
open Go Go.RowKit

abbrev tyC (kd sy nu : Int) (nm : ByteArray) (a : Option Addr) (n c : Nat) : List Value := [.int .i64 kd, .int .i64 sy, .string nm, .int .i64 nu, .slice a n c]

theorem infoTy : (Tryz.prog.info? 59).map (fun i => (i.zero, i.size, i.bytes)) = some (some (.agg #[.int .i64 0, .int .i64 0, .string ⟨#[]⟩, .int .i64 0, .slice none 0 0]), 5, 64) := by kernel_rfl

/-- The cells of a list of n types, one behind the other. -/
theorem TyRow.cells {d L : Nat} {w : World} : ∀ {n : Nat} {a : Option Addr}, TyRow (d + 1) L w a n → ∃ l : List Value, l.length = n * 5 ∧ (∀ u ∈ l, u.oneCell' = true) ∧ (∀ b o, a = some ⟨b, o, none⟩ → ∀ j u, l[j]? = some u → w.cell? ⟨b, o + j, none⟩ = some u) ∧
    ∀ i, i < n → ∃ (kd sy nu : Int) (nm : ByteArray) (a' : Option Addr) (n' c' : Nat), nm.size ≤ 9223372036854775807 ∧ TyRow d L w a' n' ∧ ∀ j v, (tyC kd sy nu nm a' n' c')[j]? = some v → l[i * 5 + j]? = some v
  | 0, a, _ => ⟨[], rfl, by simp, by simp, fun i hi => absurd hi (by omega)⟩
  | n + 1, a, h => by
    obtain ⟨l, hl, h1, hc, hr⟩ := TyRow.cells (n := n) (a := a) ⟨by have := h.1; omega, fun i hi => h.2 i (by omega)⟩
    obtain ⟨b, o, kd, sy, nu, nm, a', n', c', hA, hnm, hr'⟩ := h.2 n (by omega)
    refine ⟨l ++ tyC kd sy nu nm a' n' c', by simp [hl]; omega, ?_, ?_, ?_⟩
    · intro u hu
      rcases List.mem_append.1 hu with hu | hu
      · exact h1 u hu
      · simp only [List.mem_cons, List.mem_nil_iff, or_false] at hu
        rcases hu with rfl | rfl | rfl | rfl | rfl <;> rfl
    · intro b1 o1 e j u hu
      by_cases hj : j < l.length
      · rw [List.getElem?_append_left hj] at hu
        exact hc b1 o1 e j u hu
      · rw [List.getElem?_append_right (by omega)] at hu
        have e2 : b1 = b ∧ o1 = o := by
          have := e.symm.trans hA.ad
          simpa using this
        obtain ⟨rfl, rfl⟩ := e2
        have hj5 : j - l.length < 5 := by
          have := (List.getElem?_eq_some_iff.1 hu).1
          simpa using this
        have ej : j = n * 5 + (j - l.length) := by omega
        generalize hk : j - l.length = k at *
        rw [ej]
        match k, hu with
        | 0, hu => simp at hu; subst hu; exact hA.k0
        | 1, hu => simp at hu; subst hu; exact hA.k1
        | 2, hu => simp at hu; subst hu; exact hA.k2
        | 3, hu => simp at hu; subst hu; exact hA.k3
        | 4, hu => simp at hu; subst hu; exact hA.k4
        | k + 5, _ => omega
    · intro i hi
      by_cases hin : i < n
      · obtain ⟨kd2, sy2, nu2, nm2, a2, n2, c2, g1, g2, g3⟩ := hr i hin
        refine ⟨kd2, sy2, nu2, nm2, a2, n2, c2, g1, g2, fun j v hv => ?_⟩
        have := g3 j v hv
        have hlt : i * 5 + j < l.length := (List.getElem?_eq_some_iff.1 this).1
        rw [List.getElem?_append_left hlt]
        exact this
      · obtain rfl : i = n := by omega
        refine ⟨kd, sy, nu, nm, a', n', c', hnm, hr', fun j v hv => ?_⟩
        rw [List.getElem?_append_right (by omega), show i * 5 + j - l.length = j from by omega]
        exact hv

/-- A row of one's own that holds the cells of types is a list of types. -/
theorem TyRow.of_row {d L base g n cap : Nat} {w : World} {l : List Value} (h : w.ownsRow base 59 5 (.slice (some ⟨g, 0, none⟩) n cap) n l) (hn : n ≤ 9223372036854775807) (hg : g ≠ L) (hlt : g < w.heap.size)
    (hr : ∀ i, i < n → ∃ (kd sy nu : Int) (nm : ByteArray) (a' : Option Addr) (n' c' : Nat), nm.size ≤ 9223372036854775807 ∧ TyRow d L w a' n' ∧ ∀ j v, (tyC kd sy nu nm a' n' c')[j]? = some v → l[i * 5 + j]? = some v) :
    TyRow (d + 1) L w (some ⟨g, 0, none⟩) n := by
  refine ⟨hn, fun i hi => ?_⟩
  obtain ⟨kd, sy, nu, nm, a', n', c', h1, h2, h3⟩ := hr i hi
  have hc : ∀ j v, (tyC kd sy nu nm a' n' c')[j]? = some v → w.cell? ⟨g, 0 + (i * 5 + j), none⟩ = some v := fun j v hv => by
    have hj : j < 5 := by
      have := (List.getElem?_eq_some_iff.1 hv).1
      simpa using this
    rw [Nat.zero_add]
    exact (h.cellAt (i * 5 + j) (by omega)).trans (h3 j v hv)
  have e : ∀ j, 0 + (i * 5 + j) = 0 + i * 5 + j := fun j => by omega
  refine ⟨g, 0, kd, sy, nu, nm, a', n', c', ⟨rfl, hg, hlt, ?_, ?_, ?_, ?_, ?_⟩, h1, h2⟩
  · have := hc 0 _ rfl; rw [e] at this; exact this
  · have := hc 1 _ rfl; rw [e] at this; exact this
  · have := hc 2 _ rfl; rw [e] at this; exact this
  · have := hc 3 _ rfl; rw [e] at this; exact this
  · have := hc 4 _ rfl; rw [e] at this; exact this
end Go.Proofs.YtjhedehhanaokaaGreatDoor
