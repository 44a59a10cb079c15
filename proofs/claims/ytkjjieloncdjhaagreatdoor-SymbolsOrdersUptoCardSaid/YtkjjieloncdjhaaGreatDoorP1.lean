/- The classes around a class are closed: being inside is transitive. -/
import Derived.Test.YtkjjieloncdjhaaGreatDoorV1
namespace Go.Proofs.YtkjjieloncdjhaaGreatDoor
open Go

/-- The owner of a class that is one. -/
def stp (ows : List Int) (a : Int) : Option Int := if 0 ≤ a ∧ a < ows.length then (if 0 ≤ ows.getD a.toNat 0 ∧ ows.getD a.toNat 0 < ows.length then some (ows.getD a.toNat 0) else none) else none
def itr (ows : List Int) : Nat → Int → Option Int
  | 0, a => some a
  | k + 1, a => (itr ows k a).bind (stp ows)
theorem stp_rng {ows : List Int} {a b : Int} (h : stp ows a = some b) : 0 ≤ b ∧ b < ows.length := by
  unfold stp at h
  split at h
  · split at h
    · rename_i h2
      cases h
      exact h2
    · cases h
  · cases h
theorem itr_shift (ows : List Int) : ∀ (k : Nat) (a : Int), itr ows (k + 1) a = (stp ows a).bind (itr ows k)
  | 0, a => by simp [itr]
  | k + 1, a => by
    rw [itr, itr_shift ows k a]
    cases stp ows a with
    | none => rfl
    | some b => rfl
theorem itr_add (ows : List Int) (p d : Nat) (a : Int) : itr ows (p + d) a = (itr ows p a).bind (itr ows d) := by
  induction d with
  | zero => cases itr ows p a <;> rfl
  | succ d ih =>
    rw [← Nat.add_assoc, itr, ih]
    cases itr ows p a <;> rfl
theorem chain_stp (ows : List Int) (k : Nat) (a : Int) : chain ows (k + 1) a = (match stp ows a with | none => [] | some o => o :: chain ows k o) := by
  unfold stp
  rw [chain]
  split
  · split <;> rfl
  · rfl
theorem chain_mem (ows : List Int) : ∀ (k : Nat) (a x : Int), x ∈ chain ows k a ↔ ∃ i, 1 ≤ i ∧ i ≤ k ∧ itr ows i a = some x
  | 0, a, x => by
    simp only [chain, List.not_mem_nil, false_iff]
    rintro ⟨i, h1, h2, _⟩
    omega
  | k + 1, a, x => by
    rw [chain_stp]
    cases hs : stp ows a with
    | none =>
      simp only [List.not_mem_nil, false_iff]
      rintro ⟨i, h1, h2, h3⟩
      obtain ⟨j, rfl⟩ : ∃ j, i = j + 1 := ⟨i - 1, by omega⟩
      rw [itr_shift, hs] at h3
      cases h3
    | some o =>
      simp only [List.mem_cons]
      rw [chain_mem ows k o x]
      constructor
      · rintro (rfl | ⟨i, h1, h2, h3⟩)
        · exact ⟨1, by omega, by omega, by rw [itr_shift, hs]; rfl⟩
        · exact ⟨i + 1, by omega, by omega, by rw [itr_shift, hs]; exact h3⟩
      · rintro ⟨i, h1, h2, h3⟩
        obtain ⟨j, rfl⟩ : ∃ j, i = j + 1 := ⟨i - 1, by omega⟩
        rw [itr_shift, hs] at h3
        cases j with
        | zero =>
          left
          simpa [itr] using h3.symm
        | succ j => exact .inr ⟨j + 1, by omega, by omega, h3⟩
theorem itr_some {ows : List Int} {m p : Nat} {a x : Int} (h : itr ows m a = some x) (hp : p ≤ m) : ∃ y, itr ows p a = some y := by
  obtain ⟨d, rfl⟩ : ∃ d, m = p + d := ⟨m - p, by omega⟩
  rw [itr_add] at h
  cases hy : itr ows p a with
  | none => rw [hy] at h; cases h
  | some y => exact ⟨y, rfl⟩
theorem itr_rng {ows : List Int} {m : Nat} {a x : Int} (h : itr ows (m + 1) a = some x) : 0 ≤ x ∧ x < ows.length := by
  rw [itr] at h
  cases hy : itr ows m a with
  | none => rw [hy] at h; cases h
  | some y =>
    rw [hy] at h
    exact stp_rng h

/-- What is around a class around it is around it. -/
theorem chain_closed {ows : List Int} {a x y : Int} (h : x ∈ chain ows ows.length a) (hy : stp ows x = some y) : y ∈ chain ows ows.length a := by
  obtain ⟨m, h1, h2, h3⟩ := (chain_mem ows _ a x).1 h
  have h4 : itr ows (m + 1) a = some y := by
    rw [itr, h3]
    exact hy
  by_cases hm : m + 1 ≤ ows.length
  · exact (chain_mem ows _ a y).2 ⟨m + 1, by omega, hm, h4⟩
  · have hmn : m = ows.length := by omega
    have hv : ∀ i, i ≤ m → ∃ z, itr ows (i + 1) a = some z := fun i hi => itr_some h4 (by omega)
    let f : Nat → Int := fun i => if hi : i ≤ m then Classical.choose (hv i hi) else 0
    have hf : ∀ i, i ≤ m → itr ows (i + 1) a = some (f i) := fun i hi => by
      show _ = some (if hi : i ≤ m then Classical.choose (hv i hi) else 0)
      rw [dif_pos hi]
      exact Classical.choose_spec (hv i hi)
    have hdup : ∃ i j, i < j ∧ j ≤ m ∧ f i = f j := by
      apply Classical.byContradiction
      intro hno
      have hnd : ((List.range (m + 1)).map f).Nodup := by
        unfold List.Nodup
        rw [List.pairwise_map]
        refine List.Pairwise.imp_of_mem ?_ (List.pairwise_lt_range (n := m + 1))
        intro i j hi hj hlt e
        rw [List.mem_range] at hi hj
        exact hno ⟨i, j, hlt, by omega, e⟩
      have hle := nodup_le (n := ows.length) hnd (fun z hz => by
        obtain ⟨i, hi, rfl⟩ := List.mem_map.1 hz
        rw [List.mem_range] at hi
        exact inR_iff.2 (itr_rng (hf i (by omega))))
      simp at hle
      omega
    obtain ⟨i, j, hij, hj, e⟩ := hdup
    have e1 : itr ows (i + 1) a = itr ows (j + 1) a := by rw [hf i (by omega), hf j hj, e]
    have e2 : itr ows ((i + 1) + (m - j)) a = itr ows ((j + 1) + (m - j)) a := by rw [itr_add ows (i + 1), itr_add ows (j + 1), e1]
    rw [show (j + 1) + (m - j) = m + 1 from by omega, h4] at e2
    exact (chain_mem ows _ a y).2 ⟨(i + 1) + (m - j), by omega, by omega, e2⟩

theorem chain_trans {ows : List Int} {a b c : Int} (h : b ∈ chain ows ows.length a) (k : c ∈ chain ows ows.length b) : c ∈ chain ows ows.length a := by
  obtain ⟨m, h1, _, h3⟩ := (chain_mem ows _ b c).1 k
  clear k
  have : ∀ (m : Nat) (c : Int), itr ows m b = some c → 1 ≤ m → c ∈ chain ows ows.length a := by
    intro m
    induction m with
    | zero => intro c _ h; omega
    | succ m ih =>
      intro c hc _
      rw [itr] at hc
      cases hy : itr ows m b with
      | none => rw [hy] at hc; cases hc
      | some y =>
        rw [hy] at hc
        cases m with
        | zero =>
          have e : y = b := by simpa [itr] using hy.symm
          subst e
          exact chain_closed h hc
        | succ m => exact chain_closed (ih y hy (by omega)) hc
  exact this m c h3 h1
end Go.Proofs.YtkjjieloncdjhaaGreatDoor
