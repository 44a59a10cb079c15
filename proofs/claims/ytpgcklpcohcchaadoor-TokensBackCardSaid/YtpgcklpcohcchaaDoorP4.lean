/- Two texts that agree between two places: the reader's runs, characters and escapes. Two texts that agree between two places: what stands between tokens, and one step of the reader. Two texts that agree between two places: one step of the reader. Two texts that agree between two places: one step of the reader, whole. -/
import Derived.Test.YtpgcklpcohcchaaDoorS20
namespace Go.Proofs.YtpgcklpcohcchaaDoor
open Go Go.RowKit

/-- From a up to e the text s' has d bytes further on what s has. -/
def Ag (s s' : ByteArray) (d a e : Nat) : Prop := ∀ i, a ≤ i → i < e → pk s' (i + d) = pk s i
/-- At e both go on alike, or s' has a blank. -/
def Bd (s s' : ByteArray) (d e : Nat) : Prop := (pk s' (e + d) = pk s e ∧ comB s' (e + d) = comB s e) ∨ pk s' (e + d) = 32

theorem Ag.sub {s s' : ByteArray} {d a e a' e' : Nat} (h : Ag s s' d a e) (h1 : a ≤ a') (h2 : e' ≤ e) : Ag s s' d a' e' := fun i h3 h4 => h i (by omega) (by omega)
theorem Bd.cls {s s' : ByteArray} {d e : Nat} (h : Bd s s' d e) : pk s' (e + d) = pk s e ∨ pk s' (e + d) = 32 := h.elim (fun h => .inl h.1) .inr
theorem pk_pos {s : ByteArray} {i : Nat} (h : i < s.size) : pk s i = s[i] := pk_lt h

/-- A run of places that have a property. -/
def runTo (P : Nat → Bool) : Nat → Nat → Nat
  | 0, a => a
  | f + 1, a => if P a then runTo P f (a + 1) else a
theorem runTo_all {P : Nat → Bool} : ∀ (f a i : Nat), a ≤ i → i < runTo P f a → P i = true := by
  intro f
  induction f with
  | zero => intro a i h1 h2; simp [runTo] at h2; omega
  | succ f ih =>
    intro a i h1 h2
    unfold runTo at h2
    split at h2
    · by_cases e : i = a
      · subst e; assumption
      · exact ih (a + 1) i (by omega) h2
    · omega
theorem runTo_end {P : Nat → Bool} : ∀ (f a : Nat), P (a + f) = false → P (runTo P f a) = false := by
  intro f
  induction f with
  | zero => intro a h; simpa [runTo] using h
  | succ f ih =>
    intro a h
    unfold runTo
    split
    · exact ih (a + 1) (by rw [show a + 1 + f = a + (f + 1) by omega]; exact h)
    · rename_i hn; simpa using hn
theorem runTo_of {P : Nat → Bool} : ∀ (f a k : Nat), a ≤ k → k ≤ a + f → (∀ i, a ≤ i → i < k → P i = true) → P k = false → runTo P f a = k := by
  intro f
  induction f with
  | zero => intro a k h1 h2 h3 h4; simp [runTo]; omega
  | succ f ih =>
    intro a k h1 h2 h3 h4
    unfold runTo
    by_cases e : a = k
    · subst e; simp [h4]
    · rw [if_pos (h3 a (Nat.le_refl _) (by omega))]
      exact ih (a + 1) k (by omega) (by omega) (fun i h5 h6 => h3 i (by omega) h6) h4

theorem wordTo_run (s : ByteArray) : ∀ (f a : Nat), wordTo s f a = runTo (fun i => inW (pk s i)) f a := by
  intro f
  induction f with
  | zero => intro a; rfl
  | succ f ih => intro a; unfold wordTo runTo; rw [ih]
theorem numTo_run (s : ByteArray) : ∀ (f a : Nat), numTo s f a = runTo (fun i => decide (cls (pk s i) = 2)) f a := by
  intro f
  induction f with
  | zero => intro a; rfl
  | succ f ih => intro a; unfold numTo runTo; simp only [ih, decide_eq_true_eq]
theorem opTo_run (s : ByteArray) : ∀ (f a : Nat), opTo s f a = runTo (fun i => decide (cls (pk s i) = 3 ∧ comB s i = false)) f a := by
  intro f
  induction f with
  | zero => intro a; rfl
  | succ f ih => intro a; unfold opTo runTo; simp only [ih, decide_eq_true_eq]

/-- Runs of two texts. -/
theorem runTo_two {P Q : Nat → Bool} {d a f f' : Nat} (hend : P (a + f) = false) (hall : ∀ i, a ≤ i → i < runTo P f a → Q (i + d) = P i) (he : Q (runTo P f a + d) = false) (hf : runTo P f a ≤ a + f') (hle : a ≤ runTo P f a) : runTo Q f' (a + d) = runTo P f a + d := by
  refine runTo_of f' (a + d) _ (by omega) (by omega) (fun i h1 h2 => ?_) he
  have h3 := hall (i - d) (by omega) (by omega)
  rw [show i - d + d = i by omega] at h3
  rw [h3]
  exact runTo_all f a _ (by omega) (by omega)

theorem pk_end (s : ByteArray) {i : Nat} (h : s.size ≤ i) : pk s i = 0 := pk_ge (by omega)

theorem wordTo_two {s s' : ByteArray} {d a : Nat} (ha : a ≤ s.size) (hs : s.size + d ≤ s'.size ∨ wordTo s (s.size - a) a + d ≤ s'.size) (hg : Ag s s' d a (wordTo s (s.size - a) a)) (hb : pk s' (wordTo s (s.size - a) a + d) = pk s (wordTo s (s.size - a) a) ∨ pk s' (wordTo s (s.size - a) a + d) = 32) :
    wordTo s' (s'.size - (a + d)) (a + d) = wordTo s (s.size - a) a + d := by
  have hle := wordTo_le s (s.size - a) a ha
  rw [wordTo_run] at *
  rw [wordTo_run]
  have h0 : inW (pk s (a + (s.size - a))) = false := by rw [pk_end s (by omega)]; exact inW_zero
  refine runTo_two h0 (fun i h1 h2 => by rw [hg i h1 h2]) ?_ (by omega) hle.2
  have := runTo_end (P := fun i => inW (pk s i)) _ _ h0
  rcases hb with hb | hb
  · rw [hb]; exact this
  · rw [hb]; decide +kernel
theorem numTo_two {s s' : ByteArray} {d a : Nat} (ha : a ≤ s.size) (hs : s.size + d ≤ s'.size ∨ numTo s (s.size - a) a + d ≤ s'.size) (hg : Ag s s' d a (numTo s (s.size - a) a)) (hb : pk s' (numTo s (s.size - a) a + d) = pk s (numTo s (s.size - a) a) ∨ pk s' (numTo s (s.size - a) a + d) = 32) :
    numTo s' (s'.size - (a + d)) (a + d) = numTo s (s.size - a) a + d := by
  have hle := numTo_le s (s.size - a) a ha
  rw [numTo_run] at *
  rw [numTo_run]
  have h0 : decide (cls (pk s (a + (s.size - a))) = 2) = false := by rw [pk_end s (by omega)]; decide +kernel
  refine runTo_two h0 (fun i h1 h2 => by rw [hg i h1 h2]) ?_ (by omega) hle.2
  have := runTo_end (P := fun i => decide (cls (pk s i) = 2)) _ _ h0
  rcases hb with hb | hb
  · rw [hb]; exact this
  · rw [hb]; decide +kernel

theorem comB_blank {s : ByteArray} {i : Nat} (h : pk s i = 32) : comB s i = false := by unfold comB; rw [h]; simp
theorem opTo_two {s s' : ByteArray} {d a : Nat} (ha : a ≤ s.size) (hs : opTo s (s.size - a) a + d ≤ s'.size) (hg : Ag s s' d a (opTo s (s.size - a) a)) (hb : Bd s s' d (opTo s (s.size - a) a)) :
    opTo s' (s'.size - (a + d)) (a + d) = opTo s (s.size - a) a + d := by
  have hle := opTo_le s (s.size - a) a ha
  rw [opTo_run] at *
  rw [opTo_run]
  have h0 : decide (cls (pk s (a + (s.size - a))) = 3 ∧ comB s (a + (s.size - a)) = false) = false := by rw [pk_end s (by omega)]; simp; intro h; exact absurd h (by decide +kernel)
  have hend := runTo_end (P := fun i => decide (cls (pk s i) = 3 ∧ comB s i = false)) _ _ h0
  have hall := runTo_all (P := fun i => decide (cls (pk s i) = 3 ∧ comB s i = false)) (s.size - a) a
  generalize runTo (fun i => decide (cls (pk s i) = 3 ∧ comB s i = false)) (s.size - a) a = k at *
  refine runTo_of _ (a + d) _ (by omega) (by omega) (fun i h1 h2 => ?_) ?_
  · have h3 := hall (i - d) (by omega) (by omega)
    simp only [decide_eq_true_eq] at h3 ⊢
    have h4 := hg (i - d) (by omega) (by omega)
    rw [show i - d + d = i by omega] at h4
    refine ⟨by rw [h4]; exact h3.1, ?_⟩
    have h5 := h3.2
    unfold comB at h5 ⊢
    rw [h4]
    by_cases hlast : i - d + 1 < k
    · have h6 := hg (i - d + 1) (by omega) hlast
      rw [show i - d + 1 + d = i + 1 by omega] at h6
      rw [h6]; exact h5
    · have hk : i + 1 = k + d := by omega
      rw [hk]
      rcases hb with hb | hb
      · rw [hb.1, show k = i - d + 1 by omega]; exact h5
      · rw [hb]; simp
  · simp only [decide_eq_false_iff_not] at hend ⊢
    rcases hb with hb | hb
    · rw [hb.1, hb.2]; exact hend
    · rw [hb]; intro h; exact absurd h.1 (by decide +kernel)

theorem extract_two {s s' : ByteArray} {d a k : Nat} (hk : k ≤ s.size) (hk' : k + d ≤ s'.size) (hg : Ag s s' d a k) : s'.extract (a + d) (k + d) = s.extract a k := by
  apply ByteArray.ext
  apply Array.ext
  · have h1 : (s'.extract (a + d) (k + d)).size = min (k + d) s'.size - (a + d) := ByteArray.size_extract
    have h2 : (s.extract a k).size = min k s.size - a := ByteArray.size_extract
    show (s'.extract (a + d) (k + d)).size = (s.extract a k).size
    omega
  · intro i h1 h2
    have h1' : i < (s'.extract (a + d) (k + d)).size := h1
    have h2' : i < (s.extract a k).size := h2
    show (s'.extract (a + d) (k + d))[i] = (s.extract a k)[i]
    have e2 : (s.extract a k).size = min k s.size - a := ByteArray.size_extract
    rw [ByteArray.getElem_extract, ByteArray.getElem_extract]
    have := hg (a + i) (by omega) (by omega)
    rw [pk_lt (show a + i + d < s'.size by omega), pk_lt (show a + i < s.size by omega)] at this
    simpa [Nat.add_right_comm] using this

theorem nextF_two {s s' : ByteArray} {d lit lit' a k : Nat} {c : UInt8} (h : nextF s lit a = .ok (c, k)) (hg : pk s' (a + d) = pk s a) : nextF s' lit' (a + d) = .ok (c, k + d) := by
  obtain ⟨h1, h2, h3, h4⟩ := nextF_le h
  unfold nextF
  rw [hg, if_neg h4, h3, h2]
  congr 2
  omega
theorem hexF_two {s s' : ByteArray} {d lit lit' tok tok' a k : Nat} {c : UInt8} (h : hexF s lit tok a = .ok (c, k)) (hg : pk s' (a + d) = pk s a) : hexF s' lit' tok' (a + d) = .ok (c, k + d) := by
  unfold hexF at h
  split at h
  · cases h
  · rename_i b k1 hn
    unfold hexF
    rw [nextF_two hn hg]
    simp only
    unfold hexEnd at h ⊢
    split at h
    · rename_i v hv
      injection h with h
      injection h with e1 e2
      subst e1 e2
      rfl
    · cases h
theorem escF_two {s s' : ByteArray} {d lit lit' tok tok' a k : Nat} {c : UInt8} (h : escF s lit tok a = .ok (c, k)) (hg : Ag s s' d a k) : escF s' lit' tok' (a + d) = .ok (c, k + d) := by
  have hak := (escF_le h).2
  unfold escF at h
  split at h
  · cases h
  · rename_i b k1 hn
    obtain ⟨n1, n2, n3, n4⟩ := nextF_le hn
    unfold escF
    rw [nextF_two hn (hg a (Nat.le_refl _) hak)]
    simp only
    unfold escEnd at h ⊢
    split at h
    · rw [if_pos ‹_›]; injection h with h; injection h with e1 e2; rw [e1, e2]
    · rw [if_neg ‹_›]
      split at h
      · rw [if_pos ‹_›]; injection h with h; injection h with e1 e2; rw [e1, e2]
      · rw [if_neg ‹_›]
        split at h
        · rw [if_pos ‹_›]; injection h with h; injection h with e1 e2; rw [e1, e2]
        · rw [if_neg ‹_›]
          split at h
          · rw [if_pos ‹_›]
            unfold hexTwo at h ⊢
            split at h
            · cases h
            · rename_i v1 m1 hh1
              have q1 := hexF_le hh1
              split at h
              · cases h
              · rename_i v2 m2 hh2
                have q2 := hexF_le hh2
                injection h with h
                injection h with e1 e2
                rw [hexF_two hh1 (hg k1 (by omega) (by omega))]
                simp only
                rw [hexF_two hh2 (hg m1 (by omega) (by omega))]
                simp only
                rw [e1, e2]
          · cases h

theorem charsF_two {s s' : ByteArray} {d lit lit' tok tok' : Nat} {a b : UInt8} : ∀ (f k : Nat) (l : List UInt8) {o : List UInt8} {e : Nat}, s.size < k + f → k ≤ s.size → charsF s lit tok a b f k l = .ok (o, e) → Ag s s' d k (e + 1) → e + d ≤ s'.size →
    ∀ f', s'.size < k + d + f' → charsF s' lit' tok' a b f' (k + d) l = .ok (o, e + d) := by
  intro f
  induction f with
  | zero => intro k l o e hf hk; omega
  | succ f ih =>
    intro k l o e hf hk h hg he f' hf'
    have hke := (charsF_le _ _ _ hk h).2.1
    obtain ⟨f2, rfl⟩ : ∃ f2, f' = f2 + 1 := ⟨f' - 1, by omega⟩
    unfold charsF at h ⊢
    rw [hg k (Nat.le_refl _) (by omega)]
    split at h
    · rename_i hab
      rw [if_pos hab]
      injection h with h
      injection h with e1 e2
      rw [e1, e2]
    · rename_i hab
      rw [if_neg hab]
      split at h
      · cases h
      · rename_i c k1 hn
        obtain ⟨n1, n2, n3, n4⟩ := nextF_le hn
        rw [nextF_two hn (hg k (Nat.le_refl _) (by omega))]
        simp only
        split at h
        · rename_i h92
          rw [if_pos h92]
          split at h
          · cases h
          · rename_i v k2 hesc
            have q := escF_le hesc
            have hle := (charsF_le _ _ _ q.1 h).2.1
            rw [escF_two hesc (hg.sub (by omega) (by omega))]
            simp only
            exact ih k2 _ (by omega) q.1 h (hg.sub (by omega) (Nat.le_refl _)) he f2 (by omega)
        · rename_i h92
          rw [if_neg h92]
          exact ih k1 _ (by omega) n1 h (hg.sub (by omega) (Nat.le_refl _)) he f2 (by omega)
end Go.Proofs.YtpgcklpcohcchaaDoor
namespace Go.Proofs.YtpgcklpcohcchaaDoor
open Go Go.RowKit

theorem skipF_stop {s : ByteArray} : ∀ (f a k : Nat), s.size < a + f → a ≤ s.size → skipF s f a = .ok k → ¬ (pk s k = 32 ∨ pk s k = 9 ∨ pk s k = 10) := by
  intro f
  induction f with
  | zero => intro a k h1 h2; omega
  | succ f ih =>
    intro a k h1 h2 h
    have hk := skipF_ok _ _ _ h1 h2 h
    unfold skipF at h
    split at h
    · rename_i hsp
      have hlt : a < s.size := pk_ne (by rcases hsp with e | e | e <;> rw [e] <;> decide)
      exact ih (a + 1) k (by omega) (by omega) h
    · rename_i hsp
      split at h
      · rename_i hcm
        have hlt : a < s.size := by
          refine pk_ne (s := s) (a := a) ?_
          intro e
          unfold comB at hcm
          rw [e] at hcm
          simp at hcm
        split at h
        · have hl := lineTo_le s (s.size - a) a h2
          have hg : a + 1 ≤ lineTo s (s.size - a) a := by
            obtain ⟨m, hm⟩ : ∃ m, s.size - a = m + 1 := ⟨s.size - a - 1, by omega⟩
            rw [hm]
            unfold lineTo
            have h47 : pk s a = 47 := by unfold comB at hcm; simp at hcm; exact hcm.1
            rw [if_pos ⟨hlt, by rw [h47]; decide⟩]
            exact (lineTo_le s m (a + 1) (by omega)).2
          exact ih _ k (by omega) hl.1 h
        · split at h
          · cases h
          · rename_i k1 hc
            have hl := comTo_le s _ _ _ _ hc
            exact ih _ k (by omega) hl.1 h
      · injection h with h
        subst h
        exact hsp

theorem comTo_two {s s' : ByteArray} {d : Nat} : ∀ (f a dep : Nat) {k : Nat}, comTo s f a dep = some k → Ag s s' d a k → k + d ≤ s'.size → ∀ f', s'.size < a + d + f' → comTo s' f' (a + d) dep = some (k + d) := by
  intro f
  induction f with
  | zero => intro a dep k h; cases h
  | succ f ih =>
    intro a dep k h hg hk f' hf'
    have hak := (comTo_le s _ _ _ _ h).2
    obtain ⟨f2, rfl⟩ : ∃ f2, f' = f2 + 1 := ⟨f' - 1, by omega⟩
    unfold comTo at h ⊢
    split at h
    · rw [if_pos (by omega)]
      have ha1 : a + 1 < k := by
        split at h
        · have := (comTo_le s _ _ _ _ h).2; omega
        · split at h
          · split at h
            · injection h with h; omega
            · have := (comTo_le s _ _ _ _ h).2; omega
          · have := (comTo_le s _ _ _ _ h).2; omega
      have g0 := hg a (Nat.le_refl _) hak
      have g1 := hg (a + 1) (by omega) ha1
      rw [show a + 1 + d = a + d + 1 by omega] at g1
      rw [g0, g1]
      split at h
      · rename_i hc
        rw [if_pos hc]
        have := ih (a + 2) _ h (hg.sub (by omega) (Nat.le_refl _)) hk f2 (by omega)
        rw [show a + 2 + d = a + d + 2 by omega] at this
        exact this
      · rename_i hc
        rw [if_neg hc]
        split at h
        · rename_i hc2
          rw [if_pos hc2]
          split at h
          · rename_i hd
            rw [if_pos hd]
            injection h with h
            rw [← h]
            congr 1
            omega
          · rename_i hd
            rw [if_neg hd]
            have := ih (a + 2) _ h (hg.sub (by omega) (Nat.le_refl _)) hk f2 (by omega)
            rw [show a + 2 + d = a + d + 2 by omega] at this
            exact this
        · rename_i hc2
          rw [if_neg hc2]
          have := ih (a + 1) _ h (hg.sub (by omega) (Nat.le_refl _)) hk f2 (by omega)
          rw [show a + 1 + d = a + d + 1 by omega] at this
          exact this
    · cases h

theorem lineTo_run (s : ByteArray) : ∀ (f a : Nat), lineTo s f a = runTo (fun i => decide (i < s.size ∧ pk s i ≠ 10)) f a := by
  intro f
  induction f with
  | zero => intro a; rfl
  | succ f ih => intro a; unfold lineTo runTo; simp only [ih, decide_eq_true_eq]
theorem lineTo_two {s s' : ByteArray} {d a j : Nat} (hj : lineTo s (s.size - a) a = j) (ha : a ≤ s.size) (hs : s.size + d ≤ s'.size) (hg : Ag s s' d a j) (he : (j < s.size ∧ pk s' (j + d) = pk s j) ∨ (j = s.size ∧ s'.size = s.size + d)) :
    lineTo s' (s'.size - (a + d)) (a + d) = j + d := by
  subst hj
  have hle := lineTo_le s (s.size - a) a ha
  rw [lineTo_run] at *
  rw [lineTo_run]
  have h0 : decide (a + (s.size - a) < s.size ∧ pk s (a + (s.size - a)) ≠ 10) = false := by simp; omega
  have hend := runTo_end (P := fun i => decide (i < s.size ∧ pk s i ≠ 10)) _ _ h0
  have hall := runTo_all (P := fun i => decide (i < s.size ∧ pk s i ≠ 10)) (s.size - a) a
  generalize runTo (fun i => decide (i < s.size ∧ pk s i ≠ 10)) (s.size - a) a = k at *
  refine runTo_of _ (a + d) _ (by omega) (by omega) (fun i h1 h2 => ?_) ?_
  · have h3 := hall (i - d) (by omega) (by omega)
    simp only [decide_eq_true_eq] at h3 ⊢
    have h4 := hg (i - d) (by omega) (by omega)
    rw [show i - d + d = i by omega] at h4
    exact ⟨by omega, by rw [h4]; exact h3.2⟩
  · simp only [decide_eq_false_iff_not] at hend ⊢
    rcases he with ⟨h1, h2⟩ | ⟨h1, h2⟩
    · rw [h2]
      intro h3
      exact hend ⟨h1, h3.2⟩
    · intro h3
      omega

/-- Going on between tokens in two texts: the second one comes to the same place. -/
theorem skipF_reach {s s' : ByteArray} {d : Nat} (hs : s.size + d ≤ s'.size) : ∀ (f a k : Nat), s.size < a + f → a ≤ s.size → skipF s f a = .ok k → Ag s s' d a k → (k < s.size ∨ s'.size = s.size + d) →
    ∀ f', s'.size < a + d + f' → ∃ f2, s'.size < k + d + f2 ∧ skipF s' f' (a + d) = skipF s' f2 (k + d) := by
  intro f
  induction f with
  | zero => intro a k h1 h2; omega
  | succ f ih =>
    intro a k h1 h2 h hg hk f' hf'
    have hok := skipF_ok _ _ _ h1 h2 h
    have hst := skipF_stop _ _ _ h1 h2 h
    obtain ⟨f3, rfl⟩ : ∃ f3, f' = f3 + 1 := ⟨f' - 1, by omega⟩
    have hu : skipF s' (f3 + 1) (a + d) = if pk s' (a + d) = 32 ∨ pk s' (a + d) = 9 ∨ pk s' (a + d) = 10 then skipF s' f3 (a + d + 1)
      else if comB s' (a + d) then (if pk s' (a + d + 1) = 47 then skipF s' f3 (lineTo s' (s'.size - (a + d)) (a + d))
        else match comTo s' (s'.size + 1) (a + d) 0 with
          | none => .error (a + d)
          | some k => skipF s' f3 k) else .ok (a + d) := rfl
    by_cases hak : a = k
    · subst hak
      exact ⟨f3 + 1, hf', rfl⟩
    · have g0 := hg a (Nat.le_refl _) (by omega)
      rw [hu, g0]
      unfold skipF at h
      split at h
      · rename_i hsp
        rw [if_pos hsp]
        have hlt : a < s.size := pk_ne (by rcases hsp with e | e | e <;> rw [e] <;> decide)
        have := ih (a + 1) k (by omega) (by omega) h (hg.sub (by omega) (Nat.le_refl _)) hk f3 (by omega)
        rw [show a + 1 + d = a + d + 1 by omega] at this
        exact this
      · rename_i hsp
        rw [if_neg hsp]
        split at h
        · rename_i hcm
          have hc2 : pk s a = 47 ∧ (pk s (a + 1) = 47 ∨ pk s (a + 1) = 42) := by unfold comB at hcm; simpa using hcm
          have hlt : a < s.size := pk_ne (s := s) (a := a) (by rw [hc2.1]; decide)
          have hlt1 : a + 1 < s.size := pk_ne (s := s) (a := a + 1) (by rcases hc2.2 with e | e <;> rw [e] <;> decide)
          split at h
          · rename_i h47
            obtain ⟨j, hj⟩ : ∃ j, lineTo s (s.size - a) a = j := ⟨_, rfl⟩
            have hl := lineTo_le s (s.size - a) a h2
            have hg2 : a + 2 ≤ j := by
              obtain ⟨m, hm⟩ : ∃ m, s.size - a = m + 1 + 1 := ⟨s.size - a - 2, by omega⟩
              rw [← hj, hm]
              unfold lineTo
              rw [if_pos ⟨hlt, by rw [hc2.1]; decide⟩]
              unfold lineTo
              rw [if_pos ⟨hlt1, by rw [h47]; decide⟩]
              exact (lineTo_le s m (a + 1 + 1) (by omega)).2
            rw [hj] at h hl
            have hr := skipF_ok _ _ _ (by omega) hl.1 h
            have g1 := hg (a + 1) (by omega) (by omega)
            rw [show a + 1 + d = a + d + 1 by omega] at g1
            have hcm' : comB s' (a + d) = true := by unfold comB; rw [g0, g1]; exact hcm
            rw [if_pos hcm', g1, if_pos h47]
            have hjl : lineTo s' (s'.size - (a + d)) (a + d) = j + d := by
              refine lineTo_two hj h2 hs (hg.sub (Nat.le_refl _) hr.1) ?_
              by_cases hjs : j < s.size
              · refine .inl ⟨hjs, ?_⟩
                by_cases hjk : j < k
                · exact hg j (by omega) hjk
                · exfalso
                  have hjk' : j = k := by omega
                  have hend : ¬ (j < s.size ∧ pk s j ≠ 10) := by
                    have h0 : decide (a + (s.size - a) < s.size ∧ pk s (a + (s.size - a)) ≠ 10) = false := by simp; omega
                    have := runTo_end (P := fun i => decide (i < s.size ∧ pk s i ≠ 10)) _ _ h0
                    rw [← lineTo_run, hj] at this
                    simpa using this
                  have : pk s k = 10 := by
                    rw [← hjk']
                    exact Classical.byContradiction fun hn => hend ⟨hjs, hn⟩
                  exact hst (.inr (.inr this))
              · exact .inr ⟨by omega, by rcases hk with hk | hk <;> omega⟩
            rw [hjl]
            exact ih j k (by omega) hl.1 h (hg.sub (by omega) (Nat.le_refl _)) hk f3 (by omega)
          · rename_i h47
            split at h
            · cases h
            · rename_i k1 hc
              have hl := comTo_le s _ _ _ _ hc
              have hr := skipF_ok _ _ _ (by omega) hl.1 h
              have ha1 : a + 1 < k := by
                by_cases e : a + 1 < k1
                · omega
                · exfalso
                  have e1 : k1 = a + 1 := by omega
                  have hx := hc
                  unfold comTo at hx
                  rw [if_pos hlt] at hx
                  rw [if_pos ⟨hc2.1, by rcases hc2.2 with e | e; exact absurd e h47; exact e⟩] at hx
                  have := (comTo_le s _ _ _ _ hx).2
                  omega
              have g1 := hg (a + 1) (by omega) ha1
              rw [show a + 1 + d = a + d + 1 by omega] at g1
              have hcm' : comB s' (a + d) = true := by unfold comB; rw [g0, g1]; exact hcm
              rw [if_pos hcm', g1, if_neg h47]
              rw [comTo_two _ _ _ hc (hg.sub (Nat.le_refl _) hr.1) (by omega) (s'.size + 1) (by omega)]
              exact ih k1 k (by omega) hl.1 h (hg.sub (by omega) (Nat.le_refl _)) hk f3 (by omega)
        · injection h with h
          exact absurd h hak
end Go.Proofs.YtpgcklpcohcchaaDoor
namespace Go.Proofs.YtpgcklpcohcchaaDoor
open Go Go.RowKit

/-- What of a token does not hang on lines. -/
def skl (d : Nat) (t : Tok) : Nat × ByteArray × Nat := (t.kind, t.text, t.pos + d)
/-- From r to r1 the reader adds what the other one adds from r' to r1', d bytes further on. -/
structure SimO (d : Nat) (r r1 r' r1' : RSt) : Prop where
  pos : r1'.pos = r1.pos + d
  out : ∃ n n', r1.out = r.out ++ n ∧ r1'.out = r'.out ++ n' ∧ n'.map (skl 0) = n.map (skl d)
theorem SimO.trans {d : Nat} {r r1 r2 r' r1' r2' : RSt} (h : SimO d r r1 r' r1') (k : SimO d r1 r2 r1' r2') : SimO d r r2 r' r2' := by
  obtain ⟨n, n', a, b, c⟩ := h.out
  obtain ⟨m, m', a', b', c'⟩ := k.out
  exact ⟨k.pos, n ++ m, n' ++ m', by rw [a', a, List.append_assoc], by rw [b', b, List.append_assoc], by rw [List.map_append, List.map_append, c, c']⟩
theorem SimO.refl {d : Nat} {r r' : RSt} (h : r'.pos = r.pos + d) : SimO d r r r' r' := ⟨h, [], [], by simp, by simp, rfl⟩
theorem SimO.add {s s' : ByteArray} {d kd p k : Nat} {tx : ByteArray} (r r' : RSt) : SimO d r (addF s kd tx p { r with pos := k }) r' (addF s' kd tx (p + d) { r' with pos := k + d }) :=
  ⟨rfl, [⟨kd, tx, p, _, _⟩], [⟨kd, tx, p + d, _, _⟩], rfl, rfl, rfl⟩

def kb (b : Brk) : ByteArray × Bool := (b.mark, b.lit.isSome)
def SimB (bs bs' : List Brk) : Prop := bs'.map kb = bs.map kb
theorem SimB.len {bs bs' : List Brk} (h : SimB bs bs') : bs'.length = bs.length := by
  have := congrArg List.length h
  simpa using this
theorem SimB.cons {bs bs' : List Brk} {b b' : Brk} (h : SimB bs bs') (h1 : b'.mark = b.mark) (h2 : b'.lit.isSome = b.lit.isSome) : SimB (b :: bs) (b' :: bs') := by
  unfold SimB at *
  simp [kb, h, h1, h2]

theorem varF_two {s s' : ByteArray} {d : Nat} {r r' r2 : RSt} (hi : RI s r) (hp : r.pos < s.size) (hpos : r'.pos = r.pos + d) (h : varF s r = .ok r2) (hg : Ag s s' d r.pos r2.pos) (hb : pk s' (r2.pos + d) = pk s r2.pos ∨ pk s' (r2.pos + d) = 32) (he : r2.pos + d ≤ s'.size) :
    ∃ r2', varF s' r' = .ok r2' ∧ SimO d r r2 r' r2' := by
  have hok := varF_ok hi hp h
  unfold varF at h
  split at h
  · rename_i hc
    have hlt := cls_pk_lt1 hc
    have hle := wordTo_le s (s.size - (r.pos + 1)) (r.pos + 1) (by omega)
    have hpe : r2.pos = wordTo s (s.size - (r.pos + 1)) (r.pos + 1) := by
      unfold varEnd at h
      split at h
      · cases h
      · split at h
        · cases h
        · injection h with h; rw [← h]; rfl
    have g1 := hg (r.pos + 1) (by omega) (by omega)
    rw [hpe] at hb he
    have hw := wordTo_two (s := s) (s' := s') (d := d) (a := r.pos + 1) (by omega) (.inr he) (hg.sub (by omega) (by omega)) hb
    have hx := extract_two (s := s) (s' := s') (d := d) (a := r.pos + 1) (k := wordTo s (s.size - (r.pos + 1)) (r.pos + 1)) hle.1 he (hg.sub (by omega) (by omega))
    unfold varF
    rw [hpos, show r.pos + d + 1 = r.pos + 1 + d by omega, g1, if_pos hc, hw]
    unfold varEnd at h ⊢
    rw [hx]
    split at h
    · cases h
    · rename_i kd hkd
      split at h
      · cases h
      · rename_i h3
        simp only [if_neg h3]
        injection h with h
        subst h
        exact ⟨_, rfl, SimO.add r r'⟩
  · cases h

theorem partsF_lt {s : ByteArray} {lit : Nat} {bs bs' : List Brk} : ∀ (f : Nat) (r r' : RSt), s.size < r.pos + f → RI s r → r.out.length + 1 ≤ 2 * r.pos → bs.length ≤ 64 → partsF s lit bs f r = .ok (r', bs') → r.pos < r'.pos := by
  intro f
  induction f with
  | zero => intro r r' hf hi; have := hi.pos; omega
  | succ f ih =>
    intro r r' hf hi hn hb h
    rw [partsF_succ] at h
    split at h
    · cases h
    · rename_i o k hc
      obtain ⟨hk1, hk2, hk3, hk4⟩ := charsF_in (by decide) (by decide) hi.pos hc
      have hsz : (⟨o.toArray⟩ : ByteArray).size ≤ s.size := by show o.toArray.size ≤ s.size; simpa using hk3
      have hri : RI s (addF s 9 ⟨o.toArray⟩ r.pos { r with pos := k }) := hi.add hi.told hk2 (by omega) hsz (by omega)
      have hln : (addF s 9 ⟨o.toArray⟩ r.pos { r with pos := k }).out.length ≤ 2 * k := by
        simp [addF]
        omega
      have hpk : (addF s 9 ⟨o.toArray⟩ r.pos { r with pos := k }).pos = k := rfl
      generalize addF s 9 ⟨o.toArray⟩ r.pos { r with pos := k } = r2 at *
      split at h
      · injection h with h
        injection h with e1 e2
        subst e1
        show r.pos < k + 1
        omega
      · split at h
        · rename_i h123
          have hlt := pk_ne (s := s) (a := k + 1) (by rw [h123]; decide)
          have := pushF_ok hri (by omega) hb (by omega) (by omega) h
          omega
        · split at h
          · cases h
          · rename_i r3 hv
            obtain ⟨v1, v2, v3⟩ := varF_ok hri (by omega) hv
            have := ih r3 r' (by omega) v1 (by omega) hb h
            omega

theorem pushF_two {s s' : ByteArray} {d n : Nat} {lit lit' : Option Nat} {r r' r1 : RSt} {bs bs' bs1 : List Brk} (hpos : r'.pos = r.pos + d) (hB : SimB bs bs') (hl : lit'.isSome = lit.isSome) (hp : r.pos + n ≤ s.size) (h : pushF s n lit r bs = .ok (r1, bs1)) (hg : Ag s s' d r.pos r1.pos) (he : r1.pos + d ≤ s'.size) :
    ∃ r1' bs1', pushF s' n lit' r' bs' = .ok (r1', bs1') ∧ SimO d r r1 r' r1' ∧ SimB bs1 bs1' := by
  unfold pushF at h ⊢
  rw [hB.len]
  split at h
  · cases h
  · rename_i h64
    rw [if_neg h64]
    injection h with h
    injection h with e1 e2
    subst e1 e2
    have he' : r.pos + n + d ≤ s'.size := he
    have hx := extract_two (s := s) (s' := s') (d := d) (a := r.pos) (k := r.pos + n) hp he' hg
    refine ⟨_, _, rfl, ?_, hB.cons ?_ hl⟩
    · unfold markF
      rw [hpos, show r.pos + d + n = r.pos + n + d by omega, hx]
      exact SimO.add r r'
    · simp only
      rw [hpos, show r.pos + d + n = r.pos + n + d by omega, hx]

theorem partsF_two {s s' : ByteArray} {d lit lit' : Nat} : ∀ (f : Nat) (r r' r1 : RSt) (bs bs' bs1 : List Brk), s.size < r.pos + f → RI s r → r.out.length + 1 ≤ 2 * r.pos → bs.length ≤ 64 → r'.pos = r.pos + d → SimB bs bs' → partsF s lit bs f r = .ok (r1, bs1) → Ag s s' d r.pos r1.pos → r1.pos + d ≤ s'.size →
    ∀ f', s'.size < r'.pos + f' → ∃ r1' bs1', partsF s' lit' bs' f' r' = .ok (r1', bs1') ∧ SimO d r r1 r' r1' ∧ SimB bs1 bs1' := by
  intro f
  induction f with
  | zero => intro r r' r1 bs bs' bs1 hf hi; have := hi.pos; omega
  | succ f ih =>
    intro r r' r1 bs bs' bs1 hf hi hn hb hpos hB h hg he f' hf'
    have hlt := partsF_lt _ _ _ hf hi hn hb h
    obtain ⟨f2, rfl⟩ : ∃ f2, f' = f2 + 1 := ⟨f' - 1, by omega⟩
    rw [partsF_succ] at h
    rw [partsF_succ]
    split at h
    · cases h
    · rename_i o k hc
      obtain ⟨hk1, hk2, hk3, hk4⟩ := charsF_in (by decide) (by decide) hi.pos hc
      have hsz : (⟨o.toArray⟩ : ByteArray).size ≤ s.size := by show o.toArray.size ≤ s.size; simpa using hk3
      have hri : RI s (addF s 9 ⟨o.toArray⟩ r.pos { r with pos := k }) := hi.add hi.told hk2 (by omega) hsz (by omega)
      have hln : (addF s 9 ⟨o.toArray⟩ r.pos { r with pos := k }).out.length ≤ 2 * k := by
        simp [addF]
        omega
      have hpk : (addF s 9 ⟨o.toArray⟩ r.pos { r with pos := k }).pos = k := rfl
      have hsim : SimO d r (addF s 9 ⟨o.toArray⟩ r.pos { r with pos := k }) r' (addF s' 9 ⟨o.toArray⟩ (r.pos + d) { r' with pos := k + d }) := SimO.add r r'
      have hk1' : k < r1.pos := by
        split at h
        · injection h with h; injection h with e1 e2; subst e1; show k < k + 1; omega
        · split at h
          · rename_i h123
            have hl := pk_ne (s := s) (a := k + 1) (by rw [h123]; decide)
            have := (pushF_ok hri (by simp [addF]; omega) hb (by omega) (by simp [addF]; omega) h).2
            rw [hpk] at this
            exact this
          · split at h
            · cases h
            · rename_i r3 hv
              obtain ⟨v1, v2, v3⟩ := varF_ok hri (by rw [hpk]; omega) hv
              have := partsF_lt _ _ _ (by rw [hpk] at v2; omega) v1 (by rw [hpk] at v2; omega) hb h
              rw [hpk] at v2
              omega
      have hc' := charsF_two (lit' := lit') (tok' := r.pos + d) _ _ _ (by omega) hi.pos hc (hg.sub (Nat.le_refl _) (by omega)) (by omega) (s'.size + 1) (by omega)
      rw [hpos, hc']
      simp only
      have g0 := hg k hk2 hk1'
      rw [g0]
      generalize addF s 9 ⟨o.toArray⟩ r.pos { r with pos := k } = r2 at *
      obtain ⟨hsp, hso⟩ := hsim
      have hsim : SimO d r r2 r' (addF s' 9 ⟨o.toArray⟩ (r.pos + d) { r' with pos := k + d }) := ⟨hsp, hso⟩
      clear hsp hso
      have hpk' : (addF s' 9 ⟨o.toArray⟩ (r.pos + d) { r' with pos := k + d }).pos = k + d := rfl
      generalize addF s' 9 ⟨o.toArray⟩ (r.pos + d) { r' with pos := k + d } = r2' at *
      subst hpk
      split at h
      · rename_i h34
        rw [if_pos h34]
        injection h with h
        injection h with e1 e2
        subst e1 e2
        refine ⟨_, _, rfl, ?_, hB⟩
        have h3 : SimO d r2 { addF s 10 ⟨#[]⟩ r2.pos r2 with pos := r2.pos + 1 } r2' { addF s' 10 ⟨#[]⟩ (r2.pos + d) r2' with pos := r2.pos + d + 1 } :=
          ⟨by simp only; omega, [⟨10, ⟨#[]⟩, r2.pos, _, _⟩], [⟨10, ⟨#[]⟩, r2.pos + d, _, _⟩], rfl, rfl, rfl⟩
        exact hsim.trans h3
      · rename_i h34
        rw [if_neg h34]
        split at h
        · rename_i h123
          have hl := pk_ne (s := s) (a := r2.pos + 1) (by rw [h123]; decide)
          have hpl := (pushF_ok hri (by omega) hb (by omega) (by omega) h).2
          have hpe : r1.pos = r2.pos + 2 := by
            unfold pushF at h
            split at h
            · cases h
            · injection h with h; injection h with e1 e2; subst e1; rfl
          have g1 := hg (r2.pos + 1) (by omega) (by omega)
          rw [show r2.pos + 1 + d = r2.pos + d + 1 by omega] at g1
          rw [g1, if_pos h123]
          obtain ⟨r1', bs1', q1, q2, q3⟩ := pushF_two (lit := some lit) (lit' := some lit') hpk' hB rfl (by omega) h (hg.sub (by omega) (Nat.le_refl _)) he
          exact ⟨r1', bs1', q1, hsim.trans q2, q3⟩
        · rename_i h123
          split at h
          · cases h
          · rename_i r3 hv
            obtain ⟨v1, v2, v3⟩ := varF_ok hri (by omega) hv
            have hl3 := partsF_lt _ _ _ (by omega) v1 (by omega) hb h
            have g1 := hg (r2.pos + 1) (by omega) (by omega)
            rw [show r2.pos + 1 + d = r2.pos + d + 1 by omega] at g1
            rw [g1, if_neg h123]
            obtain ⟨r3', q1, q2⟩ := varF_two hri (by omega) hpk' hv (hg.sub (by omega) (by omega)) (.inl (hg r3.pos (by omega) hl3)) (by omega)
            rw [q1]
            simp only
            obtain ⟨r1', bs1', p1, p2, p3⟩ := ih r3 r3' r1 bs bs' bs1 (by omega) v1 (by omega) hb q2.pos hB h (hg.sub (by omega) (Nat.le_refl _)) he f2 (by have := q2.pos; omega)
            exact ⟨r1', bs1', p1, (hsim.trans q2).trans p2, p3⟩
end Go.Proofs.YtpgcklpcohcchaaDoor
namespace Go.Proofs.YtpgcklpcohcchaaDoor
open Go Go.RowKit

theorem wordF_two {s s' : ByteArray} {d : Nat} {r r' r1 : RSt} {bs bs' bs1 : List Brk} (hR : RG s r bs) (hc : cls (pk s r.pos) = 1) (hpos : r'.pos = r.pos + d) (hB : SimB bs bs') (h : wordF s r bs = .ok (r1, bs1)) (hg : Ag s s' d r.pos r1.pos) (hb : pk s' (r1.pos + d) = pk s r1.pos ∨ pk s' (r1.pos + d) = 32) (he : r1.pos + d ≤ s'.size) :
    ∃ r1' bs1', wordF s' r' bs' = .ok (r1', bs1') ∧ SimO d r r1 r' r1' ∧ SimB bs1 bs1' := by
  have hlt := cls_pk_lt1 hc
  have hle := wordTo_le s (s.size - r.pos) r.pos hR.ri.pos
  have htx := extract_le s r.pos (wordTo s (s.size - r.pos) r.pos) hR.ri.pos
  have hgt : r.pos + 1 ≤ wordTo s (s.size - r.pos) r.pos := by
    obtain ⟨m, hm⟩ : ∃ m, s.size - r.pos = m + 1 := ⟨s.size - r.pos - 1, by omega⟩
    rw [hm]
    unfold wordTo
    rw [if_pos (by unfold inW; rw [hc]; rfl)]
    exact (wordTo_le s m (r.pos + 1) (by omega)).2
  obtain ⟨k, hk⟩ : ∃ k, wordTo s (s.size - r.pos) r.pos = k := ⟨_, rfl⟩
  have hn := hR.few
  unfold wordF at h ⊢
  rw [hk] at h hle htx hgt
  unfold wordEnd at h ⊢
  split at h
  · cases h
  · rename_i kd hkd
    split at h
    · rename_i h34
      have hl := pk_ne (s := s) (a := k) (by rw [h34.2]; decide)
      have hri : RI s (addF s 8 (s.extract r.pos k) r.pos { r with pos := k + 1 }) := hR.ri.add hR.ri.told (by omega) (by omega) htx (by omega)
      have hpl := partsF_lt _ _ _ (by simp [addF]; omega) hri (by simp [addF]; omega) hR.brk h
      have hpl' : k + 1 < r1.pos := hpl
      have gk := hg k (by omega) (by omega)
      have hw := wordTo_two (s := s) (s' := s') (d := d) (a := r.pos) (by omega) (.inr (by rw [hk]; omega)) (by rw [hk]; exact hg.sub (Nat.le_refl _) (by omega)) (by rw [hk]; exact .inl gk)
      rw [hk] at hw
      have hx := extract_two (s := s) (s' := s') (d := d) (a := r.pos) (k := k) hle.1 (by omega) (hg.sub (Nat.le_refl _) (by omega))
      rw [hpos, hw, hx, hkd]
      simp only
      rw [gk, if_pos h34]
      obtain ⟨r1', bs1', q1, q2, q3⟩ := partsF_two (lit' := r.pos + d) _ _ (addF s' 8 (s.extract r.pos k) (r.pos + d) { r' with pos := k + d + 1 }) r1 bs bs' bs1 (by simp [addF]; omega) hri (by simp [addF]; omega) hR.brk (by show k + d + 1 = k + 1 + d; omega) hB h (hg.sub (by show r.pos ≤ k + 1; omega) (Nat.le_refl _)) he (s'.size + 1) (by show s'.size < k + d + 1 + (s'.size + 1); omega)
      refine ⟨r1', bs1', q1, SimO.trans ?_ q2, q3⟩
      exact ⟨by show k + d + 1 = k + 1 + d; omega, [⟨8, s.extract r.pos k, r.pos, _, _⟩], [⟨8, s.extract r.pos k, r.pos + d, _, _⟩], rfl, rfl, rfl⟩
    · rename_i h34
      injection h with h
      injection h with e1 e2
      subst e1 e2
      have hb' : pk s' (k + d) = pk s k ∨ pk s' (k + d) = 32 := hb
      have he' : k + d ≤ s'.size := he
      have hg' : Ag s s' d r.pos k := hg
      have hw := wordTo_two (s := s) (s' := s') (d := d) (a := r.pos) (by omega) (.inr (by rw [hk]; omega)) (by rw [hk]; exact hg') (by rw [hk]; exact hb')
      rw [hk] at hw
      have hx := extract_two (s := s) (s' := s') (d := d) (a := r.pos) (k := k) hle.1 he' hg'
      rw [hpos, hw, hx, hkd]
      simp only
      have hne : ¬ (kd = 0 ∧ pk s' (k + d) = 34) := by
        rintro ⟨e1, e2⟩
        rcases hb' with hb' | hb'
        · exact h34 ⟨e1, by rw [← hb']; exact e2⟩
        · rw [hb'] at e2; exact absurd e2 (by decide)
      rw [if_neg hne]
      exact ⟨_, _, rfl, SimO.add r r', hB⟩

theorem numF_two {s s' : ByteArray} {d : Nat} {r r' r1 : RSt} (hi : RI s r) (hc : cls (pk s r.pos) = 2) (hpos : r'.pos = r.pos + d) (h : numF s r = .ok r1) (hg : Ag s s' d r.pos r1.pos) (hb : pk s' (r1.pos + d) = pk s r1.pos ∨ pk s' (r1.pos + d) = 32) (he : r1.pos + d ≤ s'.size) :
    ∃ r1', numF s' r' = .ok r1' ∧ SimO d r r1 r' r1' := by
  have hlt := cls_pk_lt2 hc
  have hle := numTo_le s (s.size - r.pos) r.pos hi.pos
  obtain ⟨k, hk⟩ : ∃ k, numTo s (s.size - r.pos) r.pos = k := ⟨_, rfl⟩
  unfold numF at h ⊢
  rw [hk] at h hle
  unfold numEnd at h ⊢
  split at h
  · rename_i h76
    have hl := pk_ne (s := s) (a := k) (by rw [h76]; decide)
    have hpe : r1.pos = k + 1 := by
      unfold numFin at h
      split at h
      · cases h
      · split at h
        · cases h
        · injection h with h; subst h; rfl
    rw [hpe] at hb he hg
    have gk := hg k (by omega) (by omega)
    have hw := numTo_two (s := s) (s' := s') (d := d) (a := r.pos) (by omega) (.inr (by rw [hk]; omega)) (by rw [hk]; exact hg.sub (Nat.le_refl _) (by omega)) (by rw [hk]; exact .inl gk)
    rw [hk] at hw
    have hx := extract_two (s := s) (s' := s') (d := d) (a := r.pos) (k := k) hle.1 (by omega) (hg.sub (Nat.le_refl _) (by omega))
    rw [hpos, hw, hx, gk, if_pos h76]
    unfold numFin at h ⊢
    split at h
    · cases h
    · rename_i hz
      have hz' : ¬ (1 < (s.extract r.pos k).size ∧ pk (s.extract r.pos k) 0 = 48 ∨ inW (pk s' (k + d + 1)) = true) := by
        rintro (e | e)
        · exact hz (.inl e)
        · rw [show k + d + 1 = k + 1 + d by omega] at e
          rcases hb with hb | hb
          · rw [hb] at e; exact hz (.inr e)
          · rw [hb] at e; exact absurd e (by decide +kernel)
      rw [if_neg hz']
      split at h
      · cases h
      · rename_i hr
        rw [if_neg hr]
        injection h with h
        subst h
        rw [hpos, show k + d + 1 = k + 1 + d by omega]
        exact ⟨_, rfl, SimO.add r r'⟩
  · rename_i h76
    have hpe : r1.pos = k := by
      unfold numFin at h
      split at h
      · cases h
      · split at h
        · cases h
        · injection h with h; subst h; rfl
    rw [hpe] at hb he hg
    have hw := numTo_two (s := s) (s' := s') (d := d) (a := r.pos) (by omega) (.inr (by rw [hk]; omega)) (by rw [hk]; exact hg) (by rw [hk]; exact hb)
    rw [hk] at hw
    have hx := extract_two (s := s) (s' := s') (d := d) (a := r.pos) (k := k) hle.1 (by omega) hg
    have h76' : ¬ pk s' (k + d) = 76 := by
      intro e
      rcases hb with hb | hb
      · rw [hb] at e; exact h76 e
      · rw [hb] at e; exact absurd e (by decide)
    rw [hpos, hw, hx, if_neg h76']
    unfold numFin at h ⊢
    split at h
    · cases h
    · rename_i hz
      have hz' : ¬ (1 < (s.extract r.pos k).size ∧ pk (s.extract r.pos k) 0 = 48 ∨ inW (pk s' (k + d)) = true) := by
        rintro (e | e)
        · exact hz (.inl e)
        · rcases hb with hb | hb
          · rw [hb] at e; exact hz (.inr e)
          · rw [hb] at e; exact absurd e (by decide +kernel)
      rw [if_neg hz']
      split at h
      · cases h
      · rename_i hr
        rw [if_neg hr]
        injection h with h
        subst h
        rw [hpos]
        exact ⟨_, rfl, SimO.add r r'⟩

theorem opF_two {s s' : ByteArray} {d : Nat} {r r' r1 : RSt} (hi : RI s r) (hpos : r'.pos = r.pos + d) (h : opF s r = .ok r1) (hg : Ag s s' d r.pos r1.pos) (hb : Bd s s' d r1.pos) (he : r1.pos + d ≤ s'.size) :
    ∃ r1', opF s' r' = .ok r1' ∧ SimO d r r1 r' r1' := by
  have hle := opTo_le s (s.size - r.pos) r.pos hi.pos
  obtain ⟨k, hk⟩ : ∃ k, opTo s (s.size - r.pos) r.pos = k := ⟨_, rfl⟩
  unfold opF at h ⊢
  rw [hk] at h hle
  unfold opEnd at h ⊢
  have hpe : r1.pos = k := by
    split at h
    · injection h with h; subst h; rfl
    · split at h
      · cases h
      · injection h with h; subst h; rfl
  rw [hpe] at hb he hg
  have hw := opTo_two (s := s) (s' := s') (d := d) (a := r.pos) hi.pos (by rw [hk]; exact he) (by rw [hk]; exact hg) (by rw [hk]; exact hb)
  rw [hk] at hw
  have hx := extract_two (s := s) (s' := s') (d := d) (a := r.pos) (k := k) hle.1 (by omega) hg
  rw [hpos, hw, hx]
  split at h
  · rename_i hm
    rw [if_pos hm]
    injection h with h
    subst h
    exact ⟨_, rfl, SimO.add r r'⟩
  · rename_i hm
    rw [if_neg hm]
    split at h
    · cases h
    · rename_i h64
      rw [if_neg h64]
      injection h with h
      subst h
      exact ⟨_, rfl, SimO.add r r'⟩

theorem markF_two {s s' : ByteArray} {d : Nat} {r r' : RSt} (hpos : r'.pos = r.pos + d) (hp : r.pos < s.size) (hg : Ag s s' d r.pos (r.pos + 1)) (he : r.pos + 1 + d ≤ s'.size) : SimO d r (markF s 1 r) r' (markF s' 1 r') := by
  have hx := extract_two (s := s) (s' := s') (d := d) (a := r.pos) (k := r.pos + 1) (by omega) he hg
  unfold markF
  rw [hpos, show r.pos + d + 1 = r.pos + 1 + d by omega, hx]
  exact SimO.add r r'

theorem endgF_two {s s' : ByteArray} {d : Nat} {r r' r1 : RSt} {bs bs' bs1 : List Brk} (hR : RG s r bs) (hp : r.pos < s.size) (hpos : r'.pos = r.pos + d) (hB : SimB bs bs') (h : endgF s r bs = .ok (r1, bs1)) (hg : Ag s s' d r.pos r1.pos) (he : r1.pos + d ≤ s'.size) :
    ∃ r1' bs1', endgF s' r' bs' = .ok (r1', bs1') ∧ SimO d r r1 r' r1' ∧ SimB bs1 bs1' := by
  have hlt := (endgF_ok hR hp h).2
  cases bs with
  | nil => cases h
  | cons b rest =>
    cases bs' with
    | nil => have := hB.len; simp at this
    | cons b' rest' =>
      have hB2 : kb b' = kb b ∧ rest'.map kb = rest.map kb := by
        unfold SimB at hB
        simpa using hB
      have hm : b'.mark = b.mark := congrArg Prod.fst hB2.1
      have hl : b'.lit.isSome = b.lit.isSome := congrArg Prod.snd hB2.1
      have hBr : SimB rest rest' := hB2.2
      have hr := hR.brk
      simp at hr
      have hmk := markF_ok (bs := rest) ⟨hR.ri, hR.few, by omega⟩ hp
      have hx := extract_two (s := s) (s' := s') (d := d) (a := r.pos) (k := r.pos + 1) (by omega) (by omega) (hg.sub (Nat.le_refl _) (by omega))
      have hms := markF_two hpos hp (hg.sub (Nat.le_refl _) (by omega)) (by omega)
      show ∃ r1' bs1', (if (clo b'.mark.toList).toList = (s'.extract r'.pos (r'.pos + 1)).toList then endLit s' b'.lit (markF s' 1 r') rest' else .error (r'.pos, 27)) = .ok (r1', bs1') ∧ SimO d r r1 r' r1' ∧ SimB bs1 bs1'
      have h' : (if (clo b.mark.toList).toList = (s.extract r.pos (r.pos + 1)).toList then endLit s b.lit (markF s 1 r) rest else .error (r.pos, 27)) = .ok (r1, bs1) := h
      clear h
      rw [hm, hpos, show r.pos + d + 1 = r.pos + 1 + d by omega, hx]
      split at h'
      · rename_i hcl
        rw [if_pos hcl]
        have hm1 : (markF s 1 r).pos = r.pos + 1 := rfl
        have hm2 : (markF s' 1 r').pos = r.pos + 1 + d := hms.pos
        generalize markF s 1 r = r2 at *
        generalize markF s' 1 r' = r2' at *
        unfold endLit at h' ⊢
        split at h'
        · rename_i hn
          rw [hn] at hl
          have hn' : b'.lit = none := by cases hx : b'.lit with
            | none => rfl
            | some y => rw [hx] at hl; simp at hl
          rw [hn']
          injection h' with h'
          injection h' with e1 e2
          subst e1 e2
          exact ⟨_, _, rfl, hms, hBr⟩
        · rename_i l hn
          rw [hn] at hl
          obtain ⟨l', hl'⟩ : ∃ l', b'.lit = some l' := by cases hx : b'.lit with
            | none => rw [hx] at hl; simp at hl
            | some y => exact ⟨y, rfl⟩
          rw [hl']
          simp only
          obtain ⟨r1', bs1', q1, q2, q3⟩ := partsF_two (lit' := l') _ _ r2' r1 rest rest' bs1 (by omega) hmk.1.ri hmk.2.2 hmk.1.brk (by omega) hBr h' (hg.sub (by omega) (Nat.le_refl _)) he (s'.size + 1) (by omega)
          exact ⟨r1', bs1', q1, hms.trans q2, q3⟩
      · cases h'

theorem strF_two {s s' : ByteArray} {d : Nat} {r r' r1 : RSt} (hp : r.pos < s.size) (hpos : r'.pos = r.pos + d) (h : strF s r = .ok r1) (hg : Ag s s' d r.pos r1.pos) (he : r1.pos + d ≤ s'.size) :
    r.pos + 2 ≤ r1.pos ∧ ∃ r1', strF s' r' = .ok r1' ∧ SimO d r r1 r' r1' := by
  unfold strF at h ⊢
  split at h
  · cases h
  · rename_i o k hc
    obtain ⟨hk1, hk2, hk3, hk4⟩ := charsF_in (by decide) (by decide) (by omega) hc
    injection h with h
    have hpe : r1.pos = k + 1 := by subst h; rfl
    rw [hpe] at hg he ⊢
    have hc' := charsF_two (lit' := r.pos + d) (tok' := r.pos + d) _ _ _ (by omega) (by omega) hc (hg.sub (by omega) (Nat.le_refl _)) (by omega) (s'.size + 1) (by omega)
    rw [hpos, show r.pos + d + 1 = r.pos + 1 + d by omega, hc']
    subst h
    simp only
    rw [show k + d + 1 = k + 1 + d by omega]
    exact ⟨by omega, _, rfl, SimO.add r r'⟩
theorem charF_two {s s' : ByteArray} {d : Nat} {r r' r1 : RSt} (hp : r.pos < s.size) (hpos : r'.pos = r.pos + d) (h : charF s r = .ok r1) (hg : Ag s s' d r.pos r1.pos) (he : r1.pos + d ≤ s'.size) :
    r.pos + 2 ≤ r1.pos ∧ ∃ r1', charF s' r' = .ok r1' ∧ SimO d r r1 r' r1' := by
  unfold charF at h ⊢
  split at h
  · cases h
  · rename_i o k hc
    obtain ⟨hk1, hk2, hk3, hk4⟩ := charsF_in (by decide) (by decide) (by omega) hc
    split at h
    · rename_i ho
      injection h with h
      have hpe : r1.pos = k + 1 := by subst h; rfl
      rw [hpe] at hg he ⊢
      have hc' := charsF_two (lit' := r.pos + d) (tok' := r.pos + d) _ _ _ (by omega) (by omega) hc (hg.sub (by omega) (Nat.le_refl _)) (by omega) (s'.size + 1) (by omega)
      rw [hpos, show r.pos + d + 1 = r.pos + 1 + d by omega, hc']
      subst h
      simp only
      rw [if_pos ho, show k + d + 1 = k + 1 + d by omega]
      exact ⟨by omega, _, rfl, SimO.add r r'⟩
    · cases h

theorem byK_51 (s : ByteArray) (r : RSt) (bs : List Brk) : byK s r bs 51 = liftB bs (strF s r) := rfl
theorem byK_52 (s : ByteArray) (r : RSt) (bs : List Brk) : byK s r bs 52 = liftB bs (charF s r) := rfl
theorem byK_30 (s : ByteArray) (r : RSt) (bs : List Brk) : byK s r bs 30 = openF s r bs := rfl
theorem pushF_pos {s : ByteArray} {n : Nat} {lit : Option Nat} {r r1 : RSt} {bs bs1 : List Brk} (h : pushF s n lit r bs = .ok (r1, bs1)) : r1.pos = r.pos + n := by
  unfold pushF at h
  split at h
  · cases h
  · injection h with h; injection h with e1 e2; subst e1; rfl

/-- One step of the reader in two texts. -/
theorem rstep_two {s s' : ByteArray} {d : Nat} {r r' r1 : RSt} {bs bs' bs1 : List Brk} (hR : RG s r bs) (hp : r.pos < s.size) (hcm : comB s r.pos = false) (hpos : r'.pos = r.pos + d) (hB : SimB bs bs') (h : rstepF s r bs = .ok (r1, bs1)) (hg : Ag s s' d r.pos r1.pos) (hb : Bd s s' d r1.pos) (he : r1.pos + d ≤ s'.size) :
    ∃ r1' bs1', rstepF s' r' bs' = .ok (r1', bs1') ∧ SimO d r r1 r' r1' ∧ SimB bs1 bs1' := by
  have hlt := (rstep_ok hR hp hcm h).2
  have hq := quotK_in (pk s r.pos) (pk s (r.pos + 1))
  have hl := cls_lt (pk s r.pos)
  have g0 := hg r.pos (Nat.le_refl _) hlt
  unfold rstepF scanK at h ⊢
  rw [hpos, g0]
  by_cases h0 : cls (pk s r.pos) = 0
  · rw [if_pos h0] at h ⊢
    have h2 : r.pos + 2 ≤ r1.pos := by
      rcases hq with hq | hq | ⟨hq, h123⟩ | hq <;> rw [hq] at h
      · rw [byK_51] at h
        obtain ⟨e, _⟩ := liftB_ok (s := s) (r := r) h
        exact (strF_two hp hpos e hg he).1
      · rw [byK_52] at h
        obtain ⟨e, _⟩ := liftB_ok (s := s) (r := r) h
        exact (charF_two hp hpos e hg he).1
      · rw [byK_30] at h
        unfold openF at h
        rw [if_neg (by omega)] at h
        rw [pushF_pos h]
        omega
      · cases h
    have g1 := hg (r.pos + 1) (by omega) (by omega)
    rw [show r.pos + d + 1 = r.pos + 1 + d by omega, g1]
    rcases hq with hq | hq | ⟨hq, h123⟩ | hq <;> rw [hq] at h ⊢
    · rw [byK_51] at h ⊢
      obtain ⟨e, rfl⟩ := liftB_ok (s := s) (r := r) h
      obtain ⟨_, r1', q1, q2⟩ := strF_two hp hpos e hg he
      exact ⟨r1', bs', by rw [q1]; rfl, q2, hB⟩
    · rw [byK_52] at h ⊢
      obtain ⟨e, rfl⟩ := liftB_ok (s := s) (r := r) h
      obtain ⟨_, r1', q1, q2⟩ := charF_two hp hpos e hg he
      exact ⟨r1', bs', by rw [q1]; rfl, q2, hB⟩
    · rw [byK_30] at h ⊢
      have hl1 := pk_ne (s := s) (a := r.pos + 1) (by rw [h123]; decide)
      unfold openF at h ⊢
      rw [hpos, g0]
      rw [if_neg (by omega)] at h ⊢
      exact pushF_two hpos hB rfl (by omega) h hg he
    · cases h
  · rw [if_neg h0] at h ⊢
    obtain hc | hc | hc | hc | hc | hc : cls (pk s r.pos) = 1 ∨ cls (pk s r.pos) = 2 ∨ cls (pk s r.pos) = 3 ∨ cls (pk s r.pos) = 4 ∨ cls (pk s r.pos) = 5 ∨ cls (pk s r.pos) = 6 := by omega
    all_goals rw [hc] at h ⊢
    · exact wordF_two hR hc hpos hB h hg hb.cls he
    · have h' : liftB bs (numF s r) = .ok (r1, bs1) := h
      obtain ⟨e, rfl⟩ := liftB_ok (s := s) (r := r) h'
      obtain ⟨r1', q1, q2⟩ := numF_two hR.ri hc hpos e hg hb.cls he
      exact ⟨r1', bs', by show liftB bs' (numF s' r') = _; rw [q1]; rfl, q2, hB⟩
    · have h' : liftB bs (opF s r) = .ok (r1, bs1) := h
      obtain ⟨e, rfl⟩ := liftB_ok (s := s) (r := r) h'
      obtain ⟨r1', q1, q2⟩ := opF_two hR.ri hpos e hg hb he
      exact ⟨r1', bs', by show liftB bs' (opF s' r') = _; rw [q1]; rfl, q2, hB⟩
    · have h' : openF s r bs = .ok (r1, bs1) := h
      show ∃ r1' bs1', openF s' r' bs' = .ok (r1', bs1') ∧ _
      unfold openF at h' ⊢
      rw [hpos, g0]
      rw [if_pos hc] at h' ⊢
      exact pushF_two hpos hB rfl (by omega) h' hg he
    · exact endgF_two hR hp hpos hB h hg he
    · have h' : Except.ok (markF s 1 r, bs) = Except.ok (r1, bs1) := h
      injection h' with h'
      injection h' with e1 e2
      subst e1 e2
      exact ⟨markF s' 1 r', bs', rfl, markF_two hpos hp hg he, hB⟩
end Go.Proofs.YtpgcklpcohcchaaDoor
