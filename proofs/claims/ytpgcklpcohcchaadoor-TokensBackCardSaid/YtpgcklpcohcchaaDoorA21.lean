/- The layout of a list of tokens as a function on lists, and what stays true on the way. -/
import Derived.Test.YtpgcklpcohcchaaDoorA17
import Derived.Test.YtpgcklpcohcchaaDoorA19
namespace Go.Proofs.YtpgcklpcohcchaaDoor
open Go Go.RowKit

/-- What one token does. -/
def stepF (ts : List Tok) (i : Nat) (t : Tok) (s : LS) : Except (Nat × Nat) LS :=
  match i with
  | 0 => tokF 0 t { s with first := t.col, regs := ⟨⟨#[]⟩, t.col, 0⟩ :: s.regs }
  | j + 1 => match ts[j]? with
    | none => .ok s
    | some u => if u.line < t.line then (match lineF ts (j + 1) u t { s with first := t.col } with
        | .error f => .error f
        | .ok s => tokF (j + 1) t s) else tokF (j + 1) t s
def runF (ts : List Tok) : Nat → Nat → LS → Except (Nat × Nat) LS
  | 0, _, s => .ok s
  | f + 1, i, s => match ts[i]? with
    | none => .ok s
    | some t => match stepF ts i t s with
      | .error e => .error e
      | .ok s => runF ts f (i + 1) s
/-- The list with layout, or the fault. -/
def layF (ts : List Tok) : Except (Nat × Nat) (List Tok) :=
  match chkF ts with
  | some e => .error e
  | none => match runF ts ts.length 0 ⟨[], [], 0⟩ with
    | .error e => .error e
    | .ok s => match endF ts s with
      | .error e => .error e
      | .ok s => .ok s.out

/-- The first region is an indentation. -/
def Bot (rg : List Reg) : Prop := ∃ l r, rg = l ++ [r] ∧ r.mark.toList = []
theorem Bot.ne {rg : List Reg} (h : Bot rg) : rg ≠ [] := by
  obtain ⟨l, r, rfl, _⟩ := h; simp
theorem Bot.cons {rg : List Reg} (h : Bot rg) (r : Reg) : Bot (r :: rg) := by
  obtain ⟨l, r', rfl, h⟩ := h; exact ⟨r :: l, r', rfl, h⟩
theorem Bot.tail {r r2 : Reg} {rg : List Reg} (h : Bot (r :: r2 :: rg)) : Bot (r2 :: rg) := by
  obtain ⟨l, r', e, h⟩ := h
  cases l with
  | nil => simp at e
  | cons x l => simp at e; exact ⟨l, r', by rw [e.2], h⟩
theorem Bot.one {r : Reg} (h : Bot [r]) : r.mark.toList = [] := by
  obtain ⟨l, r', e, h⟩ := h
  cases l with
  | nil => simp at e; rw [e]; exact h
  | cons x l => simp at e

structure Inv (s : LS) (n : Nat) : Prop where
  bot : Bot s.regs
  few : s.regs.length ≤ 64
  sum : s.out.length + s.regs.length ≤ n

theorem clLoop_bot (t : Tok) : ∀ (rg : List Reg) (o : List Tok), Bot rg → Bot (clLoop t rg o).2 ∧ (clLoop t rg o).2.length ≤ rg.length := by
  intro rg
  induction rg with
  | nil => intro o h; exact ⟨h, Nat.le_refl _⟩
  | cons r rs ih =>
    intro o h
    cases rs with
    | nil => exact ⟨h, Nat.le_refl _⟩
    | cons r2 rs =>
      unfold clLoop
      split
      · obtain ⟨h1, h2⟩ := ih (o ++ [t.as 13]) h.tail
        exact ⟨h1, by simp at h2 ⊢; omega⟩
      · exact ⟨h, Nat.le_refl _⟩
theorem outLoop_bot (t : Tok) : ∀ (rg : List Reg) (o : List Tok) (c : Bool), Bot rg → Bot (outLoop t rg o c).2.1 ∧ (outLoop t rg o c).2.1.length ≤ rg.length := by
  intro rg
  induction rg with
  | nil => intro o c h; exact ⟨h, Nat.le_refl _⟩
  | cons r rs ih =>
    intro o c h
    cases rs with
    | nil => exact ⟨h, Nat.le_refl _⟩
    | cons r2 rs =>
      unfold outLoop
      split
      · obtain ⟨h1, h2⟩ := ih (o ++ [t.as 13]) true h.tail
        exact ⟨h1, by simp at h2 ⊢; omega⟩
      · exact ⟨h, Nat.le_refl _⟩

theorem outsF_inv {t : Tok} {s s1 : LS} {n : Nat} (h : Inv s n) (ho : outsF t s = .ok s1) : Inv s1 n := by
  have hb := outLoop_bot t s.regs s.out false h.bot
  have hl := outLoop_len t s.regs s.out false
  have h1 := h.few
  have h2 := h.sum
  unfold outsF at ho
  revert ho hb hl
  generalize outLoop t s.regs s.out false = x
  obtain ⟨o, rg, c⟩ := x
  intro ho hb hl
  simp only at hb hl
  cases rg with
  | nil => exact absurd rfl hb.1.ne
  | cons r rs =>
    simp only at ho
    split at ho
    · cases ho
    · simp only [Except.ok.injEq] at ho
      rw [← ho]
      exact ⟨hb.1, by have := hb.2; show (r :: rs).length ≤ 64; omega, by show o.length + (r :: rs).length ≤ n; omega⟩

theorem closeF_inv {t : Tok} {i : Nat} {s s1 : LS} {n : Nat} (h : Inv s n) (hc : clB t.text.toList = true) (ho : closeF i t s = .ok s1) : Inv s1 n := by
  have hb := clLoop_bot t s.regs s.out h.bot
  have hl := clLoop_len t s.regs s.out
  have h1 := h.few
  have h2 := h.sum
  unfold closeF at ho
  revert ho hb hl
  generalize clLoop t s.regs s.out = x
  obtain ⟨o, rg⟩ := x
  intro ho hb hl
  simp only at hb hl
  cases rg with
  | nil => exact absurd rfl hb.1.ne
  | cons r rs =>
    simp only at ho
    split at ho
    · cases ho
    · rename_i hm
      simp only [Except.ok.injEq] at ho
      rw [← ho]
      cases rs with
      | nil =>
        exfalso
        apply hm
        rw [hb.1.one]
        have : (clo []).toList = [] := by decide +kernel
        rw [this]
        unfold clB at hc
        cases ht : t.text.toList with
        | nil => rw [ht] at hc; simp at hc
        | cons a b => rfl
      | cons r2 rs =>
        exact ⟨hb.1.tail, by have := hb.2; show (r2 :: rs).length ≤ 64; simp at this ⊢; omega, by show o.length + (r2 :: rs).length ≤ n; simp at hl ⊢; omega⟩

theorem tokF_inv {t : Tok} {i : Nat} {s s1 : LS} {n : Nat} (h : Inv s n) (ho : tokF i t s = .ok s1) : Inv s1 (n + 2) := by
  unfold tokF at ho
  cases h1 : tokF1 i t s with
  | error f => rw [h1] at ho; cases ho
  | ok s2 =>
    rw [h1] at ho
    simp only [Except.ok.injEq] at ho
    rw [← ho]
    have hs2 : Inv s2 (n + 1) := by
      unfold tokF1 at h1
      split at h1
      · split at h1
        · split at h1
          · cases h1
          · simp only [Except.ok.injEq] at h1
            rw [← h1]
            have := h.few
            have := h.sum
            exact ⟨h.bot.cons _, by show (_ :: s.regs).length ≤ 64; simp; omega, by show s.out.length + (_ :: s.regs).length ≤ _; simp; omega⟩
        · split at h1
          · rename_i hc
            have := closeF_inv h hc h1
            exact ⟨this.bot, this.few, by have := this.sum; omega⟩
          · simp only [Except.ok.injEq] at h1
            rw [← h1]
            exact ⟨h.bot, h.few, by have := h.sum; omega⟩
      · simp only [Except.ok.injEq] at h1
        rw [← h1]
        exact ⟨h.bot, h.few, by have := h.sum; omega⟩
    exact ⟨hs2.bot, hs2.few, by have := hs2.sum; show (s2.out ++ [t]).length + s2.regs.length ≤ _; simp; omega⟩

theorem lineF_inv {ts : List Tok} {u t : Tok} {i : Nat} {s s1 : LS} {n : Nat} (h : Inv s n) (ho : lineF ts i u t s = .ok s1) : Inv s1 (n + 3) := by
  unfold lineF at ho
  cases hr : s.regs with
  | nil => exact absurd hr h.bot.ne
  | cons r rs =>
    rw [hr] at ho
    simp only at ho
    split at ho
    · simp only [Except.ok.injEq] at ho
      rw [← ho]
      exact ⟨h.bot, h.few, by have := h.sum; omega⟩
    · cases h1 : lineF1 i u t r s with
      | error f => rw [h1] at ho; cases ho
      | ok s2 =>
        rw [h1] at ho
        simp only [Except.ok.injEq] at ho
        rw [← ho]
        have hs2 : Inv s2 (n + 2) := by
          unfold lineF1 at h1
          split at h1
          · split at h1
            · cases h1
            · simp only [Except.ok.injEq] at h1
              rw [← h1]
              have := h.few
              have := h.sum
              exact ⟨h.bot.cons _, by show (_ :: s.regs).length ≤ 64; simp; omega, by show (s.out ++ [_]).length + (_ :: s.regs).length ≤ _; simp; omega⟩
          · have := outsF_inv h h1
            exact ⟨this.bot, this.few, by have := this.sum; omega⟩
        unfold lineF2
        split
        · exact ⟨hs2.bot, hs2.few, by have := hs2.sum; show (s2.out ++ [_]).length + s2.regs.length ≤ _; simp; omega⟩
        · exact ⟨hs2.bot, hs2.few, by have := hs2.sum; omega⟩
end Go.Proofs.YtpgcklpcohcchaaDoor
