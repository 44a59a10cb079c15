/- In a list with layout Indents and Outdents match, and Stop is its last token and only that: on lists. -/
import Derived.Test.YtpgcklpcohcchaaDoorS18
namespace Go.Proofs.YtpgcklpcohcchaaDoor
open Go Go.RowKit

def dlt (k : Nat) : Int := if k = 12 then 1 else if k = 13 then -1 else 0
/-- Indents less Outdents. -/
def depL : List Tok → Int
  | [] => 0
  | t :: l => dlt t.kind + depL l
theorem depL_app (a b : List Tok) : depL (a ++ b) = depL a + depL b := by
  induction a with
  | nil => simp [depL]
  | cons t a ih => simp [depL, ih]; omega
theorem depL_snoc (a : List Tok) (t : Tok) : depL (a ++ [t]) = depL a + dlt t.kind := by rw [depL_app]; simp [depL]

/-- How many indentations stand above the first region. -/
def indN : List Reg → Nat
  | r :: r2 :: rs => (if r.mark.toList.isEmpty then 1 else 0) + indN (r2 :: rs)
  | _ => 0

structure DI (o : List Tok) (rg : List Reg) : Prop where
  dep : depL o = indN rg
  pre : ∀ n, 0 ≤ depL (o.take n)
  nostop : ∀ t ∈ o, t.kind ≠ 14

theorem DI.snoc {o : List Tok} {rg rg' : List Reg} {t : Tok} (h : DI o rg) (hk : t.kind ≠ 14) (hr : (indN rg' : Int) = indN rg + dlt t.kind) : DI (o ++ [t]) rg' := by
  refine ⟨by rw [depL_snoc, h.dep, hr], fun n => ?_, fun u hu => ?_⟩
  · by_cases hn : n ≤ o.length
    · rw [List.take_append_of_le_length hn]; exact h.pre n
    · rw [List.take_of_length_le (by simp; omega), depL_snoc, h.dep]; omega
  · rcases List.mem_append.1 hu with hu | hu
    · exact h.nostop u hu
    · simp at hu; subst hu; exact hk
theorem DI.regs {o : List Tok} {rg rg' : List Reg} (h : DI o rg) (hr : indN rg' = indN rg) : DI o rg' := ⟨by rw [h.dep, hr], h.pre, h.nostop⟩

theorem outLoop_di (t : Tok) : ∀ (rg : List Reg) (o : List Tok) (c : Bool), DI o rg → DI (outLoop t rg o c).1 (outLoop t rg o c).2.1 := by
  intro rg
  induction rg with
  | nil => intro o c h; exact h
  | cons r rs ih =>
    intro o c h
    cases rs with
    | nil => exact h
    | cons r2 rs =>
      unfold outLoop
      split
      · rename_i hm
        have he : r.mark.toList.isEmpty = true := by simp only [Bool.and_eq_true] at hm; exact hm.1
        refine ih _ _ (h.snoc (by simp [Tok.as]) ?_)
        simp only [indN, he, if_true, Tok.as, dlt]
        simp
        omega
      · exact h
theorem clLoop_di (t : Tok) : ∀ (rg : List Reg) (o : List Tok), DI o rg → DI (clLoop t rg o).1 (clLoop t rg o).2 := by
  intro rg
  induction rg with
  | nil => intro o h; exact h
  | cons r rs ih =>
    intro o h
    cases rs with
    | nil => exact h
    | cons r2 rs =>
      unfold clLoop
      split
      · rename_i hm
        refine ih _ (h.snoc (by simp [Tok.as]) ?_)
        simp only [indN, hm, if_true, Tok.as, dlt]
        simp
        omega
      · exact h

theorem outsF_di {t : Tok} {s s1 : LS} (h : DI s.out s.regs) (ho : outsF t s = .ok s1) : DI s1.out s1.regs := by
  have hb := outLoop_di t s.regs s.out false h
  unfold outsF at ho
  revert ho hb
  generalize outLoop t s.regs s.out false = x
  obtain ⟨o, rg, c⟩ := x
  intro ho hb
  simp only at hb
  cases rg with
  | nil => simp only [Except.ok.injEq] at ho; rw [← ho]; exact hb
  | cons r rs =>
    simp only at ho
    split at ho
    · cases ho
    · simp only [Except.ok.injEq] at ho; rw [← ho]; exact hb

theorem indN_cons {r : Reg} {rs : List Reg} (h : r.mark.toList ≠ []) : indN (r :: rs) = indN rs := by
  cases rs with
  | nil => rfl
  | cons r2 rs =>
    have : r.mark.toList.isEmpty = false := by cases hm : r.mark.toList with
      | nil => exact absurd hm h
      | cons a b => rfl
    simp [indN, this]

theorem closeF_di {t : Tok} {i : Nat} {s s1 : LS} (h : DI s.out s.regs) (hc : clB t.text.toList = true) (ho : closeF i t s = .ok s1) : DI s1.out s1.regs := by
  have hb := clLoop_di t s.regs s.out h
  unfold closeF at ho
  revert ho hb
  generalize clLoop t s.regs s.out = x
  obtain ⟨o, rg⟩ := x
  intro ho hb
  simp only at hb
  cases rg with
  | nil => simp only [Except.ok.injEq] at ho; rw [← ho]; exact hb
  | cons r rs =>
    simp only at ho
    split at ho
    · cases ho
    · rename_i hm
      simp only [Except.ok.injEq] at ho
      rw [← ho]
      refine hb.regs (indN_cons ?_).symm
      intro hr
      apply hm
      rw [hr]
      have : (clo []).toList = [] := by decide +kernel
      rw [this]
      unfold clB at hc
      cases ht : t.text.toList with
      | nil => rw [ht] at hc; simp at hc
      | cons a b => rfl

theorem tokF_di {t : Tok} {i : Nat} {s s1 : LS} (h : DI s.out s.regs) (hk : t.kind ≤ 10) (ho : tokF i t s = .ok s1) : DI s1.out s1.regs := by
  unfold tokF at ho
  cases h1 : tokF1 i t s with
  | error f => rw [h1] at ho; cases ho
  | ok s2 =>
    rw [h1] at ho
    simp only [Except.ok.injEq] at ho
    rw [← ho]
    have hs2 : DI s2.out s2.regs := by
      unfold tokF1 at h1
      split at h1
      · split at h1
        · rename_i hop
          split at h1
          · cases h1
          · simp only [Except.ok.injEq] at h1
            rw [← h1]
            refine h.regs (indN_cons ?_)
            intro he
            simp only at he
            rw [he] at hop
            revert hop
            decide
        · split at h1
          · rename_i hc
            exact closeF_di h hc h1
          · simp only [Except.ok.injEq] at h1
            rw [← h1]
            exact h
      · simp only [Except.ok.injEq] at h1
        rw [← h1]
        exact h
    refine hs2.snoc (by omega) ?_
    unfold dlt
    rw [if_neg (by omega), if_neg (by omega)]
    simp

theorem lineF_di {ts : List Tok} {u t : Tok} {i : Nat} {s s1 : LS} (h : DI s.out s.regs) (ho : lineF ts i u t s = .ok s1) : DI s1.out s1.regs := by
  unfold lineF at ho
  cases hr : s.regs with
  | nil =>
    rw [hr] at ho
    simp only [Except.ok.injEq] at ho
    rw [← ho, ← hr] at *
    exact h
  | cons r rs =>
    rw [hr] at ho
    simp only at ho
    split at ho
    · simp only [Except.ok.injEq] at ho
      rw [← ho]
      exact h
    · cases h1 : lineF1 i u t r s with
      | error f => rw [h1] at ho; cases ho
      | ok s2 =>
        rw [h1] at ho
        simp only [Except.ok.injEq] at ho
        rw [← ho]
        have hs2 : DI s2.out s2.regs := by
          unfold lineF1 at h1
          split at h1
          · split at h1
            · cases h1
            · simp only [Except.ok.injEq] at h1
              rw [← h1]
              refine h.snoc (by simp [Tok.as]) ?_
              rw [hr]
              simp [indN, Tok.as, dlt]
              omega
          · exact outsF_di h h1
        unfold lineF2
        split
        · exact hs2.snoc (by simp [Tok.as]) (by simp [Tok.as, dlt])
        · exact hs2

theorem runF_di {ts : List Tok} (hk : ∀ (j : Nat) (t : Tok), ts[j]? = some t → t.kind ≤ 10) : ∀ (f i : Nat) (s s1 : LS), DI s.out s.regs → (i = 0 → s.regs = []) → runF ts f i s = .ok s1 → DI s1.out s1.regs := by
  intro f
  induction f with
  | zero =>
    intro i s s1 h h0 hr
    simp only [runF, Except.ok.injEq] at hr
    rw [← hr]
    exact h
  | succ f ih =>
    intro i s s1 h h0 hr
    unfold runF at hr
    split at hr
    · simp only [Except.ok.injEq] at hr
      rw [← hr]
      exact h
    · rename_i t ht
      split at hr
      · cases hr
      · rename_i s2 hs
        refine ih (i + 1) s2 s1 ?_ (fun e => by omega) hr
        unfold stepF at hs
        split at hs
        · refine tokF_di ?_ (hk _ _ ht) hs
          have := h0 rfl
          simp only
          rw [this]
          rw [this] at h
          exact h.regs rfl
        · rename_i j
          split at hs
          · simp only [Except.ok.injEq] at hs
            rw [← hs]
            exact h
          · rename_i u hu
            split at hs
            · split at hs
              · cases hs
              · rename_i s3 hl
                exact tokF_di (lineF_di (s := { s with first := t.col }) h hl) (hk _ _ ht) hs
            · exact tokF_di h (hk _ _ ht) hs

/-- A list with layout. -/
theorem layF_match {ts out : List Tok} (h : layF ts = .ok out) : ∃ o st, out = o ++ [st] ∧ st.kind = 14 ∧ depL o = 0 ∧ (∀ n, 0 ≤ depL (o.take n)) ∧ ∀ t ∈ o, t.kind ≠ 14 := by
  unfold layF at h
  split at h
  · cases h
  · rename_i hc
    obtain ⟨_, _, hk⟩ := chkF_none hc
    split at h
    · cases h
    · rename_i s hs
      have hd := runF_di hk _ _ _ _ (by exact ⟨rfl, fun n => by simp [depL], fun t ht => by simp at ht⟩) (fun _ => rfl) hs
      split at h
      · cases h
      · rename_i s1 he
        injection h with h
        subst h
        have hcl := clLoop_di (stopT ts) s.regs s.out hd
        unfold endF at he
        revert he hcl
        generalize clLoop (stopT ts) s.regs s.out = x
        obtain ⟨o, rg⟩ := x
        intro he hcl
        simp only at hcl
        have hst : (stopT ts).kind = 14 := by unfold stopT; split <;> rfl
        cases rg with
        | nil =>
          simp only [Except.ok.injEq] at he
          rw [← he]
          exact ⟨o, _, rfl, hst, by have := hcl.dep; simpa [indN] using this, hcl.pre, hcl.nostop⟩
        | cons r rs =>
          cases rs with
          | nil =>
            simp only [Except.ok.injEq] at he
            rw [← he]
            exact ⟨o, _, rfl, hst, by have := hcl.dep; simpa [indN] using this, hcl.pre, hcl.nostop⟩
          | cons r2 rs => cases he

theorem tokF_coded (i : Nat) (t : Tok) (s : LS) : Coded (tokF i t s) := by
  unfold tokF
  split
  · rename_i f hf
    intro g hg
    injection hg with hg
    subst hg
    unfold tokF1 at hf
    split at hf
    · split at hf
      · split at hf
        · injection hf with hf; subst hf; simp
        · cases hf
      · split at hf
        · unfold closeF at hf
          split at hf
          · split at hf
            · injection hf with hf; subst hf; simp
            · cases hf
          · cases hf
        · cases hf
    · cases hf
  · exact Coded.ok _
theorem outsF_coded (t : Tok) (s : LS) : Coded (outsF t s) := by
  unfold outsF
  split
  · exact Coded.ite (Coded.err (by decide)) (Coded.ok _)
  · exact Coded.ok _
theorem lineF_coded (ts : List Tok) (i : Nat) (u t : Tok) (s : LS) : Coded (lineF ts i u t s) := by
  unfold lineF
  split
  · exact Coded.ok _
  · refine Coded.ite (Coded.ok _) ?_
    split
    · rename_i f hf
      intro g hg
      injection hg with hg
      subst hg
      unfold lineF1 at hf
      split at hf
      · split at hf
        · injection hf with hf; subst hf; simp
        · cases hf
      · exact outsF_coded _ _ _ hf
    · exact Coded.ok _
theorem stepF_coded (ts : List Tok) (i : Nat) (t : Tok) (s : LS) : Coded (stepF ts i t s) := by
  unfold stepF
  split
  · exact tokF_coded _ _ _
  · split
    · exact Coded.ok _
    · refine Coded.ite ?_ (tokF_coded _ _ _)
      split
      · rename_i f hf
        intro g hg
        injection hg with hg
        subst hg
        exact lineF_coded _ _ _ _ _ _ hf
      · exact tokF_coded _ _ _
theorem runF_coded (ts : List Tok) : ∀ (f i : Nat) (s : LS), Coded (runF ts f i s) := by
  intro f
  induction f with
  | zero => intro i s; exact Coded.ok _
  | succ f ih =>
    intro i s
    unfold runF
    split
    · exact Coded.ok _
    · split
      · rename_i e he
        intro g hg
        injection hg with hg
        subst hg
        exact stepF_coded _ _ _ _ _ he
      · exact ih _ _
theorem chkL_coded (ts : List Tok) : ∀ (f i : Nat) (e : Nat × Nat), chkL ts f i = some e → e.2 ≠ 0 := by
  intro f
  induction f with
  | zero => intro i e h; cases h
  | succ f ih =>
    intro i e h
    unfold chkL at h
    split at h
    · rename_i x hx
      injection h with h
      subst h
      unfold chkAt at hx
      split at hx
      · cases hx
      · split at hx
        · injection hx with hx; subst hx; simp
        · split at hx
          · cases hx
          · split at hx
            · cases hx
            · split at hx
              · cases hx
              · injection hx with hx; subst hx; simp
    · exact ih _ _ h
theorem layF_coded (ts : List Tok) : Coded (layF ts) := by
  unfold layF
  split
  · rename_i e he
    intro g hg
    injection hg with hg
    subst hg
    unfold chkF at he
    split at he
    · rename_i x hx
      injection he with he
      subst he
      exact chkL_coded _ _ _ _ hx
    · split at he
      · injection he with he; subst he; simp
      · cases he
  · split
    · rename_i e he
      intro g hg
      injection hg with hg
      subst hg
      exact runF_coded _ _ _ _ _ he
    · split
      · rename_i e he
        intro g hg
        injection hg with hg
        subst hg
        unfold endF at he
        split at he
        · injection he with he; subst he; simp
        · cases he
      · exact Coded.ok _
end Go.Proofs.YtpgcklpcohcchaaDoor
