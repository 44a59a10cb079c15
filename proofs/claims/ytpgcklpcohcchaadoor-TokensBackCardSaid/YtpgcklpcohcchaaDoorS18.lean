/- What Raw's lists are like; Layout of any list of these. -/
import Derived.Test.YtpgcklpcohcchaaDoorS17
namespace Go.Proofs.YtpgcklpcohcchaaDoor
open Go Go.RowKit

/-- No fault has the code 0. -/
def Coded {α : Type} (x : Except (Nat × Nat) α) : Prop := ∀ f, x = .error f → f.2 ≠ 0
theorem Coded.ok {α : Type} (a : α) : Coded (.ok a : Except (Nat × Nat) α) := fun f h => by cases h
theorem Coded.err {α : Type} {a c : Nat} (h : c ≠ 0) : Coded (.error (a, c) : Except (Nat × Nat) α) := fun f e => by injection e with e; subst e; exact h
theorem Coded.ite {α : Type} {c : Prop} [Decidable c] {x y : Except (Nat × Nat) α} (h1 : Coded x) (h2 : Coded y) : Coded (if c then x else y) := by split <;> assumption

theorem varF_coded (s : ByteArray) (r : RSt) : Coded (varF s r) := by
  unfold varF varEnd
  refine Coded.ite ?_ (Coded.err (by decide))
  split
  · exact Coded.err (by decide)
  · exact Coded.ite (Coded.err (by decide)) (Coded.ok _)
theorem pushF_coded (s : ByteArray) (n : Nat) (lit : Option Nat) (r : RSt) (bs : List Brk) : Coded (pushF s n lit r bs) := Coded.ite (Coded.err (by decide)) (Coded.ok _)
theorem partsF_coded (s : ByteArray) (lit : Nat) (bs : List Brk) : ∀ (f : Nat) (r : RSt), Coded (partsF s lit bs f r) := by
  intro f
  induction f with
  | zero => intro r; exact Coded.ok _
  | succ f ih =>
    intro r
    rw [partsF_succ]
    split
    · exact Coded.err (by decide)
    · refine Coded.ite (Coded.ok _) (Coded.ite (pushF_coded _ _ _ _ _) ?_)
      split
      · rename_i e he
        intro f hf
        injection hf with hf
        subst hf
        exact varF_coded _ _ _ he
      · exact ih _
theorem liftB_coded {bs : List Brk} {x : Except (Nat × Nat) RSt} (h : Coded x) : Coded (liftB bs x) := by
  cases x with
  | ok r => exact Coded.ok _
  | error f => intro g hg; injection hg with hg; subst hg; exact h f rfl
theorem numF_coded (s : ByteArray) (r : RSt) : Coded (numF s r) := by
  unfold numF numEnd numFin
  exact Coded.ite (Coded.ite (Coded.err (by decide)) (Coded.ite (Coded.err (by decide)) (Coded.ok _))) (Coded.ite (Coded.err (by decide)) (Coded.ite (Coded.err (by decide)) (Coded.ok _)))
theorem opF_coded (s : ByteArray) (r : RSt) : Coded (opF s r) := by
  unfold opF opEnd
  exact Coded.ite (Coded.ok _) (Coded.ite (Coded.err (by decide)) (Coded.ok _))
theorem wordF_coded (s : ByteArray) (r : RSt) (bs : List Brk) : Coded (wordF s r bs) := by
  unfold wordF wordEnd
  split
  · exact Coded.err (by decide)
  · exact Coded.ite (partsF_coded _ _ _ _ _) (Coded.ok _)
theorem endgF_coded (s : ByteArray) (r : RSt) (bs : List Brk) : Coded (endgF s r bs) := by
  cases bs with
  | nil => exact Coded.err (by decide)
  | cons b rest =>
    show Coded (if (clo b.mark.toList).toList = (s.extract r.pos (r.pos + 1)).toList then endLit s b.lit (markF s 1 r) rest else .error (r.pos, 27))
    refine Coded.ite ?_ (Coded.err (by decide))
    unfold endLit
    split
    · exact Coded.ok _
    · exact partsF_coded _ _ _ _ _
theorem strF_coded (s : ByteArray) (r : RSt) : Coded (strF s r) := by
  unfold strF
  split
  · exact Coded.err (by decide)
  · exact Coded.ok _
theorem charF_coded (s : ByteArray) (r : RSt) : Coded (charF s r) := by
  unfold charF
  split
  · exact Coded.err (by decide)
  · exact Coded.ite (Coded.ok _) (Coded.err (by decide))
theorem rstepF_coded (s : ByteArray) (r : RSt) (bs : List Brk) : Coded (rstepF s r bs) := by
  unfold rstepF byK openF
  exact Coded.ite (wordF_coded _ _ _) (Coded.ite (liftB_coded (numF_coded _ _)) (Coded.ite (liftB_coded (opF_coded _ _)) (Coded.ite (Coded.ite (pushF_coded _ _ _ _ _) (pushF_coded _ _ _ _ _)) (Coded.ite (endgF_coded _ _ _) (Coded.ite (Coded.ok _) (Coded.ite (liftB_coded (strF_coded _ _)) (Coded.ite (liftB_coded (charF_coded _ _)) (Coded.err (by decide)))))))))
theorem rawL_coded (s : ByteArray) : ∀ (f : Nat) (r : RSt) (bs : List Brk), Coded (rawL s f r bs) := by
  intro f
  induction f with
  | zero => intro r bs; exact Coded.ok _
  | succ f ih =>
    intro r bs
    rw [rawL_succ]
    refine Coded.ite ?_ (Coded.ok _)
    split
    · rename_i e he
      intro f hf
      injection hf with hf
      subst hf
      exact rstepF_coded _ _ _ _ he
    · split
      · exact Coded.err (by decide)
      · exact ih _ _
theorem rawF_coded (s : ByteArray) : Coded (rawF s) := by
  unfold rawF
  split
  · rename_i e he
    intro f hf
    injection hf with hf
    subst hf
    unfold bytesF at he
    split at he
    · injection he with he; subst he; decide
    · split at he
      · injection he with he; subst he; simp
      · cases he
  · intro f hf
    unfold rawFin at hf
    split at hf
    · rename_i e he
      injection hf with hf
      subst hf
      unfold rawS at he
      split at he
      · injection he with he; subst he; simp
      · exact rawL_coded _ _ _ _ _ he
    · rename_i r bs he
      cases bs with
      | nil => cases hf
      | cons b rest => injection hf with hf; subst hf; simp

theorem rawL_ok {s : ByteArray} : ∀ (f : Nat) (r r' : RSt) (bs bs' : List Brk), RG s r bs → comB s r.pos = false → rawL s f r bs = .ok (r', bs') → RG s r' bs' := by
  intro f
  induction f with
  | zero =>
    intro r r' bs bs' hg hc h
    injection h with h
    injection h with e1 e2
    subst e1 e2
    exact hg
  | succ f ih =>
    intro r r' bs bs' hg hc h
    rw [rawL_succ] at h
    split at h
    · rename_i hlt
      split at h
      · cases h
      · rename_i r1 bs1 hst
        obtain ⟨hg1, hp1⟩ := rstep_ok hg hlt hc hst
        split at h
        · cases h
        · rename_i k hk
          have hk1 := skipF_ok _ _ _ (by omega) hg1.ri.pos hk
          exact ih _ r' bs1 bs' ⟨hg1.ri.move (by have := hg1.ri.told; omega) hk1.2.1, by have := hg1.few; simp only; omega, hg1.brk⟩ hk1.2.2 h
    · injection h with h
      injection h with e1 e2
      subst e1 e2
      exact hg

/-- Of a list that Raw returns: sizes. -/
theorem rawF_ok {s : ByteArray} {l : List Tok} (h : rawF s = .ok l) : l.length ≤ 131072 ∧ s.size ≤ 65536 ∧ ∀ t ∈ l, t.pos ≤ s.size ∧ t.line ≤ s.size ∧ t.text.size ≤ s.size ∧ t.kind ≤ 10 := by
  unfold rawF at h
  split at h
  · cases h
  · rename_i hb
    have hs := bytesF_size hb
    unfold rawFin at h
    split at h
    · cases h
    · rename_i r bs hr
      cases bs with
      | cons b rest => cases h
      | nil =>
        injection h with h
        subst h
        unfold rawS at hr
        split at hr
        · cases hr
        · rename_i k hk
          have hk0 := skipF_ok _ _ _ (by omega) (Nat.zero_le _) hk
          have hg := rawL_ok _ _ _ _ _ ⟨⟨hk0.2.1, Nat.zero_le _, Nat.le_refl _, Nat.le_refl _, by simp⟩, by simp, by simp⟩ hk0.2.2 hr
          have h1 := hg.few
          have h2 := hg.ri.pos
          exact ⟨by omega, hs, hg.ri.toks⟩

theorem chkL_none {ts : List Tok} : ∀ (f i : Nat), chkL ts f i = none → ∀ j, i ≤ j → j < i + f → chkAt ts j = none := by
  intro f
  induction f with
  | zero => intro i h j h1 h2; omega
  | succ f ih =>
    intro i h j h1 h2
    unfold chkL at h
    split at h
    · cases h
    · rename_i hc
      by_cases e : j = i
      · subst e; exact hc
      · exact ih (i + 1) h j (by omega) (by omega)
/-- A list without a fault ahead of its layout. -/
theorem chkF_none {ts : List Tok} (h : chkF ts = none) : ts.length ≤ 20000 ∧ (∀ (j : Nat) (u t : Tok), ts[j]? = some u → ts[j + 1]? = some t → folT u t = true) ∧ ∀ (j : Nat) (t : Tok), ts[j]? = some t → t.kind ≤ 10 := by
  unfold chkF at h
  split at h
  · cases h
  · rename_i hc
    split at h
    · cases h
    · refine ⟨by omega, fun j u t hu ht => ?_, fun j t ht => ?_⟩
      · have hlt := (List.getElem?_eq_some_iff.1 ht).1
        have := chkL_none _ _ hc (j + 1) (by omega) (by omega)
        unfold chkAt at this
        rw [ht] at this
        simp only [hu] at this
        split at this
        · cases this
        · split at this
          · assumption
          · cases this
      · have hlt := (List.getElem?_eq_some_iff.1 ht).1
        have := chkL_none _ _ hc j (by omega) (by omega)
        unfold chkAt at this
        rw [ht] at this
        simp only at this
        split at this
        · cases this
        · omega
theorem folT_pos {u t : Tok} (h : folT u t = true) : u.pos ≤ t.pos := by
  unfold folT at h
  split at h
  · cases h
  · rename_i hn
    have := fun e => hn (.inr (.inl e))
    omega

theorem layout_any (X : Nat → Prop) (w : World) (lv : Value) (ts : List Tok) (hl : LL X w lv ts) (hX : ∀ b, X b → b < w.heap.size) (hn : ts.length ≤ 1000000)
    (hsz : ∀ t ∈ ts, t.pos ≤ 1000000 ∧ t.line ≤ 1000000 ∧ t.text.size ≤ 1000000) :
    Calls Tryd.prog 21 #[lv] w (LayRes X w (layF ts)) := by
  cases hc : chkF ts with
  | some f =>
    have e : layF ts = .error f := by simp only [layF, hc]
    rw [e]
    exact layout_chk X w lv ts hl hX hn f hc
  | none =>
    obtain ⟨h1, h2, _⟩ := chkF_none hc
    exact layout_run X w lv ts hl hX h1 hc (fun i t ht => hsz t (List.mem_of_getElem? ht)) (fun j u t hu ht => folT_pos (h2 j u t hu ht))
end Go.Proofs.YtpgcklpcohcchaaDoor
