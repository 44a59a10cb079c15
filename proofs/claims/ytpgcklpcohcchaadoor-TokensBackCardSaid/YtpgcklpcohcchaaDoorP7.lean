/- The reader's lists: lines, order, and how many interpolated strings are open. A blank in front of a token: the reader's list of the new text. A blank in front of a token: the lists of the two texts. -/
import Derived.Test.YtpgcklpcohcchaaDoorP4
namespace Go.Proofs.YtpgcklpcohcchaaDoor
open Go Go.RowKit

/-- Line feeds in front of a place. -/
def lfN (s : ByteArray) : Nat → Nat
  | 0 => 0
  | n + 1 => lfN s n + if pk s n = 10 then 1 else 0

theorem advF_lf (s : ByteArray) : ∀ (f t li st : Nat), li = lfN s t → (advF s f t li st).1 = lfN s (t + f) := by
  intro f
  induction f with
  | zero => intro t li st h; exact h
  | succ f ih =>
    intro t li st h
    unfold advF
    split
    · rename_i h10
      rw [ih (t + 1) (li + 1) (t + 1) (by simp [lfN, h10, h])]
      congr 1
      omega
    · rename_i h10
      rw [ih (t + 1) li st (by simp [lfN, h10, h])]
      congr 1
      omega

/-- The list's lines and its order. -/
structure RL (s : ByteArray) (r : RSt) : Prop where
  line : r.line = lfN s r.told
  toks : ∀ t ∈ r.out, t.line = lfN s t.pos ∧ t.pos ≤ r.told
  sorted : r.out.Pairwise fun t u => t.pos ≤ u.pos

theorem RL.add {s : ByteArray} {r : RSt} (h : RL s r) (kd : Nat) (tx : ByteArray) {p : Nat} (k : Nat) (hp : r.told ≤ p) : RL s { addF s kd tx p r with pos := k } := by
  have hl : (advF s (p - r.told) r.told r.line r.start).1 = lfN s p := by
    rw [advF_lf s _ _ _ _ h.line]
    congr 1
    omega
  refine ⟨hl, fun t ht => ?_, ?_⟩
  · simp only [addF, List.mem_append, List.mem_singleton] at ht
    rcases ht with ht | rfl
    · have := h.toks t ht
      exact ⟨this.1, Nat.le_trans this.2 hp⟩
    · exact ⟨hl, Nat.le_refl _⟩
  · show (r.out ++ [_]).Pairwise _
    rw [List.pairwise_append]
    refine ⟨h.sorted, by simp, fun t ht u hu => ?_⟩
    simp only [List.mem_singleton] at hu
    subst hu
    exact Nat.le_trans (h.toks t ht).2 hp
theorem RL.move {s : ByteArray} {r : RSt} (h : RL s r) (k : Nat) : RL s { r with pos := k } := ⟨h.line, h.toks, h.sorted⟩

/-- Interpolated strings that are open. -/
def stK (k : Nat) : Int := if k = 8 then 1 else if k = 10 then -1 else 0
def stN : List Tok → Int
  | [] => 0
  | t :: l => stK t.kind + stN l
theorem stN_app (a b : List Tok) : stN (a ++ b) = stN a + stN b := by
  induction a with
  | nil => simp [stN]
  | cons t a ih => simp [stN, ih]; omega
def litN : List Brk → Nat
  | [] => 0
  | b :: bs => (if b.lit.isSome then 1 else 0) + litN bs

/-- Within n, behind o, some interpolated string is open in front of each token. -/
def In1 (o n : List Tok) : Prop := ∀ j, j < n.length → 1 ≤ stN (o ++ n.take j)
theorem In1.nil (o : List Tok) : In1 o [] := fun j h => by simp at h
theorem In1.cons {o n : List Tok} {t : Tok} (h : 1 ≤ stN o) (k : In1 (o ++ [t]) n) : In1 o (t :: n) := by
  intro j hj
  cases j with
  | zero => simpa using h
  | succ j =>
    have := k j (by simpa using hj)
    simpa using this

/-- What a step adds. -/
structure New (r r1 : RSt) (bs1 : List Brk) : Prop where
  ex : ∃ t n, r1.out = r.out ++ t :: n ∧ t.pos = r.pos ∧ In1 (r.out ++ [t]) n
  st : stN r1.out = litN bs1

theorem varF_add {s : ByteArray} {r r2 : RSt} (hi : RI s r) (hl : RL s r) (h : varF s r = .ok r2) : RL s r2 ∧ ∃ t, r2.out = r.out ++ [t] ∧ stK t.kind = 0 := by
  unfold varF at h
  split at h
  · unfold varEnd at h
    split at h
    · cases h
    · rename_i kd hk
      split at h
      · cases h
      · injection h with h
        subst h
        refine ⟨hl.add kd _ _ (by have := hi.told; omega), ⟨kd, _, _, _, _⟩, rfl, ?_⟩
        have := wkF_le hk
        unfold stK
        rw [if_neg (by simp only; omega), if_neg (by simp only; omega)]
  · cases h

theorem pushF_add {s : ByteArray} {n : Nat} {lit : Option Nat} {r r1 : RSt} {bs bs1 : List Brk} (hi : RI s r) (hl : RL s r) (h : pushF s n lit r bs = .ok (r1, bs1)) : RL s r1 ∧ (∃ t, r1.out = r.out ++ [t] ∧ t.pos = r.pos ∧ stK t.kind = 0) ∧ litN bs1 = (if lit.isSome then 1 else 0) + litN bs := by
  unfold pushF at h
  split at h
  · cases h
  · injection h with h
    injection h with e1 e2
    subst e1 e2
    exact ⟨hl.add 3 _ _ hi.told, ⟨⟨3, _, _, _, _⟩, rfl, rfl, rfl⟩, rfl⟩

theorem partsF_add {s : ByteArray} {lit : Nat} {bs bs' : List Brk} : ∀ (f : Nat) (r r' : RSt), s.size < r.pos + f → RI s r → RL s r → r.out.length + 1 ≤ 2 * r.pos → bs.length ≤ 64 → stN r.out = litN bs + 1 → partsF s lit bs f r = .ok (r', bs') →
    RL s r' ∧ (∃ n, r'.out = r.out ++ n ∧ In1 r.out n) ∧ stN r'.out = litN bs' := by
  intro f
  induction f with
  | zero => intro r r' hf hi; have := hi.pos; omega
  | succ f ih =>
    intro r r' hf hi hl hn hb hst h
    rw [partsF_succ] at h
    split at h
    · cases h
    · rename_i o k hc
      obtain ⟨hk1, hk2, hk3, hk4⟩ := charsF_in (by decide) (by decide) hi.pos hc
      have hsz : (⟨o.toArray⟩ : ByteArray).size ≤ s.size := by show o.toArray.size ≤ s.size; simpa using hk3
      have hri : RI s (addF s 9 ⟨o.toArray⟩ r.pos { r with pos := k }) := hi.add hi.told hk2 (by omega) hsz (by omega)
      have hrl : RL s (addF s 9 ⟨o.toArray⟩ r.pos { r with pos := k }) := hl.add 9 _ k hi.told
      have hln : (addF s 9 ⟨o.toArray⟩ r.pos { r with pos := k }).out.length ≤ 2 * k := by
        simp [addF]
        omega
      have hpk : (addF s 9 ⟨o.toArray⟩ r.pos { r with pos := k }).pos = k := rfl
      have hot : (addF s 9 ⟨o.toArray⟩ r.pos { r with pos := k }).told ≤ k := hk2
      obtain ⟨t, hout, htk⟩ : ∃ t, (addF s 9 ⟨o.toArray⟩ r.pos { r with pos := k }).out = r.out ++ [t] ∧ stK t.kind = 0 := ⟨⟨9, _, _, _, _⟩, rfl, rfl⟩
      generalize addF s 9 ⟨o.toArray⟩ r.pos { r with pos := k } = r2 at *
      have hst2 : stN r2.out = litN bs + 1 := by rw [hout, stN_app, hst]; simp [stN, htk]
      subst hpk
      split at h
      · injection h with h
        injection h with e1 e2
        subst e1 e2
        refine ⟨hrl.add 10 _ _ hot, ⟨[t, ⟨10, ⟨#[]⟩, r2.pos, _, _⟩], by show r2.out ++ [_] = _; rw [hout]; simp; exact ⟨rfl, rfl⟩, ?_⟩, ?_⟩
        · exact In1.cons (by rw [hst]; omega) (In1.cons (by rw [← hout, hst2]; omega) (In1.nil _))
        · show stN (r2.out ++ [_]) = _
          rw [stN_app, hst2]
          simp [stN, stK]
          omega
      · split at h
        · obtain ⟨p1, ⟨u, p2, _, p3⟩, p4⟩ := pushF_add hri hrl h
          refine ⟨p1, ⟨[t, u], by rw [p2, hout]; simp, In1.cons (by rw [hst]; omega) (In1.cons (by rw [← hout, hst2]; omega) (In1.nil _))⟩, ?_⟩
          rw [p2, stN_app, hst2, p4]
          simp [stN, p3]
          omega
        · split at h
          · cases h
          · rename_i r3 hv
            obtain ⟨v1, v2, v3⟩ := varF_ok hri (by omega) hv
            obtain ⟨q1, u, q2, q3⟩ := varF_add hri hrl hv
            have hst3 : stN r3.out = litN bs + 1 := by rw [q2, stN_app, hst2]; simp [stN, q3]
            obtain ⟨z1, ⟨n, z2, z3⟩, z4⟩ := ih r3 r' (by omega) v1 q1 (by omega) hb hst3 h
            refine ⟨z1, ⟨t :: u :: n, by rw [z2, q2, hout]; simp, In1.cons (by rw [hst]; omega) (In1.cons (by rw [← hout, hst2]; omega) ?_)⟩, z4⟩
            have : r.out ++ [t] ++ [u] = r3.out := by rw [q2, hout]
            rw [this]
            exact z3

theorem one_new {r r1 : RSt} {t : Tok} {bs1 : List Brk} (h : r1.out = r.out ++ [t]) (hp : t.pos = r.pos) (hs : stN r.out + stK t.kind = litN bs1) : New r r1 bs1 :=
  ⟨⟨t, [], h, hp, In1.nil _⟩, by rw [h, stN_app]; simpa [stN] using hs⟩

theorem rstep_add {s : ByteArray} {r r1 : RSt} {bs bs1 : List Brk} (h : RG s r bs) (hl : RL s r) (hst : stN r.out = litN bs) (hp : r.pos < s.size) (hx : rstepF s r bs = .ok (r1, bs1)) : RL s r1 ∧ New r r1 bs1 := by
  have hq := quotK_in (pk s r.pos) (pk s (r.pos + 1))
  have hcl := cls_lt (pk s r.pos)
  have ht := h.ri.told
  have hn := h.few
  have hpush : ∀ n, pushF s n none r bs = .ok (r1, bs1) → RL s r1 ∧ New r r1 bs1 := by
    intro n hx
    obtain ⟨p1, ⟨t, p2, p3, p4⟩, p5⟩ := pushF_add h.ri hl hx
    exact ⟨p1, one_new p2 p3 (by rw [hst, p4, p5]; simp)⟩
  unfold rstepF scanK at hx
  by_cases h0 : cls (pk s r.pos) = 0
  · rw [if_pos h0] at hx
    rcases hq with hq | hq | ⟨hq, h123⟩ | hq <;> rw [hq] at hx
    · rw [byK_51] at hx
      obtain ⟨e, rfl⟩ := liftB_ok (s := s) (r := r) hx
      unfold strF at e
      split at e
      · cases e
      · injection e with e
        subst e
        exact ⟨hl.add 7 _ _ ht, one_new (t := ⟨7, _, _, _, _⟩) rfl rfl (by rw [hst]; simp [stK])⟩
    · rw [byK_52] at hx
      obtain ⟨e, rfl⟩ := liftB_ok (s := s) (r := r) hx
      unfold charF at e
      split at e
      · cases e
      · split at e
        · injection e with e
          subst e
          exact ⟨hl.add 6 _ _ ht, one_new (t := ⟨6, _, _, _, _⟩) rfl rfl (by rw [hst]; simp [stK])⟩
        · cases e
    · rw [byK_30] at hx
      unfold openF at hx
      rw [if_neg (by omega)] at hx
      exact hpush _ hx
    · cases hx
  · rw [if_neg h0] at hx
    obtain hc | hc | hc | hc | hc | hc : cls (pk s r.pos) = 1 ∨ cls (pk s r.pos) = 2 ∨ cls (pk s r.pos) = 3 ∨ cls (pk s r.pos) = 4 ∨ cls (pk s r.pos) = 5 ∨ cls (pk s r.pos) = 6 := by omega
    all_goals rw [hc] at hx
    · have hx' : wordF s r bs = .ok (r1, bs1) := hx
      have hle := wordTo_le s (s.size - r.pos) r.pos h.ri.pos
      have htx := extract_le s r.pos (wordTo s (s.size - r.pos) r.pos) h.ri.pos
      unfold wordF wordEnd at hx'
      generalize wordTo s (s.size - r.pos) r.pos = k at *
      generalize s.extract r.pos k = tx at *
      split at hx'
      · cases hx'
      · rename_i kd hk
        have hkd := wkF_le hk
        split at hx'
        · rename_i h34
          have hlk := pk_ne (s := s) (a := k) (by rw [h34.2]; decide)
          have hri : RI s (addF s 8 tx r.pos { r with pos := k + 1 }) := h.ri.add ht (by omega) (by omega) htx (by omega)
          have hrl : RL s (addF s 8 tx r.pos { r with pos := k + 1 }) := hl.add 8 _ (k + 1) ht
          have hs8 : stN (r.out ++ [(⟨8, tx, r.pos, (advF s (r.pos - r.told) r.told r.line r.start).1, r.pos - (advF s (r.pos - r.told) r.told r.line r.start).2⟩ : Tok)]) = litN bs + 1 := by
            rw [stN_app, hst]
            simp [stN, stK]
          obtain ⟨z1, ⟨n, z2, z3⟩, z4⟩ := partsF_add (s.size + 1) _ r1 (by simp [addF]; omega) hri hrl (by simp [addF]; omega) h.brk hs8 hx'
          exact ⟨z1, ⟨⟨⟨8, tx, r.pos, _, _⟩, n, by rw [z2]; simp [addF], rfl, z3⟩, z4⟩⟩
        · injection hx' with hx'
          injection hx' with e1 e2
          subst e1 e2
          refine ⟨hl.add kd _ _ ht, one_new (t := ⟨kd, _, _, _, _⟩) rfl rfl ?_⟩
          rw [hst]
          simp only [stK]
          rw [if_neg (by omega), if_neg (by omega)]
          omega
    · have hx' : liftB bs (numF s r) = .ok (r1, bs1) := hx
      obtain ⟨e, rfl⟩ := liftB_ok (s := s) (r := r) hx'
      unfold numF numEnd at e
      split at e
      · unfold numFin at e
        split at e
        · cases e
        · split at e
          · cases e
          · injection e with e
            subst e
            exact ⟨hl.add 5 _ _ ht, one_new (t := ⟨5, _, _, _, _⟩) rfl rfl (by rw [hst]; simp [stK])⟩
      · unfold numFin at e
        split at e
        · cases e
        · split at e
          · cases e
          · injection e with e
            subst e
            exact ⟨hl.add 4 _ _ ht, one_new (t := ⟨4, _, _, _, _⟩) rfl rfl (by rw [hst]; simp [stK])⟩
    · have hx' : liftB bs (opF s r) = .ok (r1, bs1) := hx
      obtain ⟨e, rfl⟩ := liftB_ok (s := s) (r := r) hx'
      unfold opF opEnd at e
      split at e
      · injection e with e
        subst e
        exact ⟨hl.add 3 _ _ ht, one_new (t := ⟨3, _, _, _, _⟩) rfl rfl (by rw [hst]; simp [stK])⟩
      · split at e
        · cases e
        · injection e with e
          subst e
          exact ⟨hl.add 2 _ _ ht, one_new (t := ⟨2, _, _, _, _⟩) rfl rfl (by rw [hst]; simp [stK])⟩
    · have hx' : openF s r bs = .ok (r1, bs1) := hx
      unfold openF at hx'
      rw [if_pos hc] at hx'
      exact hpush _ hx'
    · have hx' : endgF s r bs = .ok (r1, bs1) := hx
      cases bs with
      | nil => cases hx'
      | cons b rest =>
        have hr := h.brk
        simp at hr
        have hm := markF_ok (bs := rest) ⟨h.ri, h.few, by omega⟩ hp
        have hml : RL s (markF s 1 r) := hl.add 3 _ _ ht
        have hmo : ∃ t, (markF s 1 r).out = r.out ++ [t] ∧ t.pos = r.pos ∧ stK t.kind = 0 := ⟨⟨3, _, _, _, _⟩, rfl, rfl, rfl⟩
        have hx2 : (if (clo b.mark.toList).toList = (s.extract r.pos (r.pos + 1)).toList then endLit s b.lit (markF s 1 r) rest else .error (r.pos, 27)) = Except.ok (r1, bs1) := hx'
        generalize markF s 1 r = r2 at *
        obtain ⟨t, hmo, hmp, hmk⟩ := hmo
        split at hx2
        · unfold endLit at hx2
          split at hx2
          · rename_i hno
            injection hx2 with hx2
            injection hx2 with e1 e2
            subst e1 e2
            refine ⟨hml, one_new hmo hmp ?_⟩
            rw [hst, hmk]
            simp [litN, hno]
          · rename_i lt hsome
            have hs2 : stN r2.out = litN rest + 1 := by
              rw [hmo, stN_app, hst]
              simp [litN, hsome, stN, hmk]
              omega
            obtain ⟨z1, ⟨n, z2, z3⟩, z4⟩ := partsF_add (s.size + 1) _ r1 (by omega) hm.1.ri hml hm.2.2 hm.1.brk hs2 hx2
            refine ⟨z1, ⟨⟨t, n, by rw [z2, hmo]; simp, hmp, ?_⟩, z4⟩⟩
            rw [← hmo]
            exact z3
        · cases hx2
    · have hx' : Except.ok (markF s 1 r, bs) = Except.ok (r1, bs1) := hx
      injection hx' with hx'
      injection hx' with e1 e2
      subst e1 e2
      exact ⟨hl.add 3 _ _ ht, one_new (t := ⟨3, _, _, _, _⟩) rfl rfl (by rw [hst]; simp [stK])⟩
end Go.Proofs.YtpgcklpcohcchaaDoor
namespace Go.Proofs.YtpgcklpcohcchaaDoor
open Go Go.RowKit

theorem skipF_here {s : ByteArray} {f a : Nat} (hf : 0 < f) (h1 : ¬ (pk s a = 32 ∨ pk s a = 9 ∨ pk s a = 10)) (h2 : comB s a = false) : skipF s f a = .ok a := by
  obtain ⟨g, rfl⟩ : ∃ g, f = g + 1 := ⟨f - 1, by omega⟩
  unfold skipF
  rw [if_neg h1, h2]
  rfl

/-- Between two tokens. -/
structure Bo (s : ByteArray) (r : RSt) (bs : List Brk) : Prop where
  rg : RG s r bs
  cm : comB s r.pos = false
  bl : ¬ (pk s r.pos = 32 ∨ pk s r.pos = 9 ∨ pk s r.pos = 10)
  rl : RL s r
  st : stN r.out = litN bs

theorem Bo.next {s : ByteArray} {r r1 : RSt} {bs bs1 : List Brk} {k : Nat} (h : Bo s r bs) (hp : r.pos < s.size) (hx : rstepF s r bs = .ok (r1, bs1)) (hk : skipF s (s.size + 1) r1.pos = .ok k) : Bo s { r1 with pos := k } bs1 ∧ New r r1 bs1 ∧ r.pos < r1.pos ∧ r1.pos ≤ k ∧ r1.pos ≤ s.size ∧ k ≤ s.size := by
  obtain ⟨h1, h2⟩ := rstep_ok h.rg hp h.cm hx
  obtain ⟨h3, h4⟩ := rstep_add h.rg h.rl h.st hp hx
  have hps := h1.ri.pos
  have h5 := skipF_ok _ _ _ (by omega) hps hk
  have h6 := skipF_stop _ _ _ (by omega) hps hk
  have ht := h1.ri.told
  have hf := h1.few
  exact ⟨⟨⟨h1.ri.move (by omega) h5.2.1, by simp only; omega, h1.brk⟩, h5.2.2, h6, h3.move k, h4.st⟩, h4, h2, h5.1, hps, h5.2.1⟩

/-- The list behind what is known. -/
theorem rawL_app {s : ByteArray} : ∀ (f : Nat) (r re : RSt) (bs bse : List Brk), Bo s r bs → rawL s f r bs = .ok (re, bse) → ∃ n, re.out = r.out ++ n := by
  intro f
  induction f with
  | zero =>
    intro r re bs bse hb h
    injection h with h
    injection h with e1 e2
    subst e1
    exact ⟨[], by simp⟩
  | succ f ih =>
    intro r re bs bse hb h
    rw [rawL_succ] at h
    split at h
    · rename_i hp
      split at h
      · cases h
      · rename_i r1 bs1 hx
        split at h
        · cases h
        · rename_i k hk
          obtain ⟨b1, ⟨⟨t, n, e1, _, _⟩, _⟩, _⟩ := hb.next hp hx hk
          obtain ⟨n2, e2⟩ := ih _ _ _ _ b1 h
          exact ⟨t :: n ++ n2, by rw [e2]; show r1.out ++ n2 = _; rw [e1]; simp⟩
    · injection h with h
      injection h with e1 e2
      subst e1
      exact ⟨[], by simp⟩

/-- The run comes to a place between two tokens with k tokens. -/
inductive Hits (s : ByteArray) (p k : Nat) : RSt → List Brk → Prop where
  | here {r : RSt} {bs : List Brk} : r.pos = p → r.out.length = k → r.pos < s.size → Hits s p k r bs
  | next {r r1 : RSt} {bs bs1 : List Brk} {q : Nat} : r.pos < s.size → rstepF s r bs = .ok (r1, bs1) → skipF s (s.size + 1) r1.pos = .ok q → Hits s p k { r1 with pos := q } bs1 → Hits s p k r bs

theorem Hits.le {s : ByteArray} {p k : Nat} {r : RSt} {bs : List Brk} (h : Hits s p k r bs) : Bo s r bs → r.pos ≤ p ∧ r.out.length ≤ k := by
  induction h with
  | here h1 h2 h3 => intro _; exact ⟨by omega, by omega⟩
  | next h1 h2 h3 h4 ih =>
    intro hb
    obtain ⟨b1, b2, b3, b4, _⟩ := hb.next h1 h2 h3
    obtain ⟨t, n, e1, _, _⟩ := b2.ex
    obtain ⟨q1, q2⟩ := ih b1
    simp only at q1 q2
    rw [e1] at q2
    simp at q2
    exact ⟨by omega, by omega⟩

theorem hits_of {s : ByteArray} : ∀ (f : Nat) (r re : RSt) (bs bse : List Brk) (k : Nat) (t : Tok), s.size < r.pos + f → Bo s r bs → rawL s f r bs = .ok (re, bse) → r.out.length ≤ k → re.out[k]? = some t → stN (re.out.take k) ≤ 0 → Hits s t.pos k r bs := by
  intro f
  induction f with
  | zero => intro r re bs bse k t hf hb; have := hb.rg.ri.pos; omega
  | succ f ih =>
    intro r re bs bse k t hf hb h hk ht hst
    have h0 := h
    rw [rawL_succ] at h
    split at h
    · rename_i hp
      split at h
      · cases h
      · rename_i r1 bs1 hx
        split at h
        · cases h
        · rename_i q hq
          obtain ⟨b1, b2, b3, b4, _⟩ := hb.next hp hx hq
          obtain ⟨t0, n, e1, e2, e3⟩ := b2.ex
          obtain ⟨m, e4⟩ := rawL_app _ _ _ _ _ b1 h
          simp only at e4
          rw [e1] at e4
          by_cases hk0 : r.out.length = k
          · have : t = t0 := by
              rw [e4, ← hk0] at ht
              simp at ht
              exact ht.symm
            subst this
            exact Hits.here e2.symm hk0 hp
          · by_cases hk1 : r1.out.length ≤ k
            · exact Hits.next hp hx hq (ih _ _ _ _ k t (by simp only; omega) b1 h hk1 ht hst)
            · exfalso
              rw [e1] at hk1
              simp at hk1
              have := e3 (k - r.out.length - 1) (by omega)
              rw [e4] at hst
              have hsplit : (r.out ++ t0 :: n ++ m).take k = r.out ++ [t0] ++ n.take (k - r.out.length - 1) := by
                have hre : r.out ++ t0 :: n ++ m = (r.out ++ [t0]) ++ (n ++ m) := by simp
                rw [hre, List.take_append, List.take_of_length_le (by simp; omega), List.take_append_of_le_length (by simp; omega)]
                congr 2
                simp
                omega
              rw [hsplit] at hst
              omega
    · injection h with h
      injection h with e1 e2
      subst e1
      have := (List.getElem?_eq_some_iff.1 ht).1
      omega

/-- Behind the blank. -/
theorem rawL_after {s s' : ByteArray} {p : Nat} (hs : s'.size = s.size + 1) (hg : ∀ i, p ≤ i → pk s' (i + 1) = pk s i) : ∀ (f : Nat) (r r' re : RSt) (bs bs' bse : List Brk), s.size < r.pos + f → p ≤ r.pos → Bo s r bs → r'.pos = r.pos + 1 → SimB bs bs' → rawL s f r bs = .ok (re, bse) →
    ∀ f', s'.size < r'.pos + f' → ∃ re' bse', rawL s' f' r' bs' = .ok (re', bse') ∧ SimO 1 r re r' re' ∧ SimB bse bse' := by
  intro f
  induction f with
  | zero => intro r r' re bs bs' bse hf hp hb; have := hb.rg.ri.pos; omega
  | succ f ih =>
    intro r r' re bs bs' bse hf hp hb hpos hB h f' hf'
    have hrs := hb.rg.ri.pos
    obtain ⟨f2, rfl⟩ : ∃ f2, f' = f2 + 1 := ⟨f' - 1, by omega⟩
    rw [rawL_succ] at h ⊢
    split at h
    · rename_i hlt
      rw [if_pos (by omega)]
      split at h
      · cases h
      · rename_i r1 bs1 hx
        split at h
        · cases h
        · rename_i q hq
          obtain ⟨b1, b2, b3, b4, b5, b6⟩ := hb.next hlt hx hq
          have hcomb : ∀ i, p ≤ i → comB s' (i + 1) = comB s i := fun i hi => by
            unfold comB
            rw [hg i hi, hg (i + 1) (by omega)]
          obtain ⟨r1', bs1', q1, q2, q3⟩ := rstep_two (d := 1) hb.rg hlt hb.cm hpos hB hx (fun i h1 h2 => hg i (by omega)) (.inl ⟨hg _ (by omega), hcomb _ (by omega)⟩) (by omega)
          rw [q1]
          simp only
          have hp1 := q2.pos
          obtain ⟨f3, w1, w2⟩ := skipF_reach (d := 1) (s' := s') (by omega) _ _ _ (by omega) b5 hq (fun i h1 h2 => hg i (by omega)) (.inr hs) (s'.size + 1) (by omega)
          rw [hp1, w2, skipF_here (by omega) (by rw [hg q (by omega)]; exact b1.bl) (by rw [hcomb q (by omega)]; exact b1.cm)]
          simp only
          obtain ⟨re', bse', z1, z2, z3⟩ := ih { r1 with pos := q } { r1' with pos := q + 1 } re bs1 bs1' bse (by simp only; omega) (by simp only; omega) b1 rfl q3 h f2 (by simp only; omega)
          refine ⟨re', bse', z1, ?_, z3⟩
          obtain ⟨n, n', a, b, c⟩ := q2.out
          have hq2 : SimO 1 r { r1 with pos := q } r' { r1' with pos := q + 1 } := ⟨rfl, n, n', a, b, c⟩
          exact hq2.trans z2
    · rename_i hlt
      rw [if_neg (by omega)]
      injection h with h
      injection h with e1 e2
      subst e1 e2
      exact ⟨r', bs', rfl, SimO.refl hpos, hB⟩

/-- From the beginning on. -/
theorem rawL_before {s s' : ByteArray} {p k : Nat} (hs : s'.size = s.size + 1) (hg0 : ∀ i, i < p → pk s' i = pk s i) (hgp : pk s' p = 32) (hg : ∀ i, p ≤ i → pk s' (i + 1) = pk s i) {r : RSt} {bs : List Brk} (hh : Hits s p k r bs) :
    Bo s r bs → ∀ (f : Nat) (re r' : RSt) (bs' bse : List Brk), s.size < r.pos + f → ((r.pos = p ∧ r'.pos = p + 1) ∨ (r.pos < p ∧ r'.pos = r.pos)) → SimB bs bs' → rawL s f r bs = .ok (re, bse) →
    ∀ f', s'.size < r'.pos + f' → ∃ re' bse' n n', rawL s' f' r' bs' = .ok (re', bse') ∧ SimB bse bse' ∧ re.out = r.out ++ n ∧ re'.out = r'.out ++ n' ∧ n'.map (skl 0) = (n.take (k - r.out.length)).map (skl 0) ++ (n.drop (k - r.out.length)).map (skl 1) := by
  induction hh with
  | @here r bs h1 h2 h3 =>
    intro hb f re r' bs' bse hf hpos hB h f' hf'
    have hpos' : r'.pos = r.pos + 1 := by rcases hpos with hpos | hpos <;> omega
    obtain ⟨re', bse', z1, z2, z3⟩ := rawL_after hs hg f r r' re bs bs' bse hf (by omega) hb hpos' hB h f' hf'
    obtain ⟨n, n', a, b, c⟩ := z2.out
    refine ⟨re', bse', n, n', z1, z3, a, b, ?_⟩
    rw [h2, Nat.sub_self]
    simpa using c
  | @next r r1 bs bs1 q h1 h2 h3 h4 ih =>
    intro hb f re r' bs' bse hf hpos hB h f' hf'
    obtain ⟨b1, b2, b3, b4, b5, b6⟩ := hb.next h1 h2 h3
    obtain ⟨hle1, hle2⟩ := h4.le b1
    simp only at hle1 hle2
    have hpos' : r'.pos = r.pos := by rcases hpos with hpos | hpos <;> omega
    obtain ⟨g, rfl⟩ : ∃ g, f = g + 1 := ⟨f - 1, by have := hb.rg.ri.pos; omega⟩
    obtain ⟨f2, rfl⟩ : ∃ f2, f' = f2 + 1 := ⟨f' - 1, by omega⟩
    rw [rawL_succ] at h ⊢
    rw [if_pos h1] at h
    rw [if_pos (by omega)]
    rw [h2] at h
    simp only at h
    rw [h3] at h
    simp only at h
    have hcomb : ∀ i, i + 1 < p → comB s' i = comB s i := fun i hi => by
      unfold comB
      rw [hg0 i (by omega), hg0 (i + 1) (by omega)]
    have hbd : Bd s s' 0 r1.pos := by
      by_cases e : r1.pos = p
      · right; rw [Nat.add_zero, e]; exact hgp
      · by_cases e2 : r1.pos + 1 < p
        · left; rw [Nat.add_zero]; exact ⟨hg0 _ (by omega), hcomb _ e2⟩
        · have e3 : r1.pos + 1 = p := by omega
          left
          rw [Nat.add_zero]
          refine ⟨hg0 _ (by omega), ?_⟩
          have hc0 : comB s r1.pos = false := by
            by_cases hc : comB s r1.pos = false
            · exact hc
            · exfalso
              have hc' : comB s r1.pos = true := by simpa using hc
              have hc2 : pk s r1.pos = 47 ∧ (pk s (r1.pos + 1) = 47 ∨ pk s (r1.pos + 1) = 42) := by unfold comB at hc'; simpa using hc'
              have hlt1 : r1.pos + 1 < s.size := pk_ne (s := s) (a := r1.pos + 1) (by rcases hc2.2 with e | e <;> rw [e] <;> decide)
              have hsk := h3
              unfold skipF at hsk
              rw [if_neg (by rw [hc2.1]; decide), if_pos hc'] at hsk
              split at hsk
              · rename_i h47
                have hl := lineTo_le s (s.size - r1.pos) r1.pos b5
                have hg2 : r1.pos + 2 ≤ lineTo s (s.size - r1.pos) r1.pos := by
                  obtain ⟨m, hm⟩ : ∃ m, s.size - r1.pos = m + 1 + 1 := ⟨s.size - r1.pos - 2, by omega⟩
                  rw [hm]
                  unfold lineTo
                  rw [if_pos ⟨by omega, by rw [hc2.1]; decide⟩]
                  unfold lineTo
                  rw [if_pos ⟨hlt1, by rw [h47]; decide⟩]
                  exact (lineTo_le s m (r1.pos + 1 + 1) (by omega)).2
                have := skipF_ok _ _ _ (by omega) hl.1 hsk
                omega
              · rename_i hn47
                split at hsk
                · cases hsk
                · rename_i k1 hct
                  have hl := comTo_le s _ _ _ _ hct
                  have := skipF_ok _ _ _ (by omega) hl.1 hsk
                  have hq1 : k1 ≤ r1.pos + 1 := by omega
                  unfold comTo at hct
                  rw [if_pos (by omega)] at hct
                  split at hct
                  · have := (comTo_le s _ _ _ _ hct).2; omega
                  · rename_i hnc
                    exact hnc ⟨hc2.1, hc2.2.resolve_left hn47⟩
          rw [hc0]
          unfold comB
          rw [e3, hgp]
          simp
    obtain ⟨r1', bs1', q1, q2, q3⟩ := rstep_two (d := 0) hb.rg h1 hb.cm (by omega) hB h2 (fun i _ h => by rw [Nat.add_zero]; exact hg0 i (by omega)) hbd (by omega)
    rw [q1]
    simp only
    have hp1 : r1'.pos = r1.pos := q2.pos
    have hps : p < s.size ∨ q < s.size := by
      rcases Nat.lt_or_ge q s.size with h | h
      · exact .inr h
      · left
        cases h4 with
        | here a1 a2 a3 => simp only at a1 a3; omega
        | next a1 a2 a3 a4 => simp only at a1; omega
    have hqs : q < s.size := by
      rcases hps with h | h
      · omega
      · exact h
    obtain ⟨f3, w1, w2⟩ := skipF_reach (d := 0) (s := s) (s' := s') (by omega) _ _ _ (by omega) b5 h3 (fun i _ h => by rw [Nat.add_zero]; exact hg0 i (by omega)) (.inl hqs) (s'.size + 1) (by omega)
    simp only [Nat.add_zero] at w1 w2
    rw [hp1, w2]
    obtain ⟨n, n', a, b, c⟩ := q2.out
    have hfin : ∀ q', ((q = p ∧ q' = p + 1) ∨ (q < p ∧ q' = q)) → ∃ re' bse' n n', rawL s' f2 { r1' with pos := q' } bs1' = .ok (re', bse') ∧ SimB bse bse' ∧ re.out = r.out ++ n ∧ re'.out = r'.out ++ n' ∧ n'.map (skl 0) = (n.take (k - r.out.length)).map (skl 0) ++ (n.drop (k - r.out.length)).map (skl 1) := by
      intro q' hq'
      obtain ⟨re', bse', m, m', z1, z2, z3, z4, z5⟩ := ih b1 g re { r1' with pos := q' } bs1' bse (by simp only; omega) hq' q3 h f2 (by simp only; omega)
      simp only at z3 z4 z5
      refine ⟨re', bse', n ++ m, n' ++ m', z1, z2, by rw [z3, a, List.append_assoc], by rw [z4, b, List.append_assoc], ?_⟩
      have hnl : r1.out.length = r.out.length + n.length := by rw [a]; simp
      rw [List.map_append, c, z5, List.take_append, List.take_of_length_le (show n.length ≤ k - r.out.length by omega), List.drop_append, List.drop_of_length_le (show n.length ≤ k - r.out.length by omega), List.map_append, List.nil_append, List.append_assoc]
      rw [show k - r.out.length - n.length = k - r1.out.length by omega]
    by_cases e : q = p
    · subst e
      obtain ⟨f4, rfl⟩ : ∃ f4, f3 = f4 + 1 := ⟨f3 - 1, by omega⟩
      have hsp : skipF s' (f4 + 1) q = .ok (q + 1) := by
        unfold skipF
        rw [hgp, if_pos (.inl rfl)]
        refine skipF_here (by omega) (by rw [hg q (Nat.le_refl _)]; exact b1.bl) ?_
        unfold comB
        rw [hg q (Nat.le_refl _), hg (q + 1) (by omega)]
        exact b1.cm
      rw [hsp]
      simp only
      exact hfin (q + 1) (.inl ⟨rfl, rfl⟩)
    · have hqp : q < p := by omega
      have hcq : comB s' q = false := by
        have := b1.cm
        simp only at this
        unfold comB at this ⊢
        rw [hg0 q hqp]
        by_cases e2 : q + 1 < p
        · rw [hg0 (q + 1) e2]; exact this
        · rw [show q + 1 = p by omega, hgp]; simp
      rw [skipF_here (by omega) (by rw [hg0 q hqp]; exact b1.bl) hcq]
      simp only
      exact hfin q (.inr ⟨hqp, rfl⟩)
end Go.Proofs.YtpgcklpcohcchaaDoor
namespace Go.Proofs.YtpgcklpcohcchaaDoor
open Go Go.RowKit

theorem bytesL_none {s : ByteArray} : ∀ (f i : Nat), bytesL s f i = none → ∀ j, i ≤ j → j < i + f → badB (pk s j) = false := by
  intro f
  induction f with
  | zero => intro i h j h1 h2; omega
  | succ f ih =>
    intro i h j h1 h2
    unfold bytesL at h
    split at h
    · cases h
    · rename_i hn
      by_cases e : j = i
      · subst e; simpa using hn
      · exact ih (i + 1) h j (by omega) (by omega)
theorem bytesL_of {s : ByteArray} : ∀ (f i : Nat), (∀ j, i ≤ j → j < i + f → badB (pk s j) = false) → bytesL s f i = none := by
  intro f
  induction f with
  | zero => intro i h; rfl
  | succ f ih =>
    intro i h
    unfold bytesL
    rw [h i (Nat.le_refl _) (by omega)]
    simp only [Bool.false_eq_true, if_false]
    exact ih (i + 1) (fun j h1 h2 => h j (by omega) (by omega))
theorem bytesF_none {s : ByteArray} : bytesF s = none ↔ s.size ≤ 65536 ∧ ∀ j, j < s.size → badB (pk s j) = false := by
  constructor
  · intro h
    refine ⟨bytesF_size h, fun j hj => ?_⟩
    unfold bytesF at h
    split at h
    · cases h
    · split at h
      · cases h
      · rename_i hb
        exact bytesL_none _ _ hb j (Nat.zero_le _) (by omega)
  · rintro ⟨h1, h2⟩
    unfold bytesF
    rw [if_neg (by omega), bytesL_of _ _ (fun j _ h => h2 j (by omega))]

theorem bo_start {s : ByteArray} {k : Nat} (h : skipF s (s.size + 1) 0 = .ok k) : Bo s ⟨k, [], 0, 0, 0⟩ [] := by
  have h1 := skipF_ok _ _ _ (by omega) (Nat.zero_le _) h
  have h2 := skipF_stop _ _ _ (by omega) (Nat.zero_le _) h
  exact ⟨⟨⟨h1.2.1, Nat.zero_le _, Nat.le_refl _, Nat.le_refl _, by simp⟩, by simp, by simp⟩, h1.2.2, h2, ⟨rfl, by simp, by simp⟩, rfl⟩

theorem rawL_rl {s : ByteArray} : ∀ (f : Nat) (r re : RSt) (bs bse : List Brk), Bo s r bs → rawL s f r bs = .ok (re, bse) → RL s re := by
  intro f
  induction f with
  | zero =>
    intro r re bs bse hb h
    injection h with h
    injection h with e1 e2
    subst e1
    exact hb.rl
  | succ f ih =>
    intro r re bs bse hb h
    rw [rawL_succ] at h
    split at h
    · rename_i hp
      split at h
      · cases h
      · rename_i r1 bs1 hx
        split at h
        · cases h
        · rename_i k hk
          exact ih _ _ _ _ (hb.next hp hx hk).1 h
    · injection h with h
      injection h with e1 e2
      subst e1
      exact hb.rl

/-- The parts of a list that Raw returns. -/
theorem rawF_parts {s : ByteArray} {l : List Tok} (h : rawF s = .ok l) : bytesF s = none ∧ ∃ k r, skipF s (s.size + 1) 0 = .ok k ∧ rawL s (s.size + 1) ⟨k, [], 0, 0, 0⟩ [] = .ok (r, []) ∧ r.out = l := by
  unfold rawF at h
  split at h
  · cases h
  · rename_i hb
    refine ⟨hb, ?_⟩
    unfold rawFin at h
    split at h
    · cases h
    · rename_i r bs hr
      unfold rawS at hr
      split at hr
      · cases hr
      · rename_i k hk
        cases bs with
        | nil =>
          injection h with h
          exact ⟨k, r, hk, hr, h⟩
        | cons b rest => cases h
theorem rawF_of {s : ByteArray} {k : Nat} {r : RSt} (h1 : bytesF s = none) (h2 : skipF s (s.size + 1) 0 = .ok k) (h3 : rawL s (s.size + 1) ⟨k, [], 0, 0, 0⟩ [] = .ok (r, [])) : rawF s = .ok r.out := by
  simp only [rawF, h1, rawFin, rawS, h2, h3, rawE]

theorem lfN_before {s s' : ByteArray} {p : Nat} (hg0 : ∀ i, i < p → pk s' i = pk s i) : ∀ q, q ≤ p → lfN s' q = lfN s q := by
  intro q
  induction q with
  | zero => intro _; rfl
  | succ q ih => intro h; simp only [lfN]; rw [ih (by omega), hg0 q (by omega)]
theorem lfN_after {s s' : ByteArray} {p : Nat} (hg0 : ∀ i, i < p → pk s' i = pk s i) (hgp : pk s' p = 32) (hg : ∀ i, p ≤ i → pk s' (i + 1) = pk s i) : ∀ j, lfN s' (p + j + 1) = lfN s (p + j) := by
  intro j
  induction j with
  | zero =>
    show lfN s' p + (if pk s' p = 10 then 1 else 0) = lfN s p
    rw [hgp, lfN_before hg0 p (Nat.le_refl _)]
    simp
  | succ j ih =>
    show lfN s' (p + j + 1) + (if pk s' (p + j + 1) = 10 then 1 else 0) = lfN s (p + j) + (if pk s (p + j) = 10 then 1 else 0)
    rw [ih, hg (p + j) (by omega)]

theorem spaces_at {s s' : ByteArray} {l : List Tok} {k : Nat} {t : Tok} (h : rawF s = .ok l) (hsz : s.size ≤ 65535) (ht : l[k]? = some t) (hst : stN (l.take k) ≤ 0)
    (hs : s'.size = s.size + 1) (hg0 : ∀ i, i < t.pos → pk s' i = pk s i) (hgp : pk s' t.pos = 32) (hg : ∀ i, t.pos ≤ i → pk s' (i + 1) = pk s i) :
    ∃ m, rawF s' = .ok m ∧ m.length = l.length ∧ ∀ i u, l[i]? = some u → ∃ u', m[i]? = some u' ∧ u'.kind = u.kind ∧ u'.text = u.text ∧ u'.line = u.line ∧ u'.pos = u.pos + (if k ≤ i then 1 else 0) := by
  obtain ⟨hb, k0, r, hk0, hr, hl⟩ := rawF_parts h
  subst hl
  have hbo := bo_start hk0
  have hh := hits_of _ _ _ _ _ k t (by show s.size < k0 + (s.size + 1); omega) hbo hr (Nat.zero_le _) ht hst
  have hle := (hh.le hbo).1
  simp only at hle
  have hk0s : k0 < s.size := by
    cases hh with
    | here a1 a2 a3 => exact a3
    | next a1 a2 a3 a4 => exact a1
  have hb' : bytesF s' = none := by
    rw [bytesF_none] at hb ⊢
    refine ⟨by omega, fun j hj => ?_⟩
    by_cases e : j < t.pos
    · rw [hg0 j e]
      by_cases e2 : j < s.size
      · exact hb.2 j e2
      · rw [pk_end s (by omega)]
        have hps := rawF_ok h
        have := (hps.2.2 t (List.mem_of_getElem? ht)).1
        omega
    · by_cases e2 : j = t.pos
      · rw [e2, hgp]; decide +kernel
      · obtain ⟨i, rfl⟩ : ∃ i, j = i + 1 := ⟨j - 1, by omega⟩
        rw [hg i (by omega)]
        exact hb.2 i (by omega)
  obtain ⟨f3, w1, w2⟩ := skipF_reach (d := 0) (s := s) (s' := s') (by omega) _ _ _ (by omega) (Nat.zero_le _) hk0 (fun i _ h => by rw [Nat.add_zero]; exact hg0 i (by omega)) (.inl hk0s) (s'.size + 1) (by omega)
  simp only [Nat.add_zero] at w1 w2
  have hk1 : ∃ k1, skipF s' (s'.size + 1) 0 = .ok k1 ∧ ((k0 = t.pos ∧ k1 = t.pos + 1) ∨ (k0 < t.pos ∧ k1 = k0)) := by
    rw [w2]
    by_cases e : k0 = t.pos
    · obtain ⟨f4, rfl⟩ : ∃ f4, f3 = f4 + 1 := ⟨f3 - 1, by omega⟩
      refine ⟨k0 + 1, ?_, .inl ⟨e, by omega⟩⟩
      unfold skipF
      rw [e, hgp, if_pos (.inl rfl)]
      refine skipF_here (by omega) (by rw [hg t.pos (Nat.le_refl _), ← e]; exact hbo.bl) ?_
      unfold comB
      rw [hg t.pos (Nat.le_refl _), hg (t.pos + 1) (by omega), ← e]
      exact hbo.cm
    · have hqp : k0 < t.pos := by omega
      refine ⟨k0, skipF_here (by omega) (by rw [hg0 k0 hqp]; exact hbo.bl) ?_, .inr ⟨hqp, rfl⟩⟩
      have := hbo.cm
      simp only at this
      unfold comB at this ⊢
      rw [hg0 k0 hqp]
      by_cases e2 : k0 + 1 < t.pos
      · rw [hg0 (k0 + 1) e2]; exact this
      · rw [show k0 + 1 = t.pos by omega, hgp]; simp
  obtain ⟨k1, hsk, hrel⟩ := hk1
  obtain ⟨re', bse', n, n', z1, z2, z3, z4, z5⟩ := rawL_before hs hg0 hgp hg hh hbo (s.size + 1) r ⟨k1, [], 0, 0, 0⟩ [] [] (by show s.size < k0 + (s.size + 1); omega) hrel rfl hr (s'.size + 1) (by show s'.size < k1 + (s'.size + 1); omega)
  have hbse : bse' = [] := List.eq_nil_of_length_eq_zero z2.len
  subst hbse
  simp only [List.nil_append, List.length_nil, Nat.sub_zero] at z3 z4 z5
  subst z3
  rw [← z4] at z5
  have hlen : re'.out.length = r.out.length := by
    have := congrArg List.length z5
    simp at this
    omega
  have hrl := rawL_rl _ _ _ _ _ hbo hr
  have hrl' := rawL_rl _ _ _ _ _ (bo_start hsk) z1
  refine ⟨re'.out, rawF_of hb' hsk z1, hlen, fun i u hu => ?_⟩
  have hil := (List.getElem?_eq_some_iff.1 hu).1
  obtain ⟨u', hu'⟩ : ∃ u', re'.out[i]? = some u' := ⟨re'.out[i]'(by omega), List.getElem?_eq_getElem _⟩
  have hz := congrArg (·[i]?) z5
  simp only [List.getElem?_map, hu', Option.map_some] at hz
  have hkl := (List.getElem?_eq_some_iff.1 ht).1
  have hline := (hrl.toks u (List.mem_of_getElem? hu)).1
  have hline' := (hrl'.toks u' (List.mem_of_getElem? hu')).1
  have hsorted := hrl.sorted
  rw [List.pairwise_iff_getElem] at hsorted
  have hue : r.out[i] = u := (List.getElem?_eq_some_iff.1 hu).2
  have hte : r.out[k] = t := (List.getElem?_eq_some_iff.1 ht).2
  by_cases hki : k ≤ i
  · rw [List.getElem?_append_right (by simp; omega)] at hz
    simp only [List.length_map, List.length_take, List.getElem?_map, List.getElem?_drop] at hz
    rw [show k + (i - min k r.out.length) = i by omega, hu] at hz
    simp only [Option.map_some, Option.some.injEq, skl, Prod.mk.injEq] at hz
    refine ⟨u', hu', hz.1, hz.2.1, ?_, by rw [if_pos hki]; omega⟩
    have hpu : t.pos ≤ u.pos := by
      by_cases e : k = i
      · subst e; rw [hu] at ht; injection ht with ht; rw [ht]; exact Nat.le_refl _
      · have := hsorted k i hkl hil (by omega)
        rw [hue, hte] at this
        exact this
    rw [hline, hline', show u'.pos = u.pos + 1 by omega]
    have := lfN_after hg0 hgp hg (u.pos - t.pos)
    rw [show t.pos + (u.pos - t.pos) = u.pos by omega] at this
    exact this
  · rw [List.getElem?_append_left (by simp; omega)] at hz
    simp only [List.getElem?_map, List.getElem?_take_of_lt (show i < k by omega), hu] at hz
    simp only [Option.map_some, Option.some.injEq, skl, Prod.mk.injEq] at hz
    refine ⟨u', hu', hz.1, hz.2.1, ?_, by rw [if_neg hki]; omega⟩
    have hpu : u.pos ≤ t.pos := by
      have := hsorted i k hil hkl (by omega)
      rw [hue, hte] at this
      exact this
    rw [hline, hline', show u'.pos = u.pos by omega]
    exact lfN_before hg0 _ hpu
end Go.Proofs.YtpgcklpcohcchaaDoor
