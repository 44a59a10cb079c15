/- The reader of tokens: one step, and what stays true of it. -/
import Derived.Test.YtpgcklpcohcchaaDoorS13
namespace Go.Proofs.YtpgcklpcohcchaaDoor
open Go Go.RowKit

def liftB (bs : List Brk) : Except (Nat × Nat) RSt → Except (Nat × Nat) (RSt × List Brk)
  | .ok r => .ok (r, bs)
  | .error f => .error f

theorem RdRes.lift {X : Nat → Prop} {w w' : World} {rb : Nat} {s : ByteArray} {bs : List Brk} {vn : Value} {x : Except (Nat × Nat) RSt} {e : Ending} (ho : w.ownsRow 0 46 3 vn bs.length (kcs bs)) (hx : ∀ b, X b → vn.ownBlock ≠ some b) (h : RdRes (XO X vn) w rb s vn x e w') :
    RoRes X w rb s (liftB bs x) e w' := by
  cases x with
  | ok r =>
    obtain ⟨h1, h2, h3⟩ := h
    exact ⟨h1, (RO.step ho hx h2 h3).1, (RO.step ho hx h2 h3).2⟩
  | error f => exact ⟨h.1, h.2.mono fun _ h => .inl h⟩

/-- A step of the reader by the number of its method. -/
def byK (s : ByteArray) (r : RSt) (bs : List Brk) (k : Nat) : Except (Nat × Nat) (RSt × List Brk) :=
  if k = 27 then wordF s r bs else if k = 28 then liftB bs (numF s r) else if k = 29 then liftB bs (opF s r) else if k = 30 then openF s r bs
  else if k = 31 then endgF s r bs else if k = 32 then .ok (markF s 1 r, bs) else if k = 51 then liftB bs (strF s r) else if k = 52 then liftB bs (charF s r) else .error (r.pos, 27)
def rstepF (s : ByteArray) (r : RSt) (bs : List Brk) : Except (Nat × Nat) (RSt × List Brk) := byK s r bs (scanK (pk s r.pos) (pk s (r.pos + 1)))

theorem quotK_in (b c : UInt8) : quotK b c = 51 ∨ quotK b c = 52 ∨ (quotK b c = 30 ∧ c = 123) ∨ quotK b c = 53 := by
  unfold quotK
  split
  · exact .inl rfl
  · split
    · exact .inr (.inl rfl)
    · rename_i h1 h2
      split
      · rename_i h3
        refine .inr (.inr (.inl ⟨rfl, ?_⟩))
        rcases h3 with h3 | h3
        · exact Classical.byContradiction fun hc => h2 ⟨h3, hc⟩
        · exact h3.2
      · exact .inr (.inr (.inr rfl))

/-- What is true of the reader between two tokens. -/
structure RG (s : ByteArray) (r : RSt) (bs : List Brk) : Prop where
  ri : RI s r
  few : r.out.length ≤ 2 * r.pos
  brk : bs.length ≤ 64

theorem pushF_ok {s : ByteArray} {r r' : RSt} {bs bs' : List Brk} {n : Nat} {lit : Option Nat} (h : RI s r) (hn : r.out.length ≤ 2 * r.pos) (hb : bs.length ≤ 64) (h1 : 1 ≤ n) (hp : r.pos + n ≤ s.size) (hx : pushF s n lit r bs = .ok (r', bs')) : RG s r' bs' ∧ r.pos < r'.pos := by
  unfold pushF at hx
  split at hx
  · cases hx
  · injection hx with hx
    injection hx with e1 e2
    subst e1 e2
    exact ⟨⟨h.add h.told (by omega) hp (extract_le _ _ _ (by omega)) (by omega), by simp [markF, addF]; omega, by simp; omega⟩, by show r.pos < r.pos + n; omega⟩

theorem partsF_ok {s : ByteArray} {lit : Nat} {bs bs' : List Brk} : ∀ (f : Nat) (r r' : RSt), s.size < r.pos + f → RI s r → r.out.length + 1 ≤ 2 * r.pos → bs.length ≤ 64 → partsF s lit bs f r = .ok (r', bs') → RG s r' bs' ∧ r.pos ≤ r'.pos := by
  intro f
  induction f with
  | zero => intro r r' hf hi; have := hi.pos; omega
  | succ f ih =>
    intro r r' hf hi hn hb h
    rw [partsF_succ] at h
    split at h
    · cases h
    · rename_i o k hc
      obtain ⟨hk1, hk2, hk3, hk4⟩ := charsF_in (by decide) (by decide) hi.pos hc
      have hsz : (⟨o.toArray⟩ : ByteArray).size ≤ s.size := by show o.toArray.size ≤ s.size; simpa using hk3
      have hri : RI s (addF s 9 ⟨o.toArray⟩ r.pos { r with pos := k }) := hi.add hi.told hk2 (by omega) hsz (by omega)
      have hln : (addF s 9 ⟨o.toArray⟩ r.pos { r with pos := k }).out.length ≤ 2 * k := by
        simp [addF]
        omega
      have hpk : (addF s 9 ⟨o.toArray⟩ r.pos { r with pos := k }).pos = k := rfl
      generalize addF s 9 ⟨o.toArray⟩ r.pos { r with pos := k } = r2 at *
      split at h
      · injection h with h
        injection h with e1 e2
        subst e1 e2
        refine ⟨⟨?_, ?_, hb⟩, ?_⟩
        · have := hri.add (kd := 10) (tx := ⟨#[]⟩) (p := k) (k := k + 1) (by have := hri.told; omega) (by omega) hk1 (Nat.zero_le _) (by omega)
          exact this
        · simp [addF]; omega
        · simp; omega
      · split at h
        · rename_i h123
          have hlt := pk_ne (s := s) (a := k + 1) (by rw [h123]; decide)
          have := pushF_ok hri (by omega) hb (by omega) (by omega) h
          exact ⟨this.1, by omega⟩
        · split at h
          · cases h
          · rename_i r3 hv
            obtain ⟨v1, v2, v3⟩ := varF_ok hri (by omega) hv
            have := ih r3 r' (by omega) v1 (by omega) hb h
            exact ⟨this.1, by omega⟩

theorem cls_ne {b : UInt8} (h : cls b ≠ 0) : b ≠ 0 := by
  intro e
  subst e
  exact h (by decide +kernel)
theorem wordF_ok {s : ByteArray} {r r' : RSt} {bs bs' : List Brk} (h : RG s r bs) (hc : cls (pk s r.pos) = 1) (hx : wordF s r bs = .ok (r', bs')) : RG s r' bs' ∧ r.pos < r'.pos := by
  have hlt := cls_pk_lt1 hc
  have hle := wordTo_le s (s.size - r.pos) r.pos h.ri.pos
  have hgt : r.pos + 1 ≤ wordTo s (s.size - r.pos) r.pos := by
    obtain ⟨m, hm⟩ : ∃ m, s.size - r.pos = m + 1 := ⟨s.size - r.pos - 1, by omega⟩
    rw [hm]
    unfold wordTo
    rw [if_pos (by unfold inW; rw [hc]; rfl)]
    exact (wordTo_le s m (r.pos + 1) (by omega)).2
  have htx := extract_le s r.pos (wordTo s (s.size - r.pos) r.pos) h.ri.pos
  have hn := h.few
  unfold wordF wordEnd at hx
  generalize wordTo s (s.size - r.pos) r.pos = k at *
  generalize s.extract r.pos k = tx at *
  split at hx
  · cases hx
  · rename_i kd hk
    have hkd := wkF_le hk
    split at hx
    · rename_i h34
      have hl := pk_ne (s := s) (a := k) (by rw [h34.2]; decide)
      have hri : RI s (addF s 8 tx r.pos { r with pos := k + 1 }) := h.ri.add h.ri.told (by omega) (by omega) htx (by omega)
      have := partsF_ok (s.size + 1) _ r' (by simp [addF]; omega) hri (by simp [addF]; omega) h.brk hx
      exact ⟨this.1, by have := this.2; simp [addF] at this; omega⟩
    · injection hx with hx
      injection hx with e1 e2
      subst e1 e2
      exact ⟨⟨h.ri.add h.ri.told (by omega) hle.1 htx (by omega), by simp [addF]; omega, h.brk⟩, by simp [addF]; omega⟩

theorem numF_ok {s : ByteArray} {r r' : RSt} {bs : List Brk} (h : RG s r bs) (hc : cls (pk s r.pos) = 2) (hx : numF s r = .ok r') : RG s r' bs ∧ r.pos < r'.pos := by
  have hlt := cls_pk_lt2 hc
  have hle := numTo_le s (s.size - r.pos) r.pos h.ri.pos
  have hgt : r.pos + 1 ≤ numTo s (s.size - r.pos) r.pos := by
    obtain ⟨m, hm⟩ : ∃ m, s.size - r.pos = m + 1 := ⟨s.size - r.pos - 1, by omega⟩
    rw [hm]
    unfold numTo
    rw [if_pos hc]
    exact (numTo_le s m (r.pos + 1) (by omega)).2
  have htx := extract_le s r.pos (numTo s (s.size - r.pos) r.pos) h.ri.pos
  have hn := h.few
  unfold numF numEnd at hx
  generalize numTo s (s.size - r.pos) r.pos = k at *
  generalize s.extract r.pos k = tx at *
  split at hx
  · rename_i h76
    have hl := pk_ne (s := s) (a := k) (by rw [h76]; decide)
    unfold numFin at hx
    split at hx
    · cases hx
    · split at hx
      · cases hx
      · injection hx with e1
        subst e1
        exact ⟨⟨h.ri.add h.ri.told (by omega) (by omega) htx (by omega), by simp [addF]; omega, h.brk⟩, by simp [addF]; omega⟩
  · unfold numFin at hx
    split at hx
    · cases hx
    · split at hx
      · cases hx
      · injection hx with e1
        subst e1
        exact ⟨⟨h.ri.add h.ri.told (by omega) hle.1 htx (by omega), by simp [addF]; omega, h.brk⟩, by simp [addF]; omega⟩

theorem opF_ok {s : ByteArray} {r r' : RSt} {bs : List Brk} (h : RG s r bs) (hc : cls (pk s r.pos) = 3) (hcm : comB s r.pos = false) (hx : opF s r = .ok r') : RG s r' bs ∧ r.pos < r'.pos := by
  have hlt := cls_pk_lt hc
  have hle := opTo_le s (s.size - r.pos) r.pos h.ri.pos
  have hgt : r.pos + 1 ≤ opTo s (s.size - r.pos) r.pos := by
    obtain ⟨m, hm⟩ : ∃ m, s.size - r.pos = m + 1 := ⟨s.size - r.pos - 1, by omega⟩
    rw [hm]
    unfold opTo
    rw [if_pos ⟨hc, hcm⟩]
    exact (opTo_le s m (r.pos + 1) (by omega)).2
  have htx := extract_le s r.pos (opTo s (s.size - r.pos) r.pos) h.ri.pos
  have hn := h.few
  unfold opF opEnd at hx
  generalize opTo s (s.size - r.pos) r.pos = k at *
  generalize s.extract r.pos k = tx at *
  split at hx
  · injection hx with e1
    subst e1
    exact ⟨⟨h.ri.add h.ri.told (by omega) hle.1 htx (by omega), by simp [addF]; omega, h.brk⟩, by simp [addF]; omega⟩
  · split at hx
    · cases hx
    · injection hx with e1
      subst e1
      exact ⟨⟨h.ri.add h.ri.told (by omega) hle.1 htx (by omega), by simp [addF]; omega, h.brk⟩, by simp [addF]; omega⟩

theorem markF_ok {s : ByteArray} {r : RSt} {bs : List Brk} (h : RG s r bs) (hp : r.pos < s.size) : RG s (markF s 1 r) bs ∧ r.pos < (markF s 1 r).pos ∧ (markF s 1 r).out.length + 1 ≤ 2 * (markF s 1 r).pos := by
  have hn := h.few
  exact ⟨⟨h.ri.add h.ri.told (by omega) (by omega) (extract_le _ _ _ (by omega)) (by omega), by simp [markF, addF]; omega, h.brk⟩, by simp [markF, addF], by simp [markF, addF]; omega⟩

theorem endgF_ok {s : ByteArray} {r r' : RSt} {bs bs' : List Brk} (h : RG s r bs) (hp : r.pos < s.size) (hx : endgF s r bs = .ok (r', bs')) : RG s r' bs' ∧ r.pos < r'.pos := by
  cases bs with
  | nil => cases hx
  | cons b rest =>
    have hr := h.brk
    simp at hr
    have hm := markF_ok (bs := rest) ⟨h.ri, h.few, by omega⟩ hp
    have hx' : (if (clo b.mark.toList).toList = (s.extract r.pos (r.pos + 1)).toList then endLit s b.lit (markF s 1 r) rest else .error (r.pos, 27)) = Except.ok (r', bs') := hx
    clear hx
    split at hx'
    · rename_i hx2
      clear hx2
      have hx := hx'
      unfold endLit at hx
      split at hx
      · injection hx with hx
        injection hx with e1 e2
        subst e1 e2
        exact ⟨hm.1, hm.2.1⟩
      · have := partsF_ok (s.size + 1) _ r' (by omega) hm.1.ri hm.2.2 hm.1.brk hx
        exact ⟨this.1, by have := this.2; have := hm.2.1; omega⟩
    · cases hx'

theorem strF_ok {s : ByteArray} {r r' : RSt} {bs : List Brk} (h : RG s r bs) (hp : r.pos < s.size) (hx : strF s r = .ok r') : RG s r' bs ∧ r.pos < r'.pos := by
  have hn := h.few
  unfold strF at hx
  split at hx
  · cases hx
  · rename_i o k hc
    obtain ⟨hk1, hk2, hk3, hk4⟩ := charsF_in (by decide) (by decide) (by omega) hc
    have hsz : (⟨o.toArray⟩ : ByteArray).size ≤ s.size := by show o.toArray.size ≤ s.size; simpa using hk3
    injection hx with e1
    subst e1
    exact ⟨⟨h.ri.add h.ri.told (by omega) (by omega) hsz (by omega), by simp [addF]; omega, h.brk⟩, by simp [addF]; omega⟩
theorem charF_ok {s : ByteArray} {r r' : RSt} {bs : List Brk} (h : RG s r bs) (hp : r.pos < s.size) (hx : charF s r = .ok r') : RG s r' bs ∧ r.pos < r'.pos := by
  have hn := h.few
  unfold charF at hx
  split at hx
  · cases hx
  · rename_i o k hc
    obtain ⟨hk1, hk2, hk3, hk4⟩ := charsF_in (by decide) (by decide) (by omega) hc
    have hsz : (⟨o.toArray⟩ : ByteArray).size ≤ s.size := by show o.toArray.size ≤ s.size; simpa using hk3
    split at hx
    · injection hx with e1
      subst e1
      exact ⟨⟨h.ri.add h.ri.told (by omega) (by omega) hsz (by omega), by simp [addF]; omega, h.brk⟩, by simp [addF]; omega⟩
    · cases hx

theorem liftB_ok {s : ByteArray} {r r' : RSt} {bs bs' : List Brk} {x : Except (Nat × Nat) RSt} (hx : liftB bs x = .ok (r', bs')) : x = .ok r' ∧ bs' = bs := by
  cases x with
  | ok y => injection hx with hx; injection hx with e1 e2; exact ⟨by rw [e1], e2.symm⟩
  | error f => cases hx

theorem rstep_ok {s : ByteArray} {r r' : RSt} {bs bs' : List Brk} (h : RG s r bs) (hp : r.pos < s.size) (hcm : comB s r.pos = false) (hx : rstepF s r bs = .ok (r', bs')) : RG s r' bs' ∧ r.pos < r'.pos := by
  have hq := quotK_in (pk s r.pos) (pk s (r.pos + 1))
  have hl := cls_lt (pk s r.pos)
  unfold rstepF scanK at hx
  by_cases h0 : cls (pk s r.pos) = 0
  · rw [if_pos h0] at hx
    rcases hq with hq | hq | ⟨hq, h123⟩ | hq <;> rw [hq] at hx
    · obtain ⟨e, rfl⟩ := liftB_ok (s := s) (r := r) hx
      exact strF_ok h hp e
    · obtain ⟨e, rfl⟩ := liftB_ok (s := s) (r := r) hx
      exact charF_ok h hp e
    · have hlt := pk_ne (s := s) (a := r.pos + 1) (by rw [h123]; decide)
      have hx' : openF s r bs = .ok (r', bs') := hx
      unfold openF at hx'
      rw [if_neg (by omega)] at hx'
      exact pushF_ok h.ri h.few h.brk (by omega) (by omega) hx'
    · cases hx
  · rw [if_neg h0] at hx
    obtain hc | hc | hc | hc | hc | hc : cls (pk s r.pos) = 1 ∨ cls (pk s r.pos) = 2 ∨ cls (pk s r.pos) = 3 ∨ cls (pk s r.pos) = 4 ∨ cls (pk s r.pos) = 5 ∨ cls (pk s r.pos) = 6 := by omega
    all_goals rw [hc] at hx
    · exact wordF_ok h hc hx
    · obtain ⟨e, rfl⟩ := liftB_ok (s := s) (r := r) hx
      exact numF_ok h hc e
    · obtain ⟨e, rfl⟩ := liftB_ok (s := s) (r := r) hx
      exact opF_ok h hc hcm e
    · have hx' : openF s r bs = .ok (r', bs') := hx
      unfold openF at hx'
      rw [if_pos hc] at hx'
      exact pushF_ok h.ri h.few h.brk (by omega) (by omega) hx'
    · exact endgF_ok h hp hx
    · have hx' : Except.ok (markF s 1 r, bs) = Except.ok (r', bs') := hx
      injection hx' with hx'
      injection hx' with e1 e2
      subst e1 e2
      have := markF_ok h hp
      exact ⟨this.1, this.2.1⟩

/-- One step of the reader, whichever method it is. -/
theorem step_any (X : Nat → Prop) (w : World) (rb : Nat) (s : ByteArray) (r : RSt) (bs : List Brk) (h : RO X w rb s r bs) (hs : s.size ≤ 65536) (hg : RG s r bs) (hp : r.pos < s.size) (htb : Tab w) (hx0 : X 0) :
    Calls Tryd.prog (scanK (pk s r.pos) (pk s (r.pos + 1))) #[.pointer (some ⟨rb, 0, none⟩)] w (RoRes X w rb s (rstepF s r bs)) := by
  have hq := quotK_in (pk s r.pos) (pk s (r.pos + 1))
  have hl := cls_lt (pk s r.pos)
  have hrb : rb ≠ 0 := fun e => (h.lt 0 hx0).2 e.symm
  have h0 : 0 < w.heap.size := (h.lt 0 hx0).1
  have hn := hg.few
  obtain ⟨vn, hr, ho, hx⟩ := h
  have hRO : RO X w rb s r bs := ⟨vn, hr, ho, hx⟩
  unfold rstepF scanK
  by_cases hc0 : cls (pk s r.pos) = 0
  · rw [if_pos hc0]
    rcases hq with hq | hq | ⟨hq, h123⟩ | hq <;> rw [hq]
    · exact (str_any _ w rb s r vn hr hs hg.ri hp (by omega)).mono fun _ _ h => h.lift ho hx
    · exact (char_any _ w rb s r vn hr hs hg.ri hp (by omega)).mono fun _ _ h => h.lift ho hx
    · have hlt := pk_ne (s := s) (a := r.pos + 1) (by rw [h123]; decide)
      exact opening_any X w rb s r bs hRO hs hg.ri hp (fun _ => by omega) (by omega) hg.brk htb hx0
    · obtain ⟨vo, b1, b2, b4, ao⟩ := hr.bl
      exact (illegal_any w rb r.pos (b1.cell 1)).mono fun _ _ h => ⟨h.1, by rw [← h.2]; exact KX.refl _ _⟩
  · rw [if_neg hc0]
    obtain hc | hc | hc | hc | hc | hc : cls (pk s r.pos) = 1 ∨ cls (pk s r.pos) = 2 ∨ cls (pk s r.pos) = 3 ∨ cls (pk s r.pos) = 4 ∨ cls (pk s r.pos) = 5 ∨ cls (pk s r.pos) = 6 := by omega
    all_goals rw [hc]
    · exact word_any X w rb s r bs hRO hs hg.ri hn hg.brk htb hx0
    · exact (number_any _ w rb s r vn hr hs (by omega) hg.ri.told hg.ri.line hg.ri.start (by omega) htb hrb h0).mono fun _ _ h => h.lift ho hx
    · exact (operator_any _ w rb s r vn hr hs (by omega) hg.ri.told hg.ri.line hg.ri.start (by omega) htb hrb h0).mono fun _ _ h => h.lift ho hx
    · exact opening_any X w rb s r bs hRO hs hg.ri hp (fun hn => absurd hc hn) (by omega) hg.brk htb hx0
    · exact ending_any X w rb s r bs hRO hs hg.ri hp hn hg.brk htb hx0
    · exact (point_any _ w rb s r vn hr hs (by omega) hg.ri.told hg.ri.line hg.ri.start (by omega)).mono fun _ _ h => ⟨h.1, (RO.step ho hx h.2.1 h.2.2).1, (RO.step ho hx h.2.1 h.2.2).2⟩
end Go.Proofs.YtpgcklpcohcchaaDoor
