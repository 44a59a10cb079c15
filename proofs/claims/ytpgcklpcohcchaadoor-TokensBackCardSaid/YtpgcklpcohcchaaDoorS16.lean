/- Raw: the tokens of a text. -/
import Derived.Test.YtpgcklpcohcchaaDoorS14
import Derived.Test.YtpgcklpcohcchaaDoorS15
import Derived.Test.YtpgcklpcohcchaaDoorA23
import Derived.Test.YtpgcklpcohcchaaDoorR7
namespace Go.Proofs.YtpgcklpcohcchaaDoor
open Go Go.RowKit

theorem skipF_ok {s : ByteArray} : ∀ (f a k : Nat), s.size < a + f → a ≤ s.size → skipF s f a = .ok k → a ≤ k ∧ k ≤ s.size ∧ comB s k = false := by
  intro f
  induction f with
  | zero => intro a k h1 h2; omega
  | succ f ih =>
    intro a k h1 h2 h
    unfold skipF at h
    split at h
    · rename_i hsp
      have hlt : a < s.size := pk_ne (by rcases hsp with e | e | e <;> rw [e] <;> decide)
      have := ih (a + 1) k (by omega) (by omega) h
      exact ⟨by omega, this.2⟩
    · split at h
      · rename_i hcm
        have hlt : a < s.size := by
          refine pk_ne (s := s) (a := a) ?_
          intro e
          unfold comB at hcm
          rw [e] at hcm
          simp at hcm
        split at h
        · have hl := lineTo_le s (s.size - a) a h2
          have hg : a + 1 ≤ lineTo s (s.size - a) a := by
            obtain ⟨m, hm⟩ : ∃ m, s.size - a = m + 1 := ⟨s.size - a - 1, by omega⟩
            rw [hm]
            unfold lineTo
            have h47 : pk s a = 47 := by unfold comB at hcm; simp at hcm; exact hcm.1
            rw [if_pos ⟨hlt, by rw [h47]; decide⟩]
            exact (lineTo_le s m (a + 1) (by omega)).2
          have := ih _ k (by omega) hl.1 h
          exact ⟨by omega, this.2⟩
        · split at h
          · cases h
          · rename_i k1 hc
            have hl := comTo_le s _ _ _ _ hc
            have := ih _ k (by omega) hl.1 h
            exact ⟨by omega, this.2⟩
      · rename_i hcm
        injection h with h
        subst h
        exact ⟨Nat.le_refl _, h2, by simpa using hcm⟩

def rawL (s : ByteArray) : Nat → RSt → List Brk → Except (Nat × Nat) (RSt × List Brk)
  | 0, r, bs => .ok (r, bs)
  | f + 1, r, bs => if r.pos < s.size then (match rstepF s r bs with
      | .error e => .error e
      | .ok (r1, bs1) => match skipF s (s.size + 1) r1.pos with
        | .error a => .error (a, 27)
        | .ok k => rawL s f { r1 with pos := k } bs1)
    else .ok (r, bs)
theorem rawL_succ (s : ByteArray) (f : Nat) (r : RSt) (bs : List Brk) : rawL s (f + 1) r bs = if r.pos < s.size then (match rstepF s r bs with
      | .error e => .error e
      | .ok (r1, bs1) => match skipF s (s.size + 1) r1.pos with
        | .error a => .error (a, 27)
        | .ok k => rawL s f { r1 with pos := k } bs1)
    else .ok (r, bs) := rfl
def rawE : List Brk → List Tok → Except (Nat × Nat) (List Tok)
  | [], l => .ok l
  | b :: _, _ => .error (b.pos, 27)
def rawS (s : ByteArray) : Except (Nat × Nat) (RSt × List Brk) := match skipF s (s.size + 1) 0 with
  | .error a => .error (a, 27)
  | .ok k => rawL s (s.size + 1) ⟨k, [], 0, 0, 0⟩ []
def rawFin : Except (Nat × Nat) (RSt × List Brk) → Except (Nat × Nat) (List Tok)
  | .error e => .error e
  | .ok (r, bs) => rawE bs r.out
/-- The tokens of a text, or the fault. -/
def rawF (s : ByteArray) : Except (Nat × Nat) (List Tok) := match bytesF s with
  | some e => .error e
  | none => rawFin (rawS s)

theorem bytesF_size {s : ByteArray} (h : bytesF s = none) : s.size ≤ 65536 := by
  unfold bytesF at h
  split at h
  · cases h
  · omega

def XR (X : Nat → Prop) (p q : Nat) : Nat → Prop := fun b => X b ∨ b = p ∨ b = q

theorem raw_start {X : Nat → Prop} {w2 : World} {s : ByteArray} {p q : Nat} (hX : ∀ b, X b → b < w2.heap.size) (hp : p < w2.heap.size) (hq : q < w2.heap.size) :
    RO (XR X p q) (w2.alloc (.cells #[.string s, .int .i64 0, .slice none 0 0, .slice none 0 0, .int .i64 0, .int .i64 0, .int .i64 0] 42)) w2.heap.size s ⟨0, [], 0, 0, 0⟩ [] := by
  refine ⟨.slice none 0 0, ⟨.slice none 0 0, Bl.new w2 42 [.string s, .int .i64 0, .slice none 0 0, .slice none 0 0, .int .i64 0, .int .i64 0, .int .i64 0], World.ownsRow_nil _ _ _ _, fun b hb => ?_⟩, World.ownsRow_nil _ _ _ _, fun b hb => by simp [Value.ownBlock]⟩
  have hlt : b < w2.heap.size := by
    rcases hb with hb | hb
    · rcases hb with hb | rfl | rfl
      · exact hX b hb
      · exact hp
      · exact hq
    · simp [Value.ownBlock] at hb
  exact ⟨by simp; omega, by omega, by simp [Value.ownBlock]⟩

/-- skip, with all of the reader. -/
theorem skip_ro (X : Nat → Prop) (w : World) (rb : Nat) (s : ByteArray) (r : RSt) (bs : List Brk) (h : RO X w rb s r bs) (hs : s.size ≤ 65536) (hp : r.pos ≤ s.size) :
    Calls Tryd.prog 12 #[.pointer (some ⟨rb, 0, none⟩)] w (RoRes X w rb s (match skipF s (s.size + 1) r.pos with
      | .error a => .error (a, 27)
      | .ok k => .ok ({ r with pos := k }, bs))) := by
  obtain ⟨vn, hr, ho, hx⟩ := h
  obtain ⟨vo, b1, b2, b4, ao⟩ := hr.bl
  refine (skip_any rb s r.pos (r.fs vo vn) w hs hp b1).mono ?_
  intro e w' hres
  cases hk : skipF s (s.size + 1) r.pos with
  | error a =>
    rw [hk] at hres
    exact ⟨hres.1, (KX.og b4 hres.2).mono fun _ h => .inl h⟩
  | ok k =>
    rw [hk] at hres
    obtain ⟨e1, hB, hO⟩ := hres
    obtain ⟨m1, m2⟩ := RR.moved (X := XO X vn) (r := r) (a := k) b2 b4 ao hB hO
    exact ⟨e1, (RO.step ho hx m1 m2).1, (RO.step ho hx m1 m2).2⟩

set_option maxRecDepth 100000 in
set_option maxHeartbeats 12800000 in
theorem raw_bad (X : Nat → Prop) (w : World) (s : ByteArray) (hX : ∀ b, X b → b < w.heap.size) (f : Nat × Nat) (hc : bytesF s = some f) :
    Calls Tryd.prog 7 #[.string s] w (LayRes X w (.error f)) := by
  have ck := checkBytes_any s ((w.alloc (.cells #[.slice none 0 0] 23)).alloc (.cells #[.int .i64 0, .int .i64 0] 26))
  rw [hc] at ck
  have CK := Lib.hid ck
  have hmf := hmf
  clear hc ck
  go_enter_defers Tryd.func7, Tryd.ntmps7
  go_wp2_with fail
  refine CK.out.mono ?_
  rintro e w2 ⟨rfl, rfl⟩
  have hp : Bl ((w.alloc (.cells #[.slice none 0 0] 23)).alloc (.cells #[.int .i64 0, .int .i64 0] 26)) w.heap.size 23 [.slice none 0 0] := (Bl.new w 23 [.slice none 0 0]).alloc _
  have hq : Bl ((w.alloc (.cells #[.slice none 0 0] 23)).alloc (.cells #[.int .i64 0, .int .i64 0] 26)) (w.heap.size + 1) 26 [.int .i64 0, .int .i64 0] := by
    have := Bl.new (w.alloc (.cells #[.slice none 0 0] 23)) 26 [.int .i64 0, .int .i64 0]
    simpa using this
  refine doorR_panic (by rfl) (by rfl) hp hq (by omega) (fun w' h => ⟨rfl, ?_⟩)
  have hb0 := ((Below.refl w.heap.size w).alloc (Nat.le_refl _) (.cells #[.slice none 0 0] 23)).alloc (by simp) (.cells #[.int .i64 0, .int .i64 0] 26)
  have hs := hb0.size
  exact (KX.below hb0 hX).trans (h X (fun b hb => ⟨by have := hX b hb; omega, by have := hX b hb; omega, by have := hX b hb; omega⟩))
end Go.Proofs.YtpgcklpcohcchaaDoor
