/- The reader of tokens with its open brackets; what stays true of it. -/
import Derived.Test.YtpgcklpcohcchaaDoorS3
import Derived.Test.YtpgcklpcohcchaaDoorR11
namespace Go.Proofs.YtpgcklpcohcchaaDoor
open Go Go.RowKit

theorem Tryd.info46 : (Tryd.prog.info? 46).map (fun i => (i.zero, i.size, i.bytes)) = some (some (.agg #[.string ⟨#[]⟩, .int .i64 0, .int .i64 0]), 3, 32) := by kernel_rfl

structure Brk where
  mark : ByteArray
  pos : Nat
  lit : Option Nat
def litI : Option Nat → Int
  | none => -1
  | some n => n
def Brk.cs (b : Brk) : List Value := [.string b.mark, .int .i64 b.pos, .int .i64 (litI b.lit)]
/-- The cells of the open brackets, the innermost one first in the list, last in memory. -/
def kcs (l : List Brk) : List Value := l.reverse.flatMap Brk.cs
theorem kcs_cons (r : Brk) (l : List Brk) : kcs (r :: l) = kcs l ++ r.cs := by simp [kcs]
theorem Brk.one (t : Brk) : ∀ u ∈ t.cs, u.oneCell' = true := by intro u hu; simp [Brk.cs] at hu; rcases hu with rfl | rfl | rfl <;> rfl
theorem kcs_length (l : List Brk) : (kcs l).length = l.length * 3 := by
  induction l with
  | nil => rfl
  | cons r l ih => rw [kcs_cons]; simp [Brk.cs] at ih ⊢; omega

def XO (X : Nat → Prop) (vn : Value) : Nat → Prop := fun b => X b ∨ vn.ownBlock = some b
/-- The reader at rb in memory, with its open brackets. -/
def RO (X : Nat → Prop) (w : World) (rb : Nat) (s : ByteArray) (r : RSt) (bs : List Brk) : Prop :=
  ∃ vn, RR (XO X vn) w rb s r vn ∧ w.ownsRow 0 46 3 vn bs.length (kcs bs) ∧ ∀ b, X b → vn.ownBlock ≠ some b

theorem row_kx {X : Nat → Prop} {w w' : World} {e : TypeId} {base n k : Nat} {v : Value} {xs : List Value} (h : w.ownsRow base e k v n xs) (hx : ∀ b, v.ownBlock = some b → X b) (hk : KX X w w') : w'.ownsRow base e k v n xs := by
  obtain ⟨h1, h2⟩ := h
  refine ⟨h1, ?_⟩
  rcases h2 with h2 | ⟨g, cap, cur, rfl, hb, hh, hr⟩
  · exact .inl h2
  · exact .inr ⟨g, cap, cur, rfl, hb, (hk.block g (hx g rfl)).trans hh, hr⟩

theorem RO.step {X : Nat → Prop} {w w' : World} {rb : Nat} {s : ByteArray} {r' : RSt} {bs : List Brk} {vn : Value} (ho : w.ownsRow 0 46 3 vn bs.length (kcs bs)) (hx : ∀ b, X b → vn.ownBlock ≠ some b) (hr : RR (XO X vn) w' rb s r' vn) (hk : KX (XO X vn) w w') :
    RO X w' rb s r' bs ∧ KX X w w' := ⟨⟨vn, hr, row_kx ho (fun _ hb => .inr hb) hk, hx⟩, hk.mono fun _ h => .inl h⟩

/-- What a step of the reader leaves, with its open brackets. -/
def RoRes (X : Nat → Prop) (w : World) (rb : Nat) (s : ByteArray) (x : Except (Nat × Nat) (RSt × List Brk)) (e : Ending) (w' : World) : Prop :=
  match x with
  | .ok (r, bs) => e = .returned (.tuple #[]) ∧ RO X w' rb s r bs ∧ KX X w w'
  | .error f => e = .panicked (fv f.1 f.2) ∧ KX X w w'

theorem RO.keep {X : Nat → Prop} {w w' : World} {rb : Nat} {s : ByteArray} {r : RSt} {bs : List Brk} (h : RO X w rb s r bs) (hb : Below w.heap.size w w') : RO X w' rb s r bs := by
  obtain ⟨vn, h1, h2, h3⟩ := h
  exact ⟨vn, h1.keep hb, row_keep h2 hb, h3⟩
theorem RO.lt {X : Nat → Prop} {w : World} {rb : Nat} {s : ByteArray} {r : RSt} {bs : List Brk} (h : RO X w rb s r bs) : ∀ b, X b → b < w.heap.size ∧ b ≠ rb := by
  obtain ⟨vn, ⟨vo, h1, h2, h4⟩, h3⟩ := h
  intro b hb
  have := h4 b (.inl hb)
  exact ⟨this.1, this.2.1⟩

/-- Of the reader: its places are in order, and it has not more tokens than twice its place. -/
structure RI (s : ByteArray) (r : RSt) : Prop where
  pos : r.pos ≤ s.size
  told : r.told ≤ r.pos
  line : r.line ≤ r.told
  start : r.start ≤ r.told
  toks : ∀ t ∈ r.out, t.pos ≤ s.size ∧ t.line ≤ s.size ∧ t.text.size ≤ s.size ∧ t.kind ≤ 10

theorem RI.add {s : ByteArray} {r : RSt} {kd : Nat} {tx : ByteArray} {p k : Nat} (h : RI s r) (hp : r.told ≤ p) (hpk : p ≤ k) (hk : k ≤ s.size) (htx : tx.size ≤ s.size) (hkd : kd ≤ 10) : RI s (addF s kd tx p { r with pos := k }) := by
  have hl := advF_le s (p - r.told) r.told r.line r.start h.line h.start
  refine ⟨hk, hpk, ?_, ?_, ?_⟩
  · show (advF s (p - r.told) r.told r.line r.start).1 ≤ p
    omega
  · show (advF s (p - r.told) r.told r.line r.start).2 ≤ p
    omega
  · intro t ht
    simp only [addF, List.mem_append, List.mem_singleton] at ht
    rcases ht with ht | rfl
    · exact h.toks t ht
    · refine ⟨by simp; omega, ?_, htx, hkd⟩
      show (advF s (p - r.told) r.told r.line r.start).1 ≤ s.size
      omega
theorem addF_len (s : ByteArray) (kd : Nat) (tx : ByteArray) (p : Nat) (r : RSt) : (addF s kd tx p r).out.length = r.out.length + 1 := by simp [addF]
theorem addF_pos (s : ByteArray) (kd : Nat) (tx : ByteArray) (p : Nat) (r : RSt) : (addF s kd tx p r).pos = r.pos := rfl
theorem addF_told (s : ByteArray) (kd : Nat) (tx : ByteArray) (p : Nat) (r : RSt) : (addF s kd tx p r).told = p := rfl
theorem RI.move {s : ByteArray} {r : RSt} {k : Nat} (h : RI s r) (h1 : r.told ≤ k) (h2 : k ≤ s.size) : RI s { r with pos := k } := ⟨h2, h1, h.line, h.start, h.toks⟩

/-- A contract of a step that does not look at the open brackets, with them. -/
theorem RdRes.ro {X : Nat → Prop} {w w' : World} {rb : Nat} {s : ByteArray} {bs : List Brk} {vn : Value} {x : Except (Nat × Nat) RSt} {e : Ending} (ho : w.ownsRow 0 46 3 vn bs.length (kcs bs)) (hx : ∀ b, X b → vn.ownBlock ≠ some b) (h : RdRes (XO X vn) w rb s vn x e w') :
    RoRes X w rb s (match x with | .ok r => .ok (r, bs) | .error f => .error f) e w' := by
  cases x with
  | ok r =>
    obtain ⟨h1, h2, h3⟩ := h
    exact ⟨h1, (RO.step ho hx h2 h3).1, (RO.step ho hx h2 h3).2⟩
  | error f => exact ⟨h.1, h.2.mono fun _ h => .inl h⟩
end Go.Proofs.YtpgcklpcohcchaaDoor
