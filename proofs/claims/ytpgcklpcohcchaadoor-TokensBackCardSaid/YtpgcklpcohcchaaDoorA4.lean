/- The state of the layout of tokens in memory, and what its small methods do with it. -/
import Derived.Test.YtpgcklpcohcchaaDoorA3
import Derived.WalkSpells
import Derived.StillTactics
import Derived.OwnWalk
import Derived.Laws.Pointers
import Derived.Deep.RegionHeld3
import Derived.KernelRfl
import Derived.Test.YtpgcklpcohcchaaDoorC
namespace Go.Proofs.YtpgcklpcohcchaaDoor
open Go Go.RowKit

theorem Tryd.info32 : (Tryd.prog.info? 32).map (fun i => (i.zero, i.size, i.bytes)) = some (some (.agg #[.int .i64 0, .string ⟨#[]⟩, .int .i64 0, .int .i64 0, .int .i64 0]), 5, 48) := by kernel_rfl
theorem Tryd.info75 : (Tryd.prog.info? 75).map (fun i => (i.zero, i.size, i.bytes)) = some (some (.agg #[.string ⟨#[]⟩, .int .i64 0, .int .i64 0]), 3, 32) := by kernel_rfl

/-- A region: a bracket, or an indentation. -/
structure Reg where
  mark : ByteArray
  width : Nat
  index : Nat
def Reg.cs (r : Reg) : List Value := [.string r.mark, .int .i64 r.width, .int .i64 r.index]

/-- The cells of tokens, of regions (the innermost one is the first of the list and the last in memory). -/
def tcs (l : List Tok) : List Value := l.flatMap Tok.cs
def rcs (l : List Reg) : List Value := l.reverse.flatMap Reg.cs

structure LS where
  out : List Tok
  regs : List Reg
  first : Nat

/-- Blocks of a set of blocks that must stay are as they were. -/
structure KX (X : Nat → Prop) (w w' : World) : Prop where
  os : w'.os = w.os
  tape : w'.tape = w.tape
  output : w'.output = w.output
  size : w.heap.size ≤ w'.heap.size
  block : ∀ k, X k → w'.heap[k]? = w.heap[k]?
theorem KX.refl (X : Nat → Prop) (w : World) : KX X w w := ⟨rfl, rfl, rfl, Nat.le_refl _, fun _ _ => rfl⟩
theorem KX.trans {X : Nat → Prop} {a b c : World} (h : KX X a b) (k : KX X b c) : KX X a c := ⟨k.os.trans h.os, k.tape.trans h.tape, k.output.trans h.output, Nat.le_trans h.size k.size, fun i hi => (k.block i hi).trans (h.block i hi)⟩
theorem KX.mono {X Y : Nat → Prop} {a b : World} (h : KX X a b) (hs : ∀ k, Y k → X k) : KX Y a b := ⟨h.os, h.tape, h.output, h.size, fun i hi => h.block i (hs i hi)⟩
theorem KX.below {X : Nat → Prop} {w w' : World} (hb : Below w.heap.size w w') (hX : ∀ k, X k → k < w.heap.size) : KX X w w' := ⟨hb.os, hb.tape, hb.output, hb.size, fun k hk => hb.block k (hX k hk)⟩
theorem KX.cell {X : Nat → Prop} {w w' : World} (h : KX X w w') {p : Addr} (hp : X p.block) : w'.cell? p = w.cell? p := World.cell?_of_block (h.block _ hp)
theorem KX.bl {X : Nat → Prop} {w w' : World} {g : Nat} {t : TypeId} {l : List Value} (h : KX X w w') (hp : X g) (hb : Bl w g t l) : Bl w' g t l := (h.block _ hp).trans hb
theorem KX.drew {X : Nat → Prop} {a w : World} (h : KX X a w) : KX X a w.drew := ⟨h.os, h.tape, h.output, h.size, h.block⟩
theorem KX.drewN {X : Nat → Prop} {a w : World} (h : KX X a w) (n : Nat) : KX X a (w.drewN n) := ⟨h.os, h.tape, h.output, h.size, h.block⟩

/-- Block yb is the layout, in this state; none of the blocks of X is part of it. -/
def LR (X : Nat → Prop) (w : World) (yb : Nat) (lv : Value) (s : LS) : Prop :=
  ∃ vo vr, Bl w yb 72 [lv, vo, vr, .int .i64 s.first] ∧ w.ownsRow 0 32 5 vo s.out.length (tcs s.out) ∧ w.ownsRow 0 75 3 vr s.regs.length (rcs s.regs) ∧
    ∀ b, X b → b < w.heap.size ∧ b ≠ yb ∧ vo.ownBlock ≠ some b ∧ vr.ownBlock ≠ some b

theorem tcs_snoc (l : List Tok) (t : Tok) : tcs (l ++ [t]) = tcs l ++ t.cs := by simp [tcs]
theorem rcs_cons (r : Reg) (l : List Reg) : rcs (r :: l) = rcs l ++ r.cs := by simp [rcs]
theorem Tok.one (t : Tok) : ∀ u ∈ t.cs, u.oneCell' = true := by intro u hu; simp [Tok.cs] at hu; rcases hu with rfl | rfl | rfl | rfl | rfl <;> rfl
theorem Reg.one (t : Reg) : ∀ u ∈ t.cs, u.oneCell' = true := by intro u hu; simp [Reg.cs] at hu; rcases hu with rfl | rfl | rfl <;> rfl

theorem heap2 (w : World) (o p : Obj) : ((w.alloc o).alloc p).drew.heap[w.heap.size + 1]? = some p := by
  have h := Go.heap_alloc_new (w.alloc o) p
  rw [show (w.alloc o).heap.size = w.heap.size + 1 by simp] at h
  exact h

theorem rows_apart {w : World} {base base' : Nat} {e e' : TypeId} {n m k k' : Nat} {v v' : Value} {xs ys : List Value} (h : w.ownsRow base e k v n xs) (h' : w.ownsRow base' e' k' v' m ys) (hne : e ≠ e') : v.ownBlock = none ∨ v.ownBlock ≠ v'.ownBlock := by
  rcases h.2 with ⟨rfl, _⟩ | ⟨g, cap, cur, rfl, _, hh, _⟩
  · exact .inl rfl
  · right
    rcases h'.2 with ⟨rfl, _⟩ | ⟨g', cap', cur', rfl, _, hh', _⟩
    · simp [Value.ownBlock]
    · intro he
      have e1 : g = g' := by simpa [Value.ownBlock] using he
      subst e1
      have := hh.symm.trans hh'
      simp at this
      exact hne this.2

theorem grown_of_below {w w' : World} (hb : Below w.heap.size w w') : w.grownBy w' none := ⟨hb.os, hb.tape, hb.output, hb.size, fun k hk _ => hb.block k hk⟩

theorem row_keep {w w' : World} {base : Nat} {e : TypeId} {n k : Nat} {v : Value} {xs : List Value} (h : w.ownsRow base e k v n xs) (hb : Below w.heap.size w w') : w'.ownsRow base e k v n xs :=
  h.kept (grown_of_below hb) (by cases v.ownBlock <;> simp)

theorem LR.lt {X : Nat → Prop} {yb : Nat} {lv : Value} {s : LS} {w : World} (h : LR X w yb lv s) : ∀ k, X k → k < w.heap.size := by
  obtain ⟨vo, vr, h1, h2, h3, h4⟩ := h
  exact fun k hk => (h4 k hk).1

theorem LR.keep {X : Nat → Prop} {yb : Nat} {lv : Value} {s : LS} {w w' : World} (h : LR X w yb lv s) (hb : Below w.heap.size w w') : LR X w' yb lv s := by
  obtain ⟨vo, vr, h1, h2, h3, h4⟩ := h
  refine ⟨vo, vr, h1.grown (grown_of_below hb) (by simp), row_keep h2 hb, row_keep h3 hb, fun b hX => ?_⟩
  obtain ⟨k1, k2, k3, k4⟩ := h4 b hX
  exact ⟨Nat.lt_of_lt_of_le k1 hb.size, k2, k3, k4⟩

theorem LR.mono {X Y : Nat → Prop} {yb : Nat} {lv : Value} {s : LS} {w : World} (h : LR X w yb lv s) (hs : ∀ k, Y k → X k) : LR Y w yb lv s := by
  obtain ⟨vo, vr, h1, h2, h3, h4⟩ := h
  exact ⟨vo, vr, h1, h2, h3, fun b hb => h4 b (hs b hb)⟩

/-- A block that is made later is not part of the layout. -/
theorem LR.more {X : Nat → Prop} {yb : Nat} {lv : Value} {s : LS} {w w' : World} (h : LR X w yb lv s) (hb : Below w.heap.size w w') (g : Nat) (hg : w.heap.size ≤ g) (hg' : g < w'.heap.size) : LR (fun b => X b ∨ b = g) w' yb lv s := by
  obtain ⟨vo, vr, h1, h2, h3, h4⟩ := h
  refine ⟨vo, vr, h1.grown (grown_of_below hb) (by simp), row_keep h2 hb, row_keep h3 hb, fun b hX => ?_⟩
  rcases hX with hX | rfl
  · obtain ⟨k1, k2, k3, k4⟩ := h4 b hX
    exact ⟨Nat.lt_of_lt_of_le k1 hb.size, k2, k3, k4⟩
  · refine ⟨hg', ?_, ?_, ?_⟩
    · have := h1.lt; omega
    · intro e; have := (h2.lt _ e).2; omega
    · intro e; have := (h3.lt _ e).2; omega

/-- Behind an append to the list of tokens, and the store of its new value. -/
theorem LR.put_close {X : Nat → Prop} {yb gg cap H : Nat} {lv vo vr : Value} {s : LS} {t : Tok} {w w0 w1 : World} (h1 : Bl w yb 72 [lv, vo, vr, .int .i64 s.first]) (h2 : w.ownsRow 0 32 5 vo s.out.length (tcs s.out))
    (h3 : w.ownsRow 0 75 3 vr s.regs.length (rcs s.regs)) (h4 : ∀ b, X b → b < w.heap.size ∧ b ≠ yb ∧ vo.ownBlock ≠ some b ∧ vr.ownBlock ≠ some b) (hb : Below w.heap.size w w0) (hg : w0.grownBy w1 vo.ownBlock)
    (ho : w1.ownsRow 0 32 5 (.slice (some ⟨gg, 0, none⟩) (s.out.length + 1) cap) (s.out.length + 1) (tcs s.out ++ t.cs)) (hat : vo.ownBlock = some gg ∨ gg = H) (hH : w.heap.size ≤ H) :
    LR X (w1.setCell ⟨yb, 1, none⟩ (.slice (some ⟨gg, 0, none⟩) (s.out.length + 1) cap)) yb lv { s with out := s.out ++ [t] } ∧ KX X w (w1.setCell ⟨yb, 1, none⟩ (.slice (some ⟨gg, 0, none⟩) (s.out.length + 1) cap)) := by
  have b0 : Bl w0 yb 72 [lv, vo, vr, .int .i64 s.first] := h1.below hb h1.lt
  have b1 := b0.grown hg (Ne.symm (Bl.row_apart h2 h1 (by decide)))
  have r0 := row_keep h3 hb
  have r1 := r0.kept hg (rows_apart r0 (row_keep h2 hb) (by decide))
  have og : Og yb w1 (w1.setCell ⟨yb, 1, none⟩ (.slice (some ⟨gg, 0, none⟩) (s.out.length + 1) cap)) := (Og.refl yb w1).set 1 _
  have hsz : w.heap.size ≤ (w1.setCell ⟨yb, 1, none⟩ (.slice (some ⟨gg, 0, none⟩) (s.out.length + 1) cap)).heap.size := Nat.le_trans hb.size (Nat.le_trans hg.size og.size)
  refine ⟨⟨_, _, b1.set 1 _, ?_, og.row r1 (Bl.row_apart r1 b1 (by decide)), fun b hX => ?_⟩, ?_⟩
  · have := og.row ho (Bl.row_apart ho b1 (by decide))
    simpa [tcs_snoc] using this
  · obtain ⟨k1, k2, k3, k4⟩ := h4 b hX
    refine ⟨by omega, k2, ?_, k4⟩
    intro e
    have e1 : gg = b := by simpa [Value.ownBlock] using e
    rcases hat with hat | hat
    · exact k3 (by rw [hat, e1])
    · omega
  · refine ⟨(og.os.trans hg.os).trans hb.os, (og.tape.trans hg.tape).trans hb.tape, (og.output.trans hg.output).trans hb.output, hsz, fun k hk => ?_⟩
    obtain ⟨k1, k2, k3, k4⟩ := h4 k hk
    have l0 := hb.size
    have l1 := hg.size
    exact ((og.block k (by omega) (by intro e; injection e with e; exact k2 e)).trans (hg.block k (by omega) (Ne.symm k3))).trans (hb.block k k1)

/-- Behind an append to the list of regions, and the store of its new value. -/
theorem LR.open_close {X : Nat → Prop} {yb gg cap H : Nat} {lv vo vr : Value} {s : LS} {r : Reg} {w w0 w1 : World} (h1 : Bl w yb 72 [lv, vo, vr, .int .i64 s.first]) (h2 : w.ownsRow 0 32 5 vo s.out.length (tcs s.out))
    (h3 : w.ownsRow 0 75 3 vr s.regs.length (rcs s.regs)) (h4 : ∀ b, X b → b < w.heap.size ∧ b ≠ yb ∧ vo.ownBlock ≠ some b ∧ vr.ownBlock ≠ some b) (hb : Below w.heap.size w w0) (hg : w0.grownBy w1 vr.ownBlock)
    (ho : w1.ownsRow 0 75 3 (.slice (some ⟨gg, 0, none⟩) (s.regs.length + 1) cap) (s.regs.length + 1) (rcs s.regs ++ r.cs)) (hat : vr.ownBlock = some gg ∨ gg = H) (hH : w.heap.size ≤ H) :
    LR X (w1.setCell ⟨yb, 2, none⟩ (.slice (some ⟨gg, 0, none⟩) (s.regs.length + 1) cap)) yb lv { s with regs := r :: s.regs } ∧ KX X w (w1.setCell ⟨yb, 2, none⟩ (.slice (some ⟨gg, 0, none⟩) (s.regs.length + 1) cap)) := by
  have b0 : Bl w0 yb 72 [lv, vo, vr, .int .i64 s.first] := h1.below hb h1.lt
  have b1 := b0.grown hg (Ne.symm (Bl.row_apart h3 h1 (by decide)))
  have r0 := row_keep h2 hb
  have r1 := r0.kept hg (rows_apart r0 (row_keep h3 hb) (by decide))
  have og : Og yb w1 (w1.setCell ⟨yb, 2, none⟩ (.slice (some ⟨gg, 0, none⟩) (s.regs.length + 1) cap)) := (Og.refl yb w1).set 2 _
  have hsz : w.heap.size ≤ (w1.setCell ⟨yb, 2, none⟩ (.slice (some ⟨gg, 0, none⟩) (s.regs.length + 1) cap)).heap.size := Nat.le_trans hb.size (Nat.le_trans hg.size og.size)
  refine ⟨⟨_, _, b1.set 2 _, og.row r1 (Bl.row_apart r1 b1 (by decide)), ?_, fun b hX => ?_⟩, ?_⟩
  · have := og.row ho (Bl.row_apart ho b1 (by decide))
    simpa [rcs_cons] using this
  · obtain ⟨k1, k2, k3, k4⟩ := h4 b hX
    refine ⟨by omega, k2, k3, ?_⟩
    intro e
    have e1 : gg = b := by simpa [Value.ownBlock] using e
    rcases hat with hat | hat
    · exact k4 (by rw [hat, e1])
    · omega
  · refine ⟨(og.os.trans hg.os).trans hb.os, (og.tape.trans hg.tape).trans hb.tape, (og.output.trans hg.output).trans hb.output, hsz, fun k hk => ?_⟩
    obtain ⟨k1, k2, k3, k4⟩ := h4 k hk
    have l0 := hb.size
    have l1 := hg.size
    exact ((og.block k (by omega) (by intro e; injection e with e; exact k2 e)).trans (hg.block k (by omega) (Ne.symm k4))).trans (hb.block k k1)

/-- The token that is put into the list in front of t. -/
def Tok.as (t : Tok) (k : Nat) : Tok := ⟨k, ⟨#[]⟩, t.pos, t.line, t.col⟩

end Go.Proofs.YtpgcklpcohcchaaDoor
