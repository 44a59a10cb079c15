/- Words for memory: a block that is known whole, and worlds in which one block alone has changed. -/
import Derived.WalkKit
import Derived.Below
import Derived.Laws.OwnMore
import Derived.Deep.AppendLies
import Derived.Deep.Draws
import Derived.Laws.Rows
import Derived.Maps.AppendAt
import Derived.Lib.Hide
import Derived.WalkSmall
namespace Go.Proofs.YtkjjieloncdjhaaGreatDoor
open Go Go.RowKit

/-- Block g holds these values. -/
def Bl (w : World) (g : Nat) (t : TypeId) (l : List Value) : Prop := w.heap[g]? = some (.cells l.toArray t (0, 0))

section
variable {w w' : World} {g : Nat} {t : TypeId} {l : List Value}
theorem Bl.lt (h : Bl w g t l) : g < w.heap.size := by
  apply Classical.byContradiction
  intro hn
  unfold Bl at h
  rw [Array.getElem?_eq_none (by omega)] at h
  cases h
theorem Bl.cell (h : Bl w g t l) (i : Nat) : w.cell? ⟨g, i, none⟩ = l[i]? := by
  have := cell_of_row w g i l.toArray t (0, 0) h
  simpa using this
theorem Bl.froz (h : Bl w g t l) (i : Nat) : w.frozen? ⟨g, i, none⟩ = false := by
  unfold Bl at h
  simp [World.frozen?, h]
theorem Bl.new (w : World) (t : TypeId) (l : List Value) : Bl (w.alloc (.cells l.toArray t)) w.heap.size t l := by
  exact Go.heap_alloc_new w _
theorem Bl.drewN (h : Bl w g t l) (n : Nat) : Bl (w.drewN n) g t l := h
theorem Bl.drew (h : Bl w g t l) : Bl w.drew g t l := h
theorem Bl.alloc (h : Bl w g t l) (o : Obj) : Bl (w.alloc o) g t l := (Below.heap_alloc w o g h.lt).trans h
theorem Bl.set (h : Bl w g t l) (i : Nat) (u : Value) : Bl (w.setCell ⟨g, i, none⟩ u) g t (l.set i u) := by
  unfold Bl at h ⊢
  simp [World.setCell, Array.getElem?_modify, h]
theorem Bl.far (h : Bl w g t l) {p : Addr} (hp : g ≠ p.block) (u : Value) : Bl (w.setCell p u) g t l := (Below.heap_setCell w p u g hp).trans h
theorem Bl.below {B : Nat} (h : Bl w g t l) (hb : Below B w w') (hg : g < B) : Bl w' g t l := (hb.block g hg).trans h
theorem Bl.grown {row : Option Nat} (h : Bl w g t l) (hb : w.grownBy w' row) (hg : some g ≠ row) : Bl w' g t l := (hb.block g h.lt hg).trans h
theorem Bl.apart {g' : Nat} {t' : TypeId} {l' : List Value} (h : Bl w g t l) (h' : Bl w g' t' l') (hne : t ≠ t') : g ≠ g' := by
  intro e
  subst e
  have := h.symm.trans h'
  simp at this
  exact hne this.2
theorem Bl.row_apart {base : Nat} {e : TypeId} {size n : Nat} {v : Value} {xs : List Value} (h : w.ownsRow base e size v n xs) (hg : Bl w g t l) (hne : e ≠ t) : v.ownBlock ≠ some g := by
  rcases h.2 with ⟨rfl, _⟩ | ⟨g', cap, cur, rfl, _, hh, _⟩
  · simp [Value.ownBlock]
  · intro he
    have e1 : g' = g := by simpa [Value.ownBlock] using he
    subst e1
    have := hh.symm.trans hg
    simp at this
    exact hne this.2
end

/-- Since w, of what there was block g alone may have changed. -/
def Og (g : Nat) (w w' : World) : Prop := w.grownBy w' (some g)
section
variable {g : Nat} {a b c w : World}
theorem Og.refl (g : Nat) (w : World) : Og g w w := World.grownBy.refl w _
theorem Og.trans (h : Og g a b) (k : Og g b c) : Og g a c := World.grownBy.trans h k
theorem Og.drewN (h : Og g a w) (n : Nat) : Og g a (w.drewN n) := ⟨h.os, h.tape, h.output, h.size, h.block⟩
theorem Og.drew (h : Og g a w) : Og g a w.drew := ⟨h.os, h.tape, h.output, h.size, h.block⟩
theorem Og.alloc (h : Og g a w) (o : Obj) : Og g a (w.alloc o) :=
  ⟨h.os, h.tape, h.output, Nat.le_trans h.size (by simp), fun i hi hne => (Below.heap_alloc w o i (Nat.lt_of_lt_of_le hi h.size)).trans (h.block i hi hne)⟩
theorem Og.set (h : Og g a w) (i : Nat) (u : Value) : Og g a (w.setCell ⟨g, i, none⟩ u) :=
  ⟨h.os, h.tape, h.output, by simpa [World.setCell] using h.size, fun i hi hne => (Below.heap_setCell w _ u i (by
    intro e; subst e; exact hne rfl)).trans (h.block i hi hne)⟩
theorem Og.new (h : Og g a w) {p : Addr} (hp : a.heap.size ≤ p.block) (u : Value) : Og g a (w.setCell p u) :=
  ⟨h.os, h.tape, h.output, by simpa [World.setCell] using h.size, fun i hi hne => (Below.heap_setCell w _ u i (by
    intro e; subst e; omega)).trans (h.block i hi hne)⟩
theorem Og.below {B : Nat} (h : Og g a w) (hB : B ≤ g) (hs : B ≤ a.heap.size) : Below B a w :=
  ⟨h.os, h.tape, h.output, h.size, fun k hk => h.block k (by omega) (by intro e; injection e with e; omega)⟩
theorem Og.cell (h : Og g a w) {p : Addr} (hlt : p.block < a.heap.size) (hne : p.block ≠ g) : w.cell? p = a.cell? p :=
  World.cell?_of_block (h.block _ hlt (by intro e; injection e with e; exact hne e))
theorem Og.row {base : Nat} {e : TypeId} {size n : Nat} {v : Value} {xs : List Value} (h : Og g a w) (hr : a.ownsRow base e size v n xs) (hne : v.ownBlock ≠ some g) : w.ownsRow base e size v n xs :=
  hr.kept h (.inr hne)
end
end Go.Proofs.YtkjjieloncdjhaaGreatDoor
