/- Whether an operator goes on with a statement. -/
import Derived.Test.YtpgcklpcohcchaaDoorA10
namespace Go.Proofs.YtpgcklpcohcchaaDoor
open Go Go.RowKit

theorem cell_alloc3 {w : World} {a : Addr} {v : Value} (h : w.cell? a = some v) (o p q : Obj) : (((w.alloc o).alloc p).alloc q).cell? a = some v := cell_alloc1 (cell_alloc2 h o p) q
theorem drewN_below {B : Nat} {a w : World} (h : Below B a w) (n : Nat) : Below B a (w.drewN n) := ⟨h.os, h.tape, h.output, h.size, h.block⟩

set_option maxRecDepth 100000 in
set_option maxHeartbeats 6400000 in
theorem cont_last (X : Nat → Prop) (w : World) (yb : Nat) (lv : Value) (s : LS) (ts : List Tok) (i : Nat) (t : Tok) (h : LR X w yb lv s) (hl : LL X w lv ts) (hi : ts[i]? = some t) (hk : t.kind = 2) (hn : ts.length ≤ 1000000) (hL : ts.length = i + 1) :
    Calls Tryd.prog 62 #[.pointer (some ⟨yb, 0, none⟩), .int .i64 i] w fun e w' => e = .returned (.bool (contT ts i t)) ∧ Below w.heap.size w w' := by
  have hlt : i < ts.length := (List.getElem?_eq_some_iff.1 hi).1
  obtain ⟨g, cap, rfl, hg, k0, k1, k2, k3, k4⟩ := hl.tok hi
  obtain ⟨vo, vr, h1, h2, h3, h4⟩ := h
  have c0 := h1.cell 0
  simp at c0
  have hx : contT ts i t = true := by
    unfold contT
    rw [if_pos hk, List.getElem?_eq_none (by omega)]
  rw [hx]
  obtain ⟨tk, tx, ta, tl, tc⟩ := t
  simp only at hk k0 k1 k2 k3 k4 ⊢
  have q2 : (0 : Int) ≤ (i : Int) := by omega
  have q3 : (i : Int) < (ts.length : Int) := by omega
  have q4 : IntKind.i64.wrap ((i : Int) + 1) = (i : Int) + 1 := by rw [IntKind.wrap_i64]; omega
  subst hk
  have hL' : (((i : Int) + 1) == (ts.length : Int)) = true := by simp; omega
  rw [hL] at c0 q3 hL'
  clear h1 h2 h3 h4 hl hi hx hlt hn
  simp at hL'
  have c0' := cell_alloc1 c0
  go_enter Tryd.func62, Tryd.ntmps62
  go_wp2
  go_quiet (fail)
  go_wp2
  go_ret
  exact ⟨rfl, drewN_below ((Below.refl _ _).alloc (Nat.le_refl _) _) _⟩

set_option maxRecDepth 100000 in
set_option maxHeartbeats 6400000 in
theorem cont_op (X : Nat → Prop) (w : World) (yb : Nat) (lv : Value) (s : LS) (ts : List Tok) (i : Nat) (t n : Tok) (h : LR X w yb lv s) (hl : LL X w lv ts) (hi : ts[i]? = some t) (hk : t.kind = 2) (hn : ts.length ≤ 1000000) (hi1 : ts[i + 1]? = some n)
    (hp : t.pos ≤ n.pos) (hp2 : n.pos ≤ 1000000) (hp3 : t.text.size ≤ 1000000) :
    Calls Tryd.prog 62 #[.pointer (some ⟨yb, 0, none⟩), .int .i64 i] w fun e w' => e = .returned (.bool (contT ts i t)) ∧ Below w.heap.size w w' := by
  have hlt : i + 1 < ts.length := (List.getElem?_eq_some_iff.1 hi1).1
  obtain ⟨g, cap, hlv, hg, k0, k1, k2, k3, k4⟩ := hl.tok hi
  obtain ⟨g', cap', hlv', hg', m0, m1, m2, m3, m4⟩ := hl.tok hi1
  rw [hlv] at hlv'
  simp only [Value.slice.injEq, Option.some.injEq, Addr.mk.injEq, true_and, and_true] at hlv'
  obtain ⟨rfl, rfl⟩ := hlv'
  subst hlv
  obtain ⟨vo, vr, h1, h2, h3, h4⟩ := h
  have c0 := h1.cell 0
  simp at c0
  have hx : contT ts i t = apartT t n := by
    unfold contT
    rw [if_pos hk, hi1]
  have ca := fun W => apart_any t n W hp hp2 hp3
  rw [hx]
  obtain ⟨tk, tx, ta, tl, tc⟩ := t
  obtain ⟨nk, nx, na, nl, nc⟩ := n
  simp only [Tok.cs] at hk k0 k1 k2 k3 k4 m0 m1 m2 m3 m4 ca ⊢
  have CA := Lib.hid ca
  generalize apartT ⟨tk, tx, ta, tl, tc⟩ ⟨nk, nx, na, nl, nc⟩ = b at *
  have q2 : (0 : Int) ≤ (i : Int) := by omega
  have q3 : (i : Int) < (ts.length : Int) := by omega
  have q4 : IntKind.i64.wrap ((i : Int) + 1) = (i : Int) + 1 := by rw [IntKind.wrap_i64]; omega
  have q5 : (0 : Int) ≤ (i : Int) + 1 := by omega
  have q6 : (i : Int) + 1 < (ts.length : Int) := by omega
  have q7 : ((i : Int) + 1).toNat = i + 1 := by omega
  have hL' : (((i : Int) + 1) == (ts.length : Int)) = false := by simp; omega
  subst hk
  clear h1 h2 h3 h4 hl hi hi1 hx hlt ca hp hp2 hp3
  generalize ts.length = len at *
  have c0' := cell_alloc1 c0
  have n0 := World.new_ne w _ c0
  have n1 := World.new_ne w _ m0
  have m0' := cell_alloc3 m0
  have m1' := cell_alloc3 m1
  have m2' := cell_alloc3 m2
  have m3' := cell_alloc3 m3
  have m4' := cell_alloc3 m4
  have c0'' := cell_alloc3 c0
  go_enter Tryd.func62, Tryd.ntmps62
  go_wp2
  go_region_held3 (fun w' => w'.cell? ⟨yb, 0, none⟩ = some (.slice (some ⟨g, 0, none⟩) len cap) ∧ w'.cell? ⟨w.heap.size, 0, none⟩ = some (.int .i64 2) ∧ w'.cell? ⟨w.heap.size, 1, none⟩ = some (.string tx) ∧ w'.cell? ⟨w.heap.size, 2, none⟩ = some (.int .i64 ta) ∧ w'.cell? ⟨w.heap.size, 3, none⟩ = some (.int .i64 tl) ∧ w'.cell? ⟨w.heap.size, 4, none⟩ = some (.int .i64 tc) ∧
      w'.cell? ⟨g, (i + 1) * 5, none⟩ = some (.int .i64 nk) ∧ w'.cell? ⟨g, (i + 1) * 5 + 1, none⟩ = some (.string nx) ∧ w'.cell? ⟨g, (i + 1) * 5 + 2, none⟩ = some (.int .i64 na) ∧ w'.cell? ⟨g, (i + 1) * 5 + 3, none⟩ = some (.int .i64 nl) ∧ w'.cell? ⟨g, (i + 1) * 5 + 4, none⟩ = some (.int .i64 nc))
    (go_keep) (first | (go_at_call 71; refine (CA.out _).mono ?_; rintro e w2 ⟨rfl, rfl⟩))
  go_wp2
  go_ret
  trace_state
  exact ⟨rfl, ((((Below.refl _ _).alloc (Nat.le_refl _) _).drew.alloc (by simp) _).alloc (by simp; omega) _)⟩
end Go.Proofs.YtpgcklpcohcchaaDoor
