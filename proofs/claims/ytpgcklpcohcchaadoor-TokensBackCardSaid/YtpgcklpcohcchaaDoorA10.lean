/- The list of tokens that the layout reads, and whether a token goes on with a statement. -/
import Derived.Test.YtpgcklpcohcchaaDoorA9
namespace Go.Proofs.YtpgcklpcohcchaaDoor
open Go Go.RowKit

/-- The slice value lv holds these tokens, in a block of X. -/
def LL (X : Nat → Prop) (w : World) (lv : Value) (ts : List Tok) : Prop := w.ownsRow 0 32 5 lv ts.length (tcs ts) ∧ ∀ b, lv.ownBlock = some b → X b

theorem LL.kx {X : Nat → Prop} {w w' : World} {lv : Value} {ts : List Tok} (h : LL X w lv ts) (hk : KX X w w') : LL X w' lv ts := by
  obtain ⟨⟨h1, h2⟩, hx⟩ := h
  refine ⟨⟨h1, ?_⟩, hx⟩
  rcases h2 with h2 | ⟨g, cap, cur, rfl, hb, hh, hr⟩
  · exact .inl h2
  · exact .inr ⟨g, cap, cur, rfl, hb, (hk.block g (hx g rfl)).trans hh, hr⟩
theorem LL.below {X : Nat → Prop} {w w' : World} {lv : Value} {ts : List Tok} (h : LL X w lv ts) (hb : Below w.heap.size w w') : LL X w' lv ts := ⟨row_keep h.1 hb, h.2⟩
theorem LL.mono {X Y : Nat → Prop} {w : World} {lv : Value} {ts : List Tok} (h : LL X w lv ts) (hs : ∀ k, X k → Y k) : LL Y w lv ts := ⟨h.1, fun b hb => hs b (h.2 b hb)⟩

theorem tcs_length (l : List Tok) : (tcs l).length = l.length * 5 := by
  induction l with
  | nil => rfl
  | cons t l ih => simp [tcs, Tok.cs] at ih ⊢; omega
theorem tcs_get (l : List Tok) (i j : Nat) (t : Tok) (hi : l[i]? = some t) (hj : j < 5) : (tcs l)[i * 5 + j]? = t.cs[j]? := by
  induction l generalizing i with
  | nil => simp at hi
  | cons x l ih =>
    have hx : tcs (x :: l) = x.cs ++ tcs l := rfl
    have hl : x.cs.length = 5 := rfl
    cases i with
    | zero =>
      obtain rfl : x = t := by simpa using hi
      rw [hx, List.getElem?_append_left (by omega)]; simp
    | succ i =>
      rw [hx, List.getElem?_append_right (by omega), hl, show (i + 1) * 5 + j - 5 = i * 5 + j by omega]
      exact ih i (by simpa using hi)

/-- The cells of the token number i. -/
theorem LL.tok {X : Nat → Prop} {w : World} {lv : Value} {ts : List Tok} (h : LL X w lv ts) {i : Nat} {t : Tok} (hi : ts[i]? = some t) :
    ∃ g cap, lv = .slice (some ⟨g, 0, none⟩) ts.length cap ∧ g < w.heap.size ∧ w.cell? ⟨g, i * 5, none⟩ = some (.int .i64 t.kind) ∧ w.cell? ⟨g, i * 5 + 1, none⟩ = some (.string t.text) ∧ w.cell? ⟨g, i * 5 + 2, none⟩ = some (.int .i64 t.pos) ∧
      w.cell? ⟨g, i * 5 + 3, none⟩ = some (.int .i64 t.line) ∧ w.cell? ⟨g, i * 5 + 4, none⟩ = some (.int .i64 t.col) := by
  have hlt : i < ts.length := (List.getElem?_eq_some_iff.1 hi).1
  obtain ⟨g, cap, rfl, _, hg⟩ := h.1.form (by omega)
  refine ⟨g, cap, rfl, hg, ?_, ?_, ?_, ?_, ?_⟩
  · rw [h.1.cellAt _ (by omega)]; exact tcs_get ts i 0 t hi (by omega)
  · rw [h.1.cellAt _ (by omega), tcs_get ts i 1 t hi (by omega)]; rfl
  · rw [h.1.cellAt _ (by omega), tcs_get ts i 2 t hi (by omega)]; rfl
  · rw [h.1.cellAt _ (by omega), tcs_get ts i 3 t hi (by omega)]; rfl
  · rw [h.1.cellAt _ (by omega), tcs_get ts i 4 t hi (by omega)]; rfl

/-- Does something stand between two tokens? -/
def apartT (t n : Tok) : Bool := decide (t.pos + t.text.size < n.pos)

set_option maxRecDepth 100000 in
set_option maxHeartbeats 3200000 in
theorem apart_any (t n : Tok) (w : World) (h1 : t.pos ≤ n.pos) (h2 : n.pos ≤ 1000000) (h3 : t.text.size ≤ 1000000) :
    Calls Tryd.prog 71 #[.agg t.cs.toArray, .agg n.cs.toArray] w fun e w' => e = .returned (.bool (apartT t n)) ∧ (w.alloc (.cells t.cs.toArray 32)).alloc (.cells n.cs.toArray 32) = w' := by
  obtain ⟨tk, ts, ta, tl, tc⟩ := t
  obtain ⟨nk, ns, na, nl, nc⟩ := n
  unfold Tok.cs apartT
  simp only at h1 h2 h3 ⊢
  by_cases hd : ta + ts.size < na
  · have hd' : decide (ta + ts.size < na) = true := by simpa using hd
    rw [hd']
    have q : ((ts.size : Nat) : Int) < (na : Int) - (ta : Int) := by omega
    clear hd'
    go_enter Tryd.func71, Tryd.ntmps71
    go_wp2
    go_ret
    exact ⟨rfl, rfl⟩
  · have hd' : decide (ta + ts.size < na) = false := by simpa using hd
    rw [hd']
    have q : ¬ ((ts.size : Nat) : Int) < (na : Int) - (ta : Int) := by omega
    clear hd'
    go_enter Tryd.func71, Tryd.ntmps71
    go_wp2
    go_ret
    exact ⟨rfl, rfl⟩

/-- Does the token number i go on with the statement in front of it? -/
def contT (ts : List Tok) (i : Nat) (t : Tok) : Bool :=
  if t.kind = 2 then (match ts[i + 1]? with | some n => apartT t n | none => true)
  else (t.kind == 3 && coM t.text.toList) || (t.kind == 1 && coK t.text.toList)

set_option maxRecDepth 100000 in
set_option maxHeartbeats 6400000 in
theorem cont_plain (X : Nat → Prop) (w : World) (yb : Nat) (lv : Value) (s : LS) (ts : List Tok) (i : Nat) (t : Tok) (h : LR X w yb lv s) (hl : LL X w lv ts) (hi : ts[i]? = some t) (hk : t.kind ≠ 2) (hn : ts.length ≤ 1000000) :
    Calls Tryd.prog 62 #[.pointer (some ⟨yb, 0, none⟩), .int .i64 i] w fun e w' => e = .returned (.bool (contT ts i t)) ∧ Below w.heap.size w w' := by
  have hlt : i < ts.length := (List.getElem?_eq_some_iff.1 hi).1
  obtain ⟨g, cap, rfl, hg, k0, k1, k2, k3, k4⟩ := hl.tok hi
  obtain ⟨vo, vr, h1, h2, h3, h4⟩ := h
  have c0 := h1.cell 0
  simp at c0
  unfold contT
  rw [if_neg hk]
  obtain ⟨tk, tx, ta, tl, tc⟩ := t
  simp only at hk k0 k1 k2 k3 k4 ⊢
  have q2 : (0 : Int) ≤ (i : Int) := by omega
  have q3 : (i : Int) < (ts.length : Int) := by omega
  have hk2 : ((tk : Int) == 2) = false := by simp; omega
  clear h1 h2 h3 h4 hl hi hk
  generalize ts.length = n at *
  go_enter Tryd.func62, Tryd.ntmps62
  go_wp2
  all_goals
    go_ret
    exact ⟨ret_bool (by simp_all [coM, coK, ik1, ik3]), (Below.refl _ _).alloc (Nat.le_refl _) _⟩
end Go.Proofs.YtpgcklpcohcchaaDoor
