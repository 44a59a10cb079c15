/- Layout. -/
import Derived.Test.YtpgcklpcohcchaaDoorA20
import Derived.Test.YtpgcklpcohcchaaDoorA21
namespace Go.Proofs.YtpgcklpcohcchaaDoor
open Go Go.RowKit

set_option maxRecDepth 100000 in
set_option maxHeartbeats 800000 in
theorem door_panic {R : Ending → World → Prop} {t : Array Value} {p q : Nat} {v0 x y : Value} {a c : Int} {W : World} (h2 : t.getD 2 undef = .pointer (some ⟨p, 0, none⟩)) (h3 : t.getD 3 undef = .pointer (some ⟨q, 0, none⟩))
    (hp : Bl W p 23 [v0]) (hq : Bl W q 26 [x, y]) (hne : p ≠ q)
    (hR : ∀ w', (∀ X : Nat → Prop, (∀ b, X b → b < W.heap.size ∧ b ≠ p ∧ b ≠ q) → KX X W w') → R (.returned (.tuple #[.slice none 0 0, .agg #[.int .i64 a, .int .i64 c]])) w') :
    bodyPostD Tryd.prog Tryd.f21 R (.panic (fv a c)) { tmps := t, defers := [{ target := Target.fn (.func 37) #[.pointer (some ⟨p, 0, none⟩), .pointer (some ⟨q, 0, none⟩)], args := #[] }] } W := by
  refine leaves_cons (f := 37) (args := #[.pointer (some ⟨p, 0, none⟩), .pointer (some ⟨q, 0, none⟩)]) (by simp) (by simp [go_sem]) ?_
  refine (catch_panic p q v0 x y a c W hp hq hne).mono ?_
  rintro e u' w' ⟨rfl, rfl, h4, h5, h6⟩
  have c0 : w'.cell? ⟨p, 0, none⟩ = some (.slice none 0 0) := h4.cell 0
  have c1 : w'.cell? ⟨q, 0, none⟩ = some (.int .i64 a) := h5.cell 0
  have c2 : w'.cell? ⟨q, 1, none⟩ = some (.int .i64 c) := h5.cell 1
  have hr := hR w' h6
  have HR := Lib.hid hr
  clear hR hr h6 h4 h5 hp hq
  have h2' : (t[2]?).getD undef = .pointer (some ⟨p, 0, none⟩) := by simpa using h2
  have h3' : (t[3]?).getD undef = .pointer (some ⟨q, 0, none⟩) := by simpa using h3
  simp [Leaves, settle, results, Tryd.results21, go_sem, h2', h3', c0, c1, c2]
  exact HR.out

set_option maxRecDepth 100000 in
set_option maxHeartbeats 12800000 in
theorem layout_chk (X : Nat → Prop) (w : World) (lv : Value) (ts : List Tok) (hl : LL X w lv ts) (hX : ∀ b, X b → b < w.heap.size) (hn : ts.length ≤ 1000000) (f : Nat × Nat) (hc : chkF ts = some f) :
    Calls Tryd.prog 21 #[lv] w fun e w' => e = .returned (.tuple #[.slice none 0 0, .agg #[.int .i64 f.1, .int .i64 f.2]]) ∧ KX X w w' := by
  have hb0 := ((Below.refl w.heap.size w).alloc (Nat.le_refl _) (.cells #[.slice none 0 0] 23)).alloc (by simp) (.cells #[.int .i64 0, .int .i64 0] 26)
  have ck := check_any X _ lv ts (hl.below hb0) hn
  rw [hc] at ck
  replace ck : Calls Tryd.prog 38 #[lv] ((w.alloc (.cells #[.slice none 0 0] 23)).alloc (.cells #[.int .i64 0, .int .i64 0] 26)) (fun e w' => e = .panicked (fv f.1 f.2) ∧ Below ((w.alloc (.cells #[.slice none 0 0] 23)).alloc (.cells #[.int .i64 0, .int .i64 0] 26)).heap.size ((w.alloc (.cells #[.slice none 0 0] 23)).alloc (.cells #[.int .i64 0, .int .i64 0] 26)) w') := ck
  have CK := Lib.hid ck
  have hmf : ∀ (fn : Fn) (first cap : Array Value) (w : World), (Instr.makeFunc fn first cap).run Tryd.prog w = .ok (.func fn first cap) w := fun _ _ _ _ => rfl
  clear hl hn hc ck hb0
  go_enter_defers Tryd.func21, Tryd.ntmps21
  go_wp2_with (go_at_call 38; refine CK.out.mono ?_; rintro e w2 ⟨rfl, hB⟩)
  have hp : Bl w2 w.heap.size 23 [.slice none 0 0] := ((Bl.new w 23 [.slice none 0 0]).alloc _).below hB (by simp; omega)
  have hq : Bl w2 (w.heap.size + 1) 26 [.int .i64 0, .int .i64 0] := by
    have := Bl.new (w.alloc (.cells #[.slice none 0 0] 23)) 26 [.int .i64 0, .int .i64 0]
    exact Bl.below (by simpa using this) hB (by simp)
  refine door_panic (by rfl) (by rfl) hp hq (by omega) (fun w' h => ⟨rfl, ?_⟩)
  have hb0 := ((Below.refl w.heap.size w).alloc (Nat.le_refl _) (.cells #[.slice none 0 0] 23)).alloc (by simp) (.cells #[.int .i64 0, .int .i64 0] 26)
  have hs := hb0.size
  have hs2 := hB.size
  exact ((KX.below hb0 hX).trans (KX.below hB (fun k hk => by have := hX k hk; omega))).trans (h X (fun b hb => ⟨by have := hX b hb; omega, by have := hX b hb; omega, by have := hX b hb; omega⟩))

set_option maxRecDepth 100000 in
set_option maxHeartbeats 800000 in
theorem door_ret {R : Ending → World → Prop} {t : Array Value} {p q : Nat} {v : Value} {W : World} (h2 : t.getD 2 undef = .pointer (some ⟨p, 0, none⟩)) (h3 : t.getD 3 undef = .pointer (some ⟨q, 0, none⟩))
    (hp : Bl W p 23 [v]) (hq : Bl W q 26 [.int .i64 0, .int .i64 0])
    (hR : ∀ w', Below W.heap.size W w' → R (.returned (.tuple #[v, .agg #[.int .i64 0, .int .i64 0]])) w') :
    bodyPostD Tryd.prog Tryd.f21 R .ret { tmps := t, defers := [{ target := Target.fn (.func 37) #[.pointer (some ⟨p, 0, none⟩), .pointer (some ⟨q, 0, none⟩)], args := #[] }] } W := by
  have p0 : W.cell? ⟨p, 0, none⟩ = some v := hp.cell 0
  have q0 : W.cell? ⟨q, 0, none⟩ = some (.int .i64 0) := hq.cell 0
  have q1 : W.cell? ⟨q, 1, none⟩ = some (.int .i64 0) := hq.cell 1
  have h2' : (t[2]?).getD undef = .pointer (some ⟨p, 0, none⟩) := by simpa using h2
  have h3' : (t[3]?).getD undef = .pointer (some ⟨q, 0, none⟩) := by simpa using h3
  refine leaves_cons (f := 37) (args := #[.pointer (some ⟨p, 0, none⟩), .pointer (some ⟨q, 0, none⟩)]) (by simp) (by simp [go_sem]) ?_
  refine (catch_idle ⟨p, 0, none⟩ ⟨q, 0, none⟩ W).mono ?_
  rintro e u' w' ⟨rfl, rfl, h6⟩
  have c0 : w'.cell? ⟨p, 0, none⟩ = some v := (h6.cell hp.lt).trans p0
  have c1 : w'.cell? ⟨q, 0, none⟩ = some (.int .i64 0) := (h6.cell hq.lt).trans q0
  have c2 : w'.cell? ⟨q, 1, none⟩ = some (.int .i64 0) := (h6.cell hq.lt).trans q1
  have hr := hR w' h6
  have HR := Lib.hid hr
  clear hR hr h6 hp hq p0 q0 q1
  simp [Leaves, settle, results, Tryd.results21, go_sem, h2', h3', c0, c1, c2]
  exact HR.out

/-- What a token does, whatever it is. -/
theorem token_any (X : Nat → Prop) (w : World) (yb : Nat) (lv : Value) (s : LS) (ts : List Tok) (i : Nat) (t : Tok) (n : Nat) (h : LR X w yb lv s) (hl : LL X w lv ts) (hi : ts[i]? = some t) (hn' : ts.length ≤ 1000000) (hv : Inv s n) (hn : n < 3999000) :
    Calls Tryd.prog 41 #[.pointer (some ⟨yb, 0, none⟩), .int .i64 i] w (Res X w yb lv (tokF i t s)) := by
  have hs := hv.sum
  by_cases hk : t.kind = 3
  · cases ho : opB t.text.toList with
    | true =>
      by_cases h64 : s.regs.length = 64
      · exact token_open_fail X w yb lv s ts i t h hl hi hn' (by omega) hk ho h64
      · exact token_open X w yb lv s ts i t h hl hi hn' (by omega) hk ho (by have := hv.few; omega)
    | false =>
      cases hc : clB t.text.toList with
      | true =>
        cases hf : closeF i t s with
        | error f => exact token_close_fail X w yb lv s ts i t h hl hi hn' (by omega) hv.bot.ne hk ⟨ho, hc⟩ f hf
        | ok s' => exact token_close X w yb lv s ts i t h hl hi hn' (by omega) hv.bot.ne hk ⟨ho, hc⟩ s' hf (by have := (closeF_inv hv hc hf).sum; omega)
      | false => exact token_plain X w yb lv s ts i t h hl hi hn' (by omega) (by unfold tokF1; rw [if_pos hk, ho, hc]; rfl) (fun _ => ⟨ho, hc⟩)
  · exact token_plain X w yb lv s ts i t h hl hi hn' (by omega) (by unfold tokF1; rw [if_neg hk]) (fun h => absurd h hk)

theorem LR.first {X : Nat → Prop} {w : World} {yb : Nat} {lv : Value} {s : LS} (h : LR X w yb lv s) (c : Nat) :
    LR X (w.setCell ⟨yb, 3, none⟩ (.int .i64 c)) yb lv { s with first := c } ∧ KX X w (w.setCell ⟨yb, 3, none⟩ (.int .i64 c)) := by
  obtain ⟨vo, vr, h1, h2, h3, h4⟩ := h
  have og : Og yb w (w.setCell ⟨yb, 3, none⟩ (.int .i64 c)) := (Og.refl yb w).set 3 _
  refine ⟨⟨vo, vr, h1.set 3 _, og.row h2 (Bl.row_apart h2 h1 (by decide)), og.row h3 (Bl.row_apart h3 h1 (by decide)), fun b hb => ?_⟩, ?_⟩
  · obtain ⟨k1, k2, k3, k4⟩ := h4 b hb
    exact ⟨Nat.lt_of_lt_of_le k1 og.size, k2, k3, k4⟩
  · exact (KX.refl X w).set (fun hb => (h4 _ hb).2.1 rfl) _
end Go.Proofs.YtpgcklpcohcchaaDoor
