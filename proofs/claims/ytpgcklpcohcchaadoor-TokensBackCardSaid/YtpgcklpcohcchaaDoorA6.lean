/- The innermost region of the layout. -/
import Derived.Test.YtpgcklpcohcchaaDoorA4
namespace Go.Proofs.YtpgcklpcohcchaaDoor
open Go Go.RowKit

theorem rcs_length (l : List Reg) : (rcs l).length = l.length * 3 := by
  induction l with
  | nil => rfl
  | cons r l ih => rw [rcs_cons, List.length_append, ih]; simp [Reg.cs]; omega

/-- The cells of the innermost region. -/
theorem inner_cells {w : World} {vr : Value} {r : Reg} {rs : List Reg} (h3 : w.ownsRow 0 75 3 vr (rs.length + 1) (rcs (r :: rs))) :
    ∃ g cap, vr = .slice (some ⟨g, 0, none⟩) (rs.length + 1) cap ∧ w.cell? ⟨g, rs.length * 3, none⟩ = some (.string r.mark) ∧ w.cell? ⟨g, rs.length * 3 + 1, none⟩ = some (.int .i64 r.width) ∧ w.cell? ⟨g, rs.length * 3 + 2, none⟩ = some (.int .i64 r.index) := by
  obtain ⟨g, cap, rfl, _, _⟩ := h3.form (by omega)
  have hl := rcs_length rs
  refine ⟨g, cap, rfl, ?_, ?_, ?_⟩
  · rw [h3.cellAt _ (by omega), rcs_cons, List.getElem?_append_right (by omega)]; simp [hl, Reg.cs]
  · rw [h3.cellAt _ (by omega), rcs_cons, List.getElem?_append_right (by omega)]; simp [hl, Reg.cs]
  · rw [h3.cellAt _ (by omega), rcs_cons, List.getElem?_append_right (by omega)]; simp [hl, Reg.cs]

set_option maxRecDepth 100000 in
set_option maxHeartbeats 3200000 in
theorem inner_any (X : Nat → Prop) (w : World) (yb : Nat) (lv : Value) (s : LS) (r : Reg) (rs : List Reg) (h : LR X w yb lv s) (hr : s.regs = r :: rs) (hn : rs.length < 4000000) :
    Calls Tryd.prog 58 #[.pointer (some ⟨yb, 0, none⟩)] w fun e w' => e = .returned (.agg r.cs.toArray) ∧ (w.alloc (.cells r.cs.toArray 75)).drew = w' := by
  obtain ⟨vo, vr, h1, h2, h3, h4⟩ := h
  rw [hr] at h3
  obtain ⟨g, cap, rfl, k0, k1, k2⟩ := inner_cells h3
  have c2 : w.cell? ⟨yb, 2, none⟩ = some (.slice (some ⟨g, 0, none⟩) (rs.length + 1) cap) := h1.cell 2
  have ly := h1.lt
  have lg := World.block_lt_of_cell? w _ k0
  clear h1 h2 h3 hr
  obtain ⟨rm, rw_, ri⟩ := r
  unfold Reg.cs
  generalize rs.length = n at *
  have q1 : IntKind.i64.wrap (n : Int) = (n : Int) := by rw [IntKind.wrap_i64]; omega
  have q4 : IntKind.i64.wrap ((n : Int) + 1 - 1) = (n : Int) := by rw [IntKind.wrap_i64]; omega
  have n1 := World.new_ne w _ c2
  have n2 := World.new_ne w _ k0
  have q2 : (0 : Int) ≤ (n : Int) := by omega
  have q3 : (n : Int) < (n : Int) + 1 := by omega
  go_enter Tryd.func58, Tryd.ntmps58
  go_wp2_with fail
  go_region_held3 (fun w' => w'.cell? ⟨yb, 2, none⟩ = some (.slice (some ⟨g, 0, none⟩) (n + 1) cap) ∧ w'.cell? ⟨g, n * 3, none⟩ = some (.string rm) ∧ w'.cell? ⟨g, n * 3 + 1, none⟩ = some (.int .i64 rw_) ∧ w'.cell? ⟨g, n * 3 + 2, none⟩ = some (.int .i64 ri))
    (go_keep) (fail)
  go_wp2
  refine bodyPost_ret (v := .agg #[.string rm, .int .i64 rw_, .int .i64 ri]) (by simp [results, Tryd.results58, go_sem]) rfl ⟨rfl, rfl⟩

theorem fld0 (a : ByteArray) (b c : Int) (w : World) : (Instr.field 75 (.agg #[.string a, .int .i64 b, .int .i64 c]) 0).run Tryd.prog w = .ok (.string a) w := by kernel_rfl
theorem fld1 (a : ByteArray) (b c : Int) (w : World) : (Instr.field 75 (.agg #[.string a, .int .i64 b, .int .i64 c]) 1).run Tryd.prog w = .ok (.int .i64 b) w := by kernel_rfl
theorem fld2 (a : ByteArray) (b c : Int) (w : World) : (Instr.field 75 (.agg #[.string a, .int .i64 b, .int .i64 c]) 2).run Tryd.prog w = .ok (.int .i64 c) w := by kernel_rfl

/-- Is the innermost region an indentation other than the first region? -/
def indB : List Reg → Bool
  | r :: _ :: _ => r.mark.toList.isEmpty
  | _ => false

set_option maxRecDepth 100000 in
set_option maxHeartbeats 3200000 in
theorem indented_any (X : Nat → Prop) (w : World) (yb : Nat) (lv : Value) (s : LS) (h : LR X w yb lv s) (hn : s.regs.length < 4000000) :
    Calls Tryd.prog 65 #[.pointer (some ⟨yb, 0, none⟩)] w fun e w' => e = .returned (.bool (indB s.regs)) ∧ Below w.heap.size w w' := by
  have H := Lib.hid h
  obtain ⟨vo, vr, h1, h2, h3, h4⟩ := h
  have c2 : w.cell? ⟨yb, 2, none⟩ = some vr := h1.cell 2
  match e : s.regs, h3 with
  | [], h3 =>
    obtain ⟨vn, cn, rfl⟩ : ∃ a c, vr = .slice a 0 c := by
      rcases h3.2 with ⟨hv, _⟩ | ⟨g, cap, _, hv, _⟩
      · exact ⟨none, 0, hv⟩
      · exact ⟨_, cap, hv⟩
    clear h1 h2 h3 e H
    go_enter Tryd.func65, Tryd.ntmps65
    go_wp2
    go_ret
    exact ⟨rfl, Below.refl _ _⟩
  | [r], h3 =>
    obtain ⟨g, cap, rfl, _, _⟩ := h3.form (by simp)
    clear h1 h2 h3 e H
    go_enter Tryd.func65, Tryd.ntmps65
    go_wp2
    go_ret
    exact ⟨rfl, Below.refl _ _⟩
  | r :: r2 :: rs, h3 =>
    obtain ⟨g, cap, rfl, _, _⟩ := h3.form (by simp)
    have c := inner_any X w yb lv s r (r2 :: rs) H.out e (by rw [e] at hn; simp at hn ⊢; omega)
    obtain ⟨rm, rw_, ri⟩ := r
    simp only [Reg.cs] at c
    have C := Lib.hid c
    clear c h1 h2 h3 e H hn
    simp only [List.length_cons] at c2
    generalize rs.length = n at *
    have q : (1 : Int) < (n : Int) + 1 + 1 := by omega
    have hf := fld0 rm rw_ ri
    go_enter Tryd.func65, Tryd.ntmps65
    go_wp2_with (go_at_call 58; refine C.out.mono ?_; rintro e w' ⟨rfl, rfl⟩)
    go_ret
    exact ⟨rfl, ((Below.refl _ _).alloc (Nat.le_refl _) _).drew⟩
end Go.Proofs.YtpgcklpcohcchaaDoor
