/- The faults of a list of tokens, ahead of its layout. -/
import Derived.Test.YtpgcklpcohcchaaDoorA18
import Derived.Test.YtpgcklpcohcchaaDoorC
import Derived.Deep.LoopGhost
namespace Go.Proofs.YtpgcklpcohcchaaDoor
open Go Go.RowKit

/-- The fault of the token number i. -/
def chkAt (ts : List Tok) (i : Nat) : Option (Nat × Nat) :=
  match ts[i]? with
  | none => none
  | some t => if 10 < t.kind then some (i, 16) else
    match i with
    | 0 => none
    | j + 1 => match ts[j]? with
      | none => none
      | some u => if folT u t then none else some (i, 23)
def chkL (ts : List Tok) : Nat → Nat → Option (Nat × Nat)
  | 0, _ => none
  | f + 1, i => match chkAt ts i with
    | some e => some e
    | none => chkL ts f (i + 1)
/-- The first fault of a list of tokens. -/
def chkF (ts : List Tok) : Option (Nat × Nat) :=
  match chkL ts ts.length 0 with
  | some e => some e
  | none => if 20000 < ts.length then some (0, 18) else none

def ChkRes (w : World) (x : Option (Nat × Nat)) (e : Ending) (w' : World) : Prop :=
  match x with
  | some f => e = .panicked (fv f.1 f.2) ∧ Below w.heap.size w w'
  | none => e = .returned (.tuple #[]) ∧ Below w.heap.size w w'

theorem row_len' {w : World} {base : Nat} {e : TypeId} {n k : Nat} {v : Value} {xs : List Value} (h : w.ownsRow base e k v n xs) : ∃ a c, v = .slice a n c := by
  rcases h.2 with ⟨rfl, rfl⟩ | ⟨g, cap, cur, rfl, _⟩
  · exact ⟨_, _, rfl⟩
  · exact ⟨_, _, rfl⟩
theorem LL.tok' {X : Nat → Prop} {w : World} {lv : Value} {ts : List Tok} {n : Nat} (h : LL X w lv ts) (hn : ts.length = n) {i : Nat} {t : Tok} (hi : ts[i]? = some t) :
    ∃ g cap, lv = .slice (some ⟨g, 0, none⟩) n cap ∧ g < w.heap.size ∧ w.cell? ⟨g, i * 5, none⟩ = some (.int .i64 t.kind) ∧ w.cell? ⟨g, i * 5 + 1, none⟩ = some (.string t.text) ∧ w.cell? ⟨g, i * 5 + 2, none⟩ = some (.int .i64 t.pos) ∧
      w.cell? ⟨g, i * 5 + 3, none⟩ = some (.int .i64 t.line) ∧ w.cell? ⟨g, i * 5 + 4, none⟩ = some (.int .i64 t.col) := by
  subst hn
  exact h.tok hi

set_option maxRecDepth 100000 in
set_option maxHeartbeats 12800000 in
theorem check_any (X : Nat → Prop) (w : World) (lv : Value) (ts : List Tok) (hl : LL X w lv ts) (hn : ts.length ≤ 1000000) :
    Calls Tryd.prog 38 #[lv] w (ChkRes w (chkF ts)) := by
  obtain ⟨va, vc, hlv⟩ := row_len' hl.1
  subst hlv
  have HLL := Lib.hid hl
  clear hl
  generalize hlen : ts.length = n at *
  have HLEN := Lib.hid hlen
  clear hlen
  go_enter Tryd.func38, Tryd.ntmps38
  go_wp2
  go_loopg [6] n (fun gh s6 wr => ∃ k : Nat, k + gh = n ∧ s6 = .int .i64 k ∧ Below w.heap.size w wr ∧ chkL ts gh k = chkL ts n 0)
  case atStart => exact ⟨0, by omega, rfl, Below.refl _ _, rfl⟩
  case round =>
    obtain ⟨k, hk, rfl, hB, hC⟩ := hrel
    have HB := Lib.hid hB
    have HC := Lib.hid hC
    have HLW := Lib.hid (HLL.out.below hB)
    clear hB hC
    by_cases hlt : k < n
    · have hkn : k < ts.length := by have := HLEN.out; omega
      obtain ⟨t, ht⟩ : ∃ t, ts[k]? = some t := ⟨ts[k], List.getElem?_eq_getElem hkn⟩
      have HT := Lib.hid ht
      obtain ⟨g, cap, hlv, hg, k0, k1, k2, k3, k4⟩ := HLW.out.tok' HLEN.out ht
      simp only [Value.slice.injEq, true_and] at hlv
      obtain ⟨rfl, rfl⟩ := hlv
      obtain ⟨tk, tx, ta, tl, tc⟩ := t
      simp only at k0 k1 k2 k3 k4
      obtain ⟨gh', rfl⟩ : ∃ gh', gk = gh' + 1 := ⟨gk - 1, by omega⟩
      have hq2 : (0 : Int) ≤ (k : Int) := by omega
      have hq3 : (k : Int) < (n : Int) := by omega
      have HK := Lib.hid hk
      by_cases hkd : 10 < tk
      · have hv : chkF ts = some (k, 16) := by
          have : chkL ts (gh' + 1) k = some (k, 16) := by
            unfold chkL chkAt; rw [HT.out]; simp [hkd]
          unfold chkF; rw [HLEN.out, ← HC.out, this]
        have HV := Lib.hid hv
        have hq : (10 : Int) < (tk : Int) := by omega
        clear hv ht hkn hlt hkd hk
        go_wp2_with (go_at_call 14; refine (fail_any _ _ _).mono ?_; rintro e w' ⟨rfl, rfl⟩)
        rw [HV.out]
        exact ⟨rfl, rfl, HB.out.trans (((Below.refl _ _).alloc (Nat.le_refl _) _).mono HB.out.size)⟩
      · have hq : ¬ (10 : Int) < (tk : Int) := by omega
        cases k with
        | zero =>
          have hv : chkL ts gh' 1 = chkL ts n 0 := by
            rw [← HC.out]
            conv => rhs; unfold chkL chkAt
            rw [HT.out]; simp [hkd]
          have HV := Lib.hid hv
          clear hv ht hkn hlt hkd hk
          go_wp2_with fail
          have hS : (fun _ : World => True) (wr.alloc (.cells #[.int .i64 tk, .string tx, .int .i64 ta, .int .i64 tl, .int .i64 tc] 32)).drew := trivial
          refine anyC_region (c := 99) (S := fun _ : World => True) (by kernel_rfl) ?_
          refine anyC_take0 (i := 0) (v := ?_) (some 21) (by rfl) rfl (by kernel_rfl) (by kernel_rfl) (by kernel_rfl) (fun _ _ _ h => h) (Or.inl ⟨by rfl, ?_⟩) (by decide) (Or.inr (by assumption)) ?_
          rotate_left
          · (intro w; go_simp; try with_reducible rfl)
          (try simp only [Act.put, List.setIfInBounds_toArray, List.set_cons_zero, List.set_cons_succ])
          refine anyC_take0 (i := 1) (v := ?_) (some 22) (by rfl) rfl (by kernel_rfl) (by kernel_rfl) (by kernel_rfl) (fun _ _ _ h => h) (Or.inl ⟨by rfl, ?_⟩) (by decide) (Or.inr (by assumption)) ?_
          rotate_left
          · (intro w; go_simp; try with_reducible rfl)
          (try simp only [Act.put, List.setIfInBounds_toArray, List.set_cons_zero, List.set_cons_succ])
          refine anyC_take0 (i := 2) (v := ?_) (some 23) (by rfl) rfl (by kernel_rfl) (by kernel_rfl) (by kernel_rfl) (fun _ _ _ h => h) (Or.inl ⟨by rfl, ?_⟩) (by decide) (Or.inr (by assumption)) ?_
          rotate_left
          · (intro w; go_simp; try with_reducible rfl)
          (try simp only [Act.put, List.setIfInBounds_toArray, List.set_cons_zero, List.set_cons_succ])
          refine anyC_take0 (i := 3) (v := undef) (some 24) (by rfl) rfl (by kernel_rfl) (by kernel_rfl) (by kernel_rfl) (fun _ _ _ h => h) (Or.inr ⟨by rfl, rfl⟩) (by decide) (Or.inr (by assumption)) ?_
          (try simp only [Act.put, List.setIfInBounds_toArray, List.set_cons_zero, List.set_cons_succ])
          refine anyC_take0 (i := 4) (v := undef) (some 25) (by rfl) rfl (by kernel_rfl) (by kernel_rfl) (by kernel_rfl) (fun _ _ _ h => h) (Or.inr ⟨by rfl, rfl⟩) (by decide) (Or.inr (by assumption)) ?_
          (try simp only [Act.put, List.setIfInBounds_toArray, List.set_cons_zero, List.set_cons_succ])
          refine anyC_take0 (i := 5) (v := undef) (some 26) (by rfl) rfl (by kernel_rfl) (by kernel_rfl) (by kernel_rfl) (fun _ _ _ h => h) (Or.inr ⟨by rfl, rfl⟩) (by decide) (Or.inr (by assumption)) ?_
          (try simp only [Act.put, List.setIfInBounds_toArray, List.set_cons_zero, List.set_cons_succ])
          refine anyC_take0 (i := 6) (v := undef) (some 27) (by rfl) rfl (by kernel_rfl) (by kernel_rfl) (by kernel_rfl) (fun _ _ _ h => h) (Or.inr ⟨by rfl, rfl⟩) (by decide) (Or.inr (by assumption)) ?_
          (try simp only [Act.put, List.setIfInBounds_toArray, List.set_cons_zero, List.set_cons_succ])
          refine anyC_take0 (i := 7) (v := undef) (some 28) (by rfl) rfl (by kernel_rfl) (by kernel_rfl) (by kernel_rfl) (fun _ _ _ h => h) (Or.inr ⟨by rfl, rfl⟩) (by decide) (Or.inr (by assumption)) ?_
          (try simp only [Act.put, List.setIfInBounds_toArray, List.set_cons_zero, List.set_cons_succ])
          refine anyC_take0 (i := 8) (v := undef) (some 29) (by rfl) rfl (by kernel_rfl) (by kernel_rfl) (by kernel_rfl) (fun _ _ _ h => h) (Or.inr ⟨by rfl, rfl⟩) (by decide) (Or.inr (by assumption)) ?_
          (try simp only [Act.put, List.setIfInBounds_toArray, List.set_cons_zero, List.set_cons_succ])
          refine anyC_take0 (i := 9) (v := undef) (some 30) (by rfl) rfl (by kernel_rfl) (by kernel_rfl) (by kernel_rfl) (fun _ _ _ h => h) (Or.inr ⟨by rfl, rfl⟩) (by decide) (Or.inr (by assumption)) ?_
          (try simp only [Act.put, List.setIfInBounds_toArray, List.set_cons_zero, List.set_cons_succ])
          refine anyC_take0 (i := 10) (v := undef) (some 31) (by rfl) rfl (by kernel_rfl) (by kernel_rfl) (by kernel_rfl) (fun _ _ _ h => h) (Or.inr ⟨by rfl, rfl⟩) (by decide) (Or.inr (by assumption)) ?_
          (try simp only [Act.put, List.setIfInBounds_toArray, List.set_cons_zero, List.set_cons_succ])
          refine anyC_take0 (i := 11) (v := ?_) (some 32) (by rfl) rfl (by kernel_rfl) (by kernel_rfl) (by kernel_rfl) (fun _ _ _ h => h) (Or.inl ⟨by rfl, ?_⟩) (by decide) (Or.inr (by assumption)) ?_
          rotate_left
          · (intro w; go_simp; try with_reducible rfl)
          (try simp only [Act.put, List.setIfInBounds_toArray, List.set_cons_zero, List.set_cons_succ])
          apply anyC_end
          rotate_left
          · kernel_rfl
          go_wp2_with fail
          go_roundg gh'
          case rel => exact ⟨1, by have := HK.out; omega, by go_num, HB.out.trans (((Below.refl _ _).alloc (Nat.le_refl _) _).drew.mono HB.out.size), HV.out⟩
          case measure => omega
        | succ j =>
          obtain ⟨u, hu⟩ : ∃ u, ts[j]? = some u := ⟨ts[j]'(by omega), List.getElem?_eq_getElem (by omega)⟩
          obtain ⟨g', cap', hlv', _, m0, m1, m2, m3, m4⟩ := HLW.out.tok' HLEN.out hu
          simp only [Value.slice.injEq, true_and, Option.some.injEq, Addr.mk.injEq, and_true] at hlv'
          obtain ⟨rfl, rfl⟩ := hlv'
          have cf := fun W => follows_any u ⟨tk, tx, ta, tl, tc⟩ W
          have hfv : chkL ts (gh' + 1) (j + 1) = if folT u ⟨tk, tx, ta, tl, tc⟩ then chkL ts gh' (j + 1 + 1) else some (j + 1, 23) := by
            conv => lhs; unfold chkL chkAt
            rw [HT.out]
            simp only [hkd, if_false, hu]
            cases folT u ⟨tk, tx, ta, tl, tc⟩ <;> simp
          have HFV := Lib.hid hfv
          obtain ⟨uk, ux, ua, ul, uc⟩ := u
          simp only [Tok.cs] at m0 m1 m2 m3 m4 cf
          have CF := Lib.hid cf
          have q4 : IntKind.i64.wrap ((j : Int) + 1 - 1) = (j : Int) := by rw [IntKind.wrap_i64]; omega
          have q4' : IntKind.i64.wrap (j : Int) = (j : Int) := by rw [IntKind.wrap_i64]; omega
          have q5 : (0 : Int) ≤ (j : Int) := by omega
          have q6 : (j : Int) < (n : Int) := by omega
          have q7 : (0 : Int) < (j : Int) + 1 := by omega
          have bn := Bl.new wr 32 [.int .i64 tk, .string tx, .int .i64 ta, .int .i64 tl, .int .i64 tc]
          have e0 := cell_alloc1 m0 (.cells #[.int .i64 tk, .string tx, .int .i64 ta, .int .i64 tl, .int .i64 tc] 32)
          have e1 := cell_alloc1 m1 (.cells #[.int .i64 tk, .string tx, .int .i64 ta, .int .i64 tl, .int .i64 tc] 32)
          have e2 := cell_alloc1 m2 (.cells #[.int .i64 tk, .string tx, .int .i64 ta, .int .i64 tl, .int .i64 tc] 32)
          have e3 := cell_alloc1 m3 (.cells #[.int .i64 tk, .string tx, .int .i64 ta, .int .i64 tl, .int .i64 tc] 32)
          have e4 := cell_alloc1 m4 (.cells #[.int .i64 tk, .string tx, .int .i64 ta, .int .i64 tl, .int .i64 tc] 32)
          have HBN := Lib.hid bn
          clear hfv cf hu ht hkn hlt hkd hk bn
          generalize hfo : folT ⟨uk, ux, ua, ul, uc⟩ ⟨tk, tx, ta, tl, tc⟩ = fo at *
          clear hfo
          go_wp2_with fail
          have hS : (fun w' : World => w'.cell? ⟨g, j * 5, none⟩ = some (.int .i64 uk) ∧ w'.cell? ⟨g, j * 5 + 1, none⟩ = some (.string ux) ∧ w'.cell? ⟨g, j * 5 + 2, none⟩ = some (.int .i64 ua) ∧ w'.cell? ⟨g, j * 5 + 3, none⟩ = some (.int .i64 ul) ∧ w'.cell? ⟨g, j * 5 + 4, none⟩ = some (.int .i64 uc) ∧ w'.cell? ⟨wr.heap.size, 0, none⟩ = some (.int .i64 tk) ∧ w'.cell? ⟨wr.heap.size, 1, none⟩ = some (.string tx) ∧ w'.cell? ⟨wr.heap.size, 2, none⟩ = some (.int .i64 ta) ∧ w'.cell? ⟨wr.heap.size, 3, none⟩ = some (.int .i64 tl) ∧ w'.cell? ⟨wr.heap.size, 4, none⟩ = some (.int .i64 tc)) (wr.alloc (.cells #[.int .i64 tk, .string tx, .int .i64 ta, .int .i64 tl, .int .i64 tc] 32)).drew := ⟨e0, e1, e2, e3, e4, HBN.out.cell 0, HBN.out.cell 1, HBN.out.cell 2, HBN.out.cell 3, HBN.out.cell 4⟩
          refine anyC_region (c := 9) (S := fun w' : World => w'.cell? ⟨g, j * 5, none⟩ = some (.int .i64 uk) ∧ w'.cell? ⟨g, j * 5 + 1, none⟩ = some (.string ux) ∧ w'.cell? ⟨g, j * 5 + 2, none⟩ = some (.int .i64 ua) ∧ w'.cell? ⟨g, j * 5 + 3, none⟩ = some (.int .i64 ul) ∧ w'.cell? ⟨g, j * 5 + 4, none⟩ = some (.int .i64 uc) ∧ w'.cell? ⟨wr.heap.size, 0, none⟩ = some (.int .i64 tk) ∧ w'.cell? ⟨wr.heap.size, 1, none⟩ = some (.string tx) ∧ w'.cell? ⟨wr.heap.size, 2, none⟩ = some (.int .i64 ta) ∧ w'.cell? ⟨wr.heap.size, 3, none⟩ = some (.int .i64 tl) ∧ w'.cell? ⟨wr.heap.size, 4, none⟩ = some (.int .i64 tc)) (by kernel_rfl) ?_
          refine anyC_take0 (i := 0) (v := ?_) (some 21) (by rfl) rfl (by kernel_rfl) (by kernel_rfl) (by kernel_rfl) (fun _ _ _ h => h) (Or.inl ⟨by rfl, ?_⟩) (by decide) (Or.inr (by assumption)) ?_
          rotate_left
          · (intro w; go_simp; try with_reducible rfl)
          (try simp only [Act.put, List.setIfInBounds_toArray, List.set_cons_zero, List.set_cons_succ])
          refine anyC_take0 (i := 1) (v := ?_) (some 22) (by rfl) rfl (by kernel_rfl) (by kernel_rfl) (by kernel_rfl) (fun _ _ _ h => h) (Or.inl ⟨by rfl, ?_⟩) (by decide) (Or.inr (by assumption)) ?_
          rotate_left
          · (intro w; go_simp; try with_reducible rfl)
          (try simp only [Act.put, List.setIfInBounds_toArray, List.set_cons_zero, List.set_cons_succ])
          refine anyC_take0 (i := 2) (v := ?_) (some 23) (by rfl) rfl (by kernel_rfl) (by kernel_rfl) (by kernel_rfl) (fun _ _ _ h => h) (Or.inl ⟨by rfl, ?_⟩) (by decide) (Or.inr (by assumption)) ?_
          rotate_left
          · (intro w; go_simp; try with_reducible rfl)
          (try simp only [Act.put, List.setIfInBounds_toArray, List.set_cons_zero, List.set_cons_succ])
          refine anyC_take0 (i := 3) (v := ?_) (some 24) (by rfl) rfl (by kernel_rfl) (by kernel_rfl) (by kernel_rfl) (fun _ _ _ h => h) (Or.inl ⟨by rfl, ?_⟩) (by decide) (Or.inr (by assumption)) ?_
          rotate_left
          · (intro w; go_simp; try with_reducible rfl)
          (try simp only [Act.put, List.setIfInBounds_toArray, List.set_cons_zero, List.set_cons_succ])
          refine anyC_take0 (i := 4) (v := ?_) (some 25) (by rfl) rfl (by kernel_rfl) (by kernel_rfl) (by kernel_rfl) (fun _ _ _ h => h) (Or.inl ⟨by rfl, ?_⟩) (by decide) (Or.inr (by assumption)) ?_
          rotate_left
          · (intro w; go_simp; try with_reducible rfl)
          (try simp only [Act.put, List.setIfInBounds_toArray, List.set_cons_zero, List.set_cons_succ])
          refine anyC_take0 (i := 5) (v := ?_) (some 26) (by rfl) rfl (by kernel_rfl) (by kernel_rfl) (by kernel_rfl) (fun _ _ _ h => h) (Or.inl ⟨by rfl, ?_⟩) (by decide) (Or.inr (by assumption)) ?_
          rotate_left
          · (intro w; go_simp; try with_reducible rfl)
          (try simp only [Act.put, List.setIfInBounds_toArray, List.set_cons_zero, List.set_cons_succ])
          refine anyC_take0 (i := 6) (v := ?_) (some 27) (by rfl) rfl (by kernel_rfl) (by kernel_rfl) (by kernel_rfl) (fun _ _ _ h => h) (Or.inl ⟨by rfl, ?_⟩) (by decide) (Or.inr (by assumption)) ?_
          rotate_left
          · (intro w; go_simp; try with_reducible rfl)
          (try simp only [Act.put, List.setIfInBounds_toArray, List.set_cons_zero, List.set_cons_succ])
          refine anyC_take (i := 7) (v := ?_) (some 28) (by rfl) rfl (by kernel_rfl) (by kernel_rfl) (by kernel_rfl) (by kernel_rfl) (by kernel_rfl) (fun _ _ _ h => h) (Or.inl ⟨by rfl, ?_⟩) (by assumption) ?_
          rotate_left
          · (intro w hSw; (try dsimp only at hSw); go_simp; try with_reducible rfl)
          (try simp only [Act.put, List.setIfInBounds_toArray, List.set_cons_zero, List.set_cons_succ])
          refine anyC_take (i := 8) (v := ?_) (some 29) (by rfl) rfl (by kernel_rfl) (by kernel_rfl) (by kernel_rfl) (by kernel_rfl) (by kernel_rfl) (fun _ _ _ h => h) (Or.inl ⟨by rfl, ?_⟩) (by assumption) ?_
          rotate_left
          · (intro w hSw; (try dsimp only at hSw); go_simp; try with_reducible rfl)
          (try simp only [Act.put, List.setIfInBounds_toArray, List.set_cons_zero, List.set_cons_succ])
          refine anyC_one (i := 9) (by kernel_rfl) rfl (by rfl) (fun K hK => ?_)
          go_simp
          refine (CF.out _).mono ?_
          rintro e w5 ⟨rfl, rfl⟩
          (try simp only [Act.put, List.setIfInBounds_toArray, List.set_cons_zero, List.set_cons_succ])
          refine hK.out _ _ (.inl rfl) ?_
          clear hK K
          refine anyC_take0 (i := 10) (v := ?_) (some 31) (by rfl) rfl (by kernel_rfl) (by kernel_rfl) (by kernel_rfl) (fun _ _ _ h => h) (Or.inl ⟨by rfl, ?_⟩) (by decide) (Or.inl (by kernel_rfl)) ?_
          rotate_left
          · (intro w; go_simp; try with_reducible rfl)
          (try simp only [Act.put, List.setIfInBounds_toArray, List.set_cons_zero, List.set_cons_succ])
          refine anyC_take0 (i := 11) (v := ?_) (some 32) (by rfl) rfl (by kernel_rfl) (by kernel_rfl) (by kernel_rfl) (fun _ _ _ h => h) (Or.inl ⟨by rfl, ?_⟩) (by decide) (Or.inl (by kernel_rfl)) ?_
          rotate_left
          · (intro w; go_simp; try with_reducible rfl)
          (try simp only [Act.put, List.setIfInBounds_toArray, List.set_cons_zero, List.set_cons_succ])
          apply anyC_end
          rotate_left
          · kernel_rfl
          have HBB := Lib.hid ((((Below.refl wr.heap.size wr).alloc (Nat.le_refl _) (.cells #[.int .i64 tk, .string tx, .int .i64 ta, .int .i64 tl, .int .i64 tc] 32)).drew.alloc (by show _ ≤ (wr.alloc _).heap.size; simp) (.cells #[.int .i64 uk, .string ux, .int .i64 ua, .int .i64 ul, .int .i64 uc] 32)).alloc (by simp; omega) (.cells #[.int .i64 tk, .string tx, .int .i64 ta, .int .i64 tl, .int .i64 tc] 32))
          cases fo with
          | true =>
            have hv2 := HFV.out
            rw [if_pos rfl, HC.out] at hv2
            have HV := Lib.hid hv2
            clear hv2 hS e0 e1 e2 e3 e4
            go_wp2_with fail
            go_roundg gh'
            case rel => exact ⟨j + 1 + 1, by have := HK.out; omega, by go_num, HB.out.trans (HBB.out.mono HB.out.size), HV.out.symm⟩
            case measure => omega
          | false =>
            have hv : chkF ts = some (j + 1, 23) := by
              unfold chkF; rw [HLEN.out, ← HC.out, HFV.out]; rfl
            have HV := Lib.hid hv
            clear hv hS e0 e1 e2 e3 e4
            go_wp2_with (go_at_call 14; refine (fail_any _ _ _).mono ?_; rintro e w' ⟨rfl, rfl⟩)
            rw [HV.out]
            exact ⟨rfl, rfl, HB.out.trans (HBB.out.mono HB.out.size)⟩
    · have hv : chkL ts n 0 = none := by
        rw [← HC.out, show gk = 0 by omega]; rfl
      have hkn : k = n := by omega
      subst hkn
      by_cases hbig : 20000 < k
      · have hv2 : chkF ts = some (0, 18) := by unfold chkF; rw [HLEN.out, hv]; simp [hbig]
        have HV := Lib.hid hv2
        have hq : (20000 : Int) < (k : Int) := by omega
        clear hv hv2 hlt hbig hk
        go_wp2_with (go_at_call 14; refine (fail_any _ _ _).mono ?_; rintro e w' ⟨rfl, rfl⟩)
        rw [HV.out]
        exact ⟨rfl, rfl, HB.out⟩
      · have hv2 : chkF ts = none := by unfold chkF; rw [HLEN.out, hv]; simp [hbig]
        have HV := Lib.hid hv2
        have hq : ¬ (20000 : Int) < (k : Int) := by omega
        clear hv hv2 hlt hbig hk
        go_wp2_with fail
        go_end0
        rw [HV.out]
        exact ⟨rfl, HB.out⟩
end Go.Proofs.YtpgcklpcohcchaaDoor
