/- The reader of tokens: marks. The reader of tokens: marks of one byte, bytes that begin nothing, kinds of words. -/
import Derived.Test.YtpgcklpcohcchaaDoorR6
import Derived.Test.YtpgcklpcohcchaaDoorA3
namespace Go.Proofs.YtpgcklpcohcchaaDoor
open Go Go.RowKit

theorem RR.keep {X : Nat → Prop} {w w' : World} {rb : Nat} {s : ByteArray} {r : RSt} {vn : Value} (h : RR X w rb s r vn) (hb : Below w.heap.size w w') : RR X w' rb s r vn := by
  obtain ⟨vo, h1, h2, h4⟩ := h
  exact ⟨vo, h1.below hb h1.lt, row_keep h2 hb, fun b hX => by obtain ⟨k1, k2, k3⟩ := h4 b hX; exact ⟨Nat.lt_of_lt_of_le k1 hb.size, k2, k3⟩⟩

/-- The reader's place alone has changed. -/
theorem RR.moved {X : Nat → Prop} {w w' : World} {rb : Nat} {s : ByteArray} {r : RSt} {vo vn : Value} {a : Nat} (h2 : w.ownsRow 0 32 5 vo r.out.length (tcs r.out)) (h4 : ∀ b, X b → b < w.heap.size ∧ b ≠ rb ∧ vo.ownBlock ≠ some b)
    (hne : vo.ownBlock ≠ some rb) (hB : Bl w' rb 42 (.string s :: .int .i64 a :: r.fs vo vn)) (hO : Og rb w w') : RR X w' rb s { r with pos := a } vn ∧ KX X w w' := by
  refine ⟨⟨vo, hB, hO.row h2 hne, fun b hb => ?_⟩, ⟨hO.os, hO.tape, hO.output, hO.size, fun b hb => hO.block b (h4 b hb).1 (by intro e; injection e with e; exact (h4 b hb).2.1 e)⟩⟩
  obtain ⟨k1, k2, k3⟩ := h4 b hb
  exact ⟨Nat.lt_of_lt_of_le k1 hO.size, k2, k3⟩

def markF (s : ByteArray) (n : Nat) (r : RSt) : RSt := addF s 3 (s.extract r.pos (r.pos + n)) r.pos { r with pos := r.pos + n }

set_option maxRecDepth 100000 in
set_option maxHeartbeats 800000 in
theorem mark_any (X : Nat → Prop) (w : World) (rb : Nat) (s : ByteArray) (r : RSt) (vn : Value) (n : Nat) (h : RR X w rb s r vn) (hs : s.size ≤ 65536) (hp : r.pos + n ≤ s.size) (ht : r.told ≤ r.pos) (hli : r.line ≤ r.told) (hst : r.start ≤ r.told) (hn : r.out.length < 4000000) :
    Calls Tryd.prog 50 #[.pointer (some ⟨rb, 0, none⟩), .int .i64 n] w fun e w' => e = .returned (.tuple #[]) ∧ RR X w' rb s (markF s n r) vn ∧ KX X w w' := by
  obtain ⟨vo, h1, h2, h4⟩ := h
  obtain ⟨rp, ro, rt, rl, rs⟩ := r
  have ao := Bl.row_apart h2 h1 (by decide)
  simp only at hp ht hli hst hn
  obtain ⟨m, hm⟩ : ∃ m, m = rp + n := ⟨_, rfl⟩
  have hmf : markF s n ⟨rp, ro, rt, rl, rs⟩ = addF s 3 (s.extract rp m) rp ⟨m, ro, rt, rl, rs⟩ := by subst hm; rfl
  rw [hmf]
  have c1 : w.cell? ⟨rb, 1, none⟩ = some (.int .i64 rp) := h1.cell 1
  have f1 := h1.froz 1
  have hB1 : Bl (w.setCell ⟨rb, 1, none⟩ (.int .i64 m)) rb 42 (.string s :: .int .i64 m :: (⟨rp, ro, rt, rl, rs⟩ : RSt).fs vo vn) := h1.set 1 _
  have hO1 : Og rb w (w.setCell ⟨rb, 1, none⟩ (.int .i64 m)) := (Og.refl rb w).set 1 _
  obtain ⟨r1, r2⟩ := RR.moved (X := X) (r := ⟨rp, ro, rt, rl, rs⟩) (a := m) h2 h4 ao hB1 hO1
  have d0 : (w.setCell ⟨rb, 1, none⟩ (.int .i64 m)).cell? ⟨rb, 0, none⟩ = some (.string s) := hB1.cell 0
  have d1 : (w.setCell ⟨rb, 1, none⟩ (.int .i64 m)).cell? ⟨rb, 1, none⟩ = some (.int .i64 m) := hB1.cell 1
  have r1' := r1.keep ((Below.refl _ _).drew)
  have ca := add_any X _ rb s ⟨m, ro, rt, rl, rs⟩ vn 3 (s.extract rp m) rp r1' hs (by omega) ht hli hst hn
  have CA := Lib.hid ca
  have R2 := Lib.hid (show KX X w (w.setCell ⟨rb, 1, none⟩ (.int .i64 m)).drew from r2.drew)
  have q1 : (m : Int) ≤ (s.size : Int) := by omega
  have q2 : (0 : Int) ≤ (rp : Int) := by omega
  have q3 : (rp : Int) ≤ (m : Int) := by omega
  have q5 : (m : Int) ≤ 65536 := by omega
  have e1 : (rp : Int) + (n : Int) = (m : Int) := by omega
  have e2 : IntKind.i64.wrap ((rp : Int) + (n : Int)) = (m : Int) := by rw [IntKind.wrap_i64]; omega
  clear h1 h2 h4 ao hB1 hO1 r1 r1' r2 ca hp ht hli hst hn hm hmf
  go_enter Tryd.func50, Tryd.ntmps50
  go_wp2_with fail
  generalize w.setCell ⟨rb, 1, none⟩ (.int .i64 m) = W at *
  have hS : (fun w' : World => w'.cell? ⟨rb, 0, none⟩ = some (.string s) ∧ w'.cell? ⟨rb, 1, none⟩ = some (.int .i64 m)) W.drew := ⟨d0, d1⟩
  refine anyC_region (c := 10) (S := fun w' : World => w'.cell? ⟨rb, 0, none⟩ = some (.string s) ∧ w'.cell? ⟨rb, 1, none⟩ = some (.int .i64 m)) (by kernel_rfl) ?_
  refine anyC_take0 (i := 0) (v := ?_) (some 17) (by rfl) rfl (by kernel_rfl) (by kernel_rfl) (by kernel_rfl) (fun _ _ _ h => h) (Or.inl ⟨by rfl, ?_⟩) (by decide) (Or.inr (by assumption)) ?_
  rotate_left
  · (intro w; go_simp; try with_reducible rfl)
  (try simp only [Act.put, List.setIfInBounds_toArray, List.set_cons_zero, List.set_cons_succ])
  refine anyC_take0 (i := 1) (v := ?_) (some 18) (by rfl) rfl (by kernel_rfl) (by kernel_rfl) (by kernel_rfl) (fun _ _ _ h => h) (Or.inl ⟨by rfl, ?_⟩) (by decide) (Or.inr (by assumption)) ?_
  rotate_left
  · (intro w; go_simp; try with_reducible rfl)
  (try simp only [Act.put, List.setIfInBounds_toArray, List.set_cons_zero, List.set_cons_succ])
  refine anyC_take0 (i := 2) (v := ?_) (some 19) (by rfl) rfl (by kernel_rfl) (by kernel_rfl) (by kernel_rfl) (fun _ _ _ h => h) (Or.inl ⟨by rfl, ?_⟩) (by decide) (Or.inr (by assumption)) ?_
  rotate_left
  · (intro w; go_simp; try with_reducible rfl)
  (try simp only [Act.put, List.setIfInBounds_toArray, List.set_cons_zero, List.set_cons_succ])
  refine anyC_take0 (i := 3) (v := ?_) (some 20) (by rfl) rfl (by kernel_rfl) (by kernel_rfl) (by kernel_rfl) (fun _ _ _ h => h) (Or.inl ⟨by rfl, ?_⟩) (by decide) (Or.inr (by assumption)) ?_
  rotate_left
  · (intro w; go_simp; try with_reducible rfl)
  (try simp only [Act.put, List.setIfInBounds_toArray, List.set_cons_zero, List.set_cons_succ])
  refine anyC_take (i := 4) (v := ?_) (some 21) (by rfl) rfl (by kernel_rfl) (by kernel_rfl) (by kernel_rfl) (by kernel_rfl) (by kernel_rfl) (fun _ _ _ h => h) (Or.inl ⟨by rfl, ?_⟩) (by assumption) ?_
  rotate_left
  · (intro w hSw; (try dsimp only at hSw); go_simp; try with_reducible rfl)
  (try simp only [Act.put, List.setIfInBounds_toArray, List.set_cons_zero, List.set_cons_succ])
  refine anyC_take0 (i := 5) (v := ?_) (some 22) (by rfl) rfl (by kernel_rfl) (by kernel_rfl) (by kernel_rfl) (fun _ _ _ h => h) (Or.inl ⟨by rfl, ?_⟩) (by decide) (Or.inr (by assumption)) ?_
  rotate_left
  · (intro w; go_simp; try with_reducible rfl)
  (try simp only [Act.put, List.setIfInBounds_toArray, List.set_cons_zero, List.set_cons_succ])
  refine anyC_take0 (i := 6) (v := ?_) (some 23) (by rfl) rfl (by kernel_rfl) (by kernel_rfl) (by kernel_rfl) (fun _ _ _ h => h) (Or.inl ⟨by rfl, ?_⟩) (by decide) (Or.inr (by assumption)) ?_
  rotate_left
  · (intro w; go_simp; try with_reducible rfl)
  (try simp only [Act.put, List.setIfInBounds_toArray, List.set_cons_zero, List.set_cons_succ])
  refine anyC_take0 (i := 7) (v := ?_) (some 24) (by rfl) rfl (by kernel_rfl) (by kernel_rfl) (by kernel_rfl) (fun _ _ _ h => h) (Or.inl ⟨by rfl, ?_⟩) (by decide) (Or.inr (by assumption)) ?_
  rotate_left
  · (intro w; go_simp; try with_reducible rfl)
  (try simp only [Act.put, List.setIfInBounds_toArray, List.set_cons_zero, List.set_cons_succ])
  refine anyC_take0 (i := 8) (v := ?_) (some 25) (by rfl) rfl (by kernel_rfl) (by kernel_rfl) (by kernel_rfl) (fun _ _ _ h => h) (Or.inl ⟨by rfl, ?_⟩) (by decide) (Or.inr (by assumption)) ?_
  rotate_left
  · (intro w; go_simp; try with_reducible rfl)
  (try simp only [Act.put, List.setIfInBounds_toArray, List.set_cons_zero, List.set_cons_succ])
  refine anyC_take (i := 9) (v := ?_) (some 26) (by rfl) rfl (by kernel_rfl) (by kernel_rfl) (by kernel_rfl) (by kernel_rfl) (by kernel_rfl) (fun _ _ _ h => h) (Or.inl ⟨by rfl, ?_⟩) (by assumption) ?_
  rotate_left
  · (intro w hSw; (try dsimp only at hSw); go_simp; try with_reducible rfl)
  (try simp only [Act.put, List.setIfInBounds_toArray, List.set_cons_zero, List.set_cons_succ])
  refine anyC_take0 (i := 11) (v := ?_) (some 28) (by rfl) rfl (by kernel_rfl) (by kernel_rfl) (by kernel_rfl) (fun _ _ _ h => h) (Or.inl ⟨by rfl, ?_⟩) (by decide) (Or.inr (by assumption)) ?_
  rotate_left
  · (intro w; go_simp; try with_reducible rfl)
  (try simp only [Act.put, List.setIfInBounds_toArray, List.set_cons_zero, List.set_cons_succ])
  refine anyC_one (i := 10) (by kernel_rfl) rfl (by rfl) (fun K hK => ?_)
  go_simp
  refine hK.out _ _ (.inl rfl) ?_
  clear hK K
  (try simp only [Act.put, List.setIfInBounds_toArray, List.set_cons_zero, List.set_cons_succ])
  refine anyC_one (i := 12) (by kernel_rfl) rfl (by rfl) (fun K hK => ?_)
  go_simp
  refine CA.out.mono ?_
  rintro e w5 ⟨rfl, hL5, hK5⟩
  (try simp only [Act.put, List.setIfInBounds_toArray, List.set_cons_zero, List.set_cons_succ])
  refine hK.out _ _ (.inr (.inl (by kernel_rfl))) ?_
  clear hK K
  apply anyC_end
  rotate_left
  · kernel_rfl
  go_wp2
  go_end0
  exact ⟨rfl, hL5, R2.out.trans hK5⟩
end Go.Proofs.YtpgcklpcohcchaaDoor
namespace Go.Proofs.YtpgcklpcohcchaaDoor
open Go Go.RowKit

set_option maxRecDepth 100000 in
set_option maxHeartbeats 800000 in
theorem point_any (X : Nat → Prop) (w : World) (rb : Nat) (s : ByteArray) (r : RSt) (vn : Value) (h : RR X w rb s r vn) (hs : s.size ≤ 65536) (hp : r.pos + 1 ≤ s.size) (ht : r.told ≤ r.pos) (hli : r.line ≤ r.told) (hst : r.start ≤ r.told) (hn : r.out.length < 4000000) :
    Calls Tryd.prog 32 #[.pointer (some ⟨rb, 0, none⟩)] w fun e w' => e = .returned (.tuple #[]) ∧ RR X w' rb s (markF s 1 r) vn ∧ KX X w w' := by
  have ca := mark_any X w rb s r vn 1 h hs hp ht hli hst hn
  replace ca : Calls Tryd.prog 50 #[.pointer (some ⟨rb, 0, none⟩), .int .i64 1] w fun e w' => e = .returned (.tuple #[]) ∧ RR X w' rb s (markF s 1 r) vn ∧ KX X w w' := ca
  have CA := Lib.hid ca
  clear ca h hs hp ht hli hst hn
  go_enter Tryd.func32, Tryd.ntmps32
  go_wp2_with fail
  refine CA.out.mono ?_
  rintro e w1 ⟨rfl, h1, h2⟩
  go_simp
  go_wp2
  go_end0
  exact ⟨rfl, h1, h2⟩

set_option maxRecDepth 100000 in
set_option maxHeartbeats 800000 in
theorem illegal_any (w : World) (rb a : Nat) (h : w.cell? ⟨rb, 1, none⟩ = some (.int .i64 a)) :
    Calls Tryd.prog 53 #[.pointer (some ⟨rb, 0, none⟩)] w fun e w' => e = .panicked (fv a 27) ∧ w = w' := by
  go_enter Tryd.func53, Tryd.ntmps53
  go_wp2_with (go_at_call 14; refine (fail_any _ _ _).mono ?_; rintro e w' ⟨rfl, rfl⟩)
  exact ⟨rfl, rfl, rfl⟩

/-- The kind of a word; none: it is too long. -/
def wkF (tx : ByteArray) : Option Nat := if 64 < tx.size then none else if tx.toList = [95] then some 3 else if kwd tx.toList then some 1 else some 0

def WkRes (a : Nat) (w : World) (x : Option Nat) (e : Ending) (w' : World) : Prop :=
  match x with
  | some k => e = .returned (.int .i64 k) ∧ w = w'
  | none => e = .panicked (fv a 18) ∧ w = w'

set_option maxRecDepth 100000 in
set_option maxHeartbeats 800000 in
theorem wordKind_any (w : World) (tx : ByteArray) (a : Nat) : Calls Tryd.prog 44 #[.string tx, .int .i64 a] w (WkRes a w (wkF tx)) := by
  have K := Lib.hid (keyword_any tx w)
  by_cases h1 : 64 < tx.size
  · have hv : wkF tx = none := by unfold wkF; rw [if_pos h1]
    rw [hv]
    have q : (64 : Int) < (tx.size : Int) := by omega
    clear hv h1
    go_enter Tryd.func44, Tryd.ntmps44
    go_wp2_with (go_at_call 14; refine (fail_any _ _ _).mono ?_; rintro e w' ⟨rfl, rfl⟩)
    exact ⟨rfl, rfl, rfl⟩
  · have q : ¬ (64 : Int) < (tx.size : Int) := by omega
    by_cases h95 : tx.toList = [95]
    · have hv : wkF tx = some 3 := by unfold wkF; rw [if_neg h1, if_pos h95]
      rw [hv]
      have e95 : (tx.toList == [95]) = true := by simpa using h95
      clear hv h1 h95
      go_enter Tryd.func44, Tryd.ntmps44
      go_wp2_with fail
      go_ret
      exact ⟨rfl, rfl⟩
    · have e95 : (tx.toList == [95]) = false := by simpa using h95
      cases hk : kwd tx.toList with
      | true =>
        have hv : wkF tx = some 1 := by unfold wkF; rw [if_neg h1, if_neg h95, if_pos hk]
        rw [hv]
        rw [hk] at K
        clear hv h1 h95 hk
        go_enter Tryd.func44, Tryd.ntmps44
        go_wp2_with (go_at_call 67; refine K.out.mono ?_; rintro e w1 ⟨rfl, rfl⟩)
        go_ret
        exact ⟨rfl, rfl⟩
      | false =>
        have hv : wkF tx = some 0 := by unfold wkF; rw [if_neg h1, if_neg h95, if_neg (by rw [hk]; simp)]
        rw [hv]
        rw [hk] at K
        clear hv h1 h95 hk
        go_enter Tryd.func44, Tryd.ntmps44
        go_wp2_with (go_at_call 67; refine K.out.mono ?_; rintro e w1 ⟨rfl, rfl⟩)
        go_ret
        exact ⟨rfl, rfl⟩
end Go.Proofs.YtpgcklpcohcchaaDoor
