/- The reader of tokens: bytes of literals, escapes. The reader of tokens: escapes. -/
import Derived.Test.YtpgcklpcohcchaaDoorR5
namespace Go.Proofs.YtpgcklpcohcchaaDoor
open Go Go.RowKit

/-- What a reader of a literal's bytes leaves: a byte and a place, or a fault. -/
def ByRes (rb : Nat) (s : ByteArray) (l : List Value) (w : World) (x : Except Nat (UInt8 × Nat)) (e : Ending) (w' : World) : Prop :=
  match x with
  | .ok (b, k) => e = .returned (.int .u8 b.toNat) ∧ Bl w' rb 42 (.string s :: .int .i64 k :: l) ∧ Og rb w w'
  | .error a => e = .panicked (fv a 27) ∧ Og rb w w'

def nextF (s : ByteArray) (lit a : Nat) : Except Nat (UInt8 × Nat) := if (pk s a).toNat < 32 then .error lit else .ok (pk s a, a + 1)

theorem nextF_le {s : ByteArray} {lit a k : Nat} {b : UInt8} (h : nextF s lit a = .ok (b, k)) : k ≤ s.size ∧ k = a + 1 ∧ b = pk s a ∧ ¬ (pk s a).toNat < 32 := by
  unfold nextF at h
  split at h
  · cases h
  · rename_i hn
    injection h with h
    injection h with h1 h2
    have : a < s.size := pk_ne (s := s) (a := a) (by intro e; rw [e] at hn; exact hn (by decide))
    exact ⟨by omega, h2.symm, h1.symm, hn⟩

set_option maxRecDepth 100000 in
set_option maxHeartbeats 800000 in
theorem next_any (rb : Nat) (s : ByteArray) (lit a : Nat) (l : List Value) (w : World) (hs : s.size ≤ 65536) (ha : a ≤ s.size) (h : Bl w rb 42 (.string s :: .int .i64 a :: l)) :
    Calls Tryd.prog 72 #[.pointer (some ⟨rb, 0, none⟩), .int .i64 lit] w (ByRes rb s l w (nextF s lit a)) := by
  have c0 : w.cell? ⟨rb, 0, none⟩ = some (.string s) := h.cell 0
  have c1 : w.cell? ⟨rb, 1, none⟩ = some (.int .i64 a) := h.cell 1
  have f1 : ∀ n, (w.drewN n).frozen? ⟨rb, 1, none⟩ = false := fun n => h.froz 1
  have C0 := Lib.hid (peek0 rb s a w hs (by omega) c0 c1)
  have H := Lib.hid h
  unfold nextF
  generalize pk s a = b at *
  have hb : b.toNat < 256 := b.toNat_lt
  by_cases hlt : b.toNat < 32
  · rw [if_pos hlt]
    have q : decide ((b.toNat : Int) < 32) = true := by simp; omega
    have q' : (b.toNat : Int) < 32 := by omega
    clear h
    go_enter Tryd.func72, Tryd.ntmps72
    go_wp2_with fail
    refine (C0.out).mono ?_
    rintro e w1 ⟨rfl, n1, rfl⟩
    go_simp
    go_wp2_with fail
    refine (fail_any _ _ _).mono ?_
    rintro e w' ⟨rfl, rfl⟩
    exact ⟨rfl, rfl, (Og.refl _ _).drewN _⟩
  · rw [if_neg hlt]
    have q : ¬ (b.toNat : Int) < 32 := by omega
    clear h
    go_enter Tryd.func72, Tryd.ntmps72
    go_wp2_with fail
    refine (C0.out).mono ?_
    rintro e w1 ⟨rfl, n1, rfl⟩
    go_simp
    go_wp2_with fail
    go_ret
    exact ⟨rfl, (H.out.drewN _).set 1 _, ((Og.refl _ _).drewN _).set 1 _⟩

/-- A digit 0 to 9 or a to f. -/
def hexV (b : UInt8) : Option UInt8 := if 48 ≤ b.toNat ∧ b.toNat ≤ 57 then some (b - 48) else if 97 ≤ b.toNat ∧ b.toNat ≤ 102 then some (b - 97 + 10) else none
def hexEnd (tok : Nat) (b : UInt8) (k : Nat) : Except Nat (UInt8 × Nat) := match hexV b with
  | some v => .ok (v, k)
  | none => .error tok
def hexF (s : ByteArray) (lit tok a : Nat) : Except Nat (UInt8 × Nat) := match nextF s lit a with
  | .error x => .error x
  | .ok (b, k) => hexEnd tok b k

theorem ret_u8 {a b : Int} (h : a = b) : Ending.returned (.int .u8 a) = .returned (.int .u8 b) := by rw [h]

set_option maxRecDepth 100000 in
set_option maxHeartbeats 1600000 in
theorem hex_any (rb : Nat) (s : ByteArray) (lit tok a : Nat) (l : List Value) (w : World) (hs : s.size ≤ 65536) (ha : a ≤ s.size) (h : Bl w rb 42 (.string s :: .int .i64 a :: l)) :
    Calls Tryd.prog 75 #[.pointer (some ⟨rb, 0, none⟩), .int .i64 lit, .int .i64 tok] w (ByRes rb s l w (hexF s lit tok a)) := by
  have C := Lib.hid (next_any rb s lit a l w hs ha h)
  unfold hexF
  clear h
  cases hn : nextF s lit a with
  | error x =>
    rw [hn] at C
    simp only
    clear hn
    go_enter Tryd.func75, Tryd.ntmps75
    go_wp2_with fail
    refine (C.out).mono ?_
    rintro e w1 ⟨rfl, hO⟩
    exact ⟨rfl, rfl, hO⟩
  | ok p =>
    obtain ⟨b, k⟩ := p
    rw [hn] at C
    simp only
    clear hn
    have hb : b.toNat < 256 := b.toNat_lt
    unfold hexEnd hexV
    by_cases h1 : 48 ≤ b.toNat ∧ b.toNat ≤ 57
    · rw [if_pos h1]
      have q1 : (48 : Int) ≤ (b.toNat : Int) := by omega
      have q2 : (b.toNat : Int) ≤ 57 := by omega
      have hv : ((b - 48).toNat : Int) = (b.toNat : Int) - 48 := by
        rw [UInt8.toNat_sub_of_le _ _ (by rw [UInt8.le_iff_toNat_le]; exact h1.1)]
        have : (48 : UInt8).toNat = 48 := rfl
        omega
      have HV := Lib.hid hv
      clear hv h1
      go_enter Tryd.func75, Tryd.ntmps75
      go_wp2_with fail
      refine (C.out).mono ?_
      rintro e w1 ⟨rfl, hB, hO⟩
      have HB := Lib.hid hB
      have HO := Lib.hid hO
      clear hB hO
      go_simp
      go_wp2_with fail
      go_ret
      exact ⟨ret_u8 HV.out.symm, HB.out, HO.out⟩
    · rw [if_neg h1]
      by_cases h2 : 97 ≤ b.toNat ∧ b.toNat ≤ 102
      · rw [if_pos h2]
        have q0 : (48 : Int) ≤ (b.toNat : Int) := by omega
        have q3 : ¬ (b.toNat : Int) ≤ 57 := by omega
        have q1 : (97 : Int) ≤ (b.toNat : Int) := by omega
        have q2 : (b.toNat : Int) ≤ 102 := by omega
        have hv : ((b - 97 + 10).toNat : Int) = (b.toNat : Int) - 97 + 10 := by
          rw [UInt8.toNat_add, UInt8.toNat_sub_of_le _ _ (by rw [UInt8.le_iff_toNat_le]; exact h2.1)]
          have : (97 : UInt8).toNat = 97 := rfl
          have : (10 : UInt8).toNat = 10 := rfl
          omega
        have HV := Lib.hid hv
        clear hv h1 h2
        go_enter Tryd.func75, Tryd.ntmps75
        go_wp2_with fail
        refine (C.out).mono ?_
        rintro e w1 ⟨rfl, hB, hO⟩
        have HB := Lib.hid hB
        have HO := Lib.hid hO
        clear hB hO
        go_simp
        go_wp2_with fail
        go_ret
        exact ⟨ret_u8 HV.out.symm, HB.out, HO.out⟩
      · rw [if_neg h2]
        by_cases h0 : 48 ≤ b.toNat
        · have q0 : (48 : Int) ≤ (b.toNat : Int) := by omega
          have q3 : ¬ (b.toNat : Int) ≤ 57 := by omega
          by_cases h97 : 97 ≤ b.toNat
          · have q1 : (97 : Int) ≤ (b.toNat : Int) := by omega
            have q2 : ¬ (b.toNat : Int) ≤ 102 := by omega
            clear h1 h2 h0 h97
            go_enter Tryd.func75, Tryd.ntmps75
            go_wp2_with fail
            refine (C.out).mono ?_
            rintro e w1 ⟨rfl, hB, hO⟩
            have HO := Lib.hid hO
            clear hB hO
            go_simp
            go_wp2_with fail
            refine (fail_any _ _ _).mono ?_
            rintro e w' ⟨rfl, rfl⟩
            exact ⟨rfl, rfl, HO.out⟩
          · have q1 : ¬ (97 : Int) ≤ (b.toNat : Int) := by omega
            clear h1 h2 h0 h97
            go_enter Tryd.func75, Tryd.ntmps75
            go_wp2_with fail
            refine (C.out).mono ?_
            rintro e w1 ⟨rfl, hB, hO⟩
            have HO := Lib.hid hO
            clear hB hO
            go_simp
            go_wp2_with fail
            refine (fail_any _ _ _).mono ?_
            rintro e w' ⟨rfl, rfl⟩
            exact ⟨rfl, rfl, HO.out⟩
        · have q0 : ¬ (48 : Int) ≤ (b.toNat : Int) := by omega
          have q1 : ¬ (97 : Int) ≤ (b.toNat : Int) := by omega
          clear h1 h2 h0
          go_enter Tryd.func75, Tryd.ntmps75
          go_wp2_with fail
          refine (C.out).mono ?_
          rintro e w1 ⟨rfl, hB, hO⟩
          have HO := Lib.hid hO
          clear hB hO
          go_simp
          go_wp2_with fail
          refine (fail_any _ _ _).mono ?_
          rintro e w' ⟨rfl, rfl⟩
          exact ⟨rfl, rfl, HO.out⟩
end Go.Proofs.YtpgcklpcohcchaaDoor
namespace Go.Proofs.YtpgcklpcohcchaaDoor
open Go Go.RowKit

def hexTwo (s : ByteArray) (lit tok k : Nat) : Except Nat (UInt8 × Nat) := match hexF s lit tok k with
  | .error x => .error x
  | .ok (h, k1) => match hexF s lit tok k1 with
    | .error x => .error x
    | .ok (l, k2) => .ok (UInt8.ofNat (h.toNat * 16 + l.toNat), k2)
def escEnd (s : ByteArray) (lit tok : Nat) (b : UInt8) (k : Nat) : Except Nat (UInt8 × Nat) :=
  if b = 110 then .ok (10, k) else if b = 116 then .ok (9, k) else if b = 92 ∨ b = 39 ∨ b = 34 ∨ b = 36 then .ok (b, k)
  else if b = 120 then hexTwo s lit tok k else .error tok
def escF (s : ByteArray) (lit tok k : Nat) : Except Nat (UInt8 × Nat) := match nextF s lit k with
  | .error x => .error x
  | .ok (b, k1) => escEnd s lit tok b k1

theorem hexV_lt {b v : UInt8} (h : hexV b = some v) : v.toNat < 16 := by
  unfold hexV at h
  split at h
  · rename_i h1
    injection h with h
    subst h
    rw [UInt8.toNat_sub_of_le _ _ (by rw [UInt8.le_iff_toNat_le]; exact h1.1)]
    have : (48 : UInt8).toNat = 48 := rfl
    omega
  · split at h
    · rename_i h1
      injection h with h
      subst h
      rw [UInt8.toNat_add, UInt8.toNat_sub_of_le _ _ (by rw [UInt8.le_iff_toNat_le]; exact h1.1)]
      have : (97 : UInt8).toNat = 97 := rfl
      have : (10 : UInt8).toNat = 10 := rfl
      omega
    · cases h

theorem hexF_le {s : ByteArray} {lit tok a k : Nat} {b : UInt8} (h : hexF s lit tok a = .ok (b, k)) : k ≤ s.size ∧ k = a + 1 ∧ b.toNat < 16 := by
  unfold hexF at h
  split at h
  · cases h
  · rename_i b' k' hn
    have := nextF_le hn
    unfold hexEnd at h
    split at h
    · rename_i v hv
      injection h with h
      injection h with h1 h2
      subst h1 h2
      exact ⟨this.1, this.2.1, hexV_lt hv⟩
    · cases h

theorem escF_le {s : ByteArray} {lit tok a k : Nat} {b : UInt8} (h : escF s lit tok a = .ok (b, k)) : k ≤ s.size ∧ a < k := by
  unfold escF at h
  split at h
  · cases h
  · rename_i b' k' hn
    have := nextF_le hn
    unfold escEnd at h
    split at h
    · injection h with h; injection h with h1 h2; omega
    · split at h
      · injection h with h; injection h with h1 h2; omega
      · split at h
        · injection h with h; injection h with h1 h2; omega
        · split at h
          · unfold hexTwo at h
            split at h
            · cases h
            · rename_i h1 k1 hh
              have e1 := hexF_le hh
              split at h
              · cases h
              · rename_i h2 k2 hh2
                have e2 := hexF_le hh2
                injection h with h
                injection h with h1 h2
                omega
          · cases h

theorem u8eq (b : UInt8) (n : Nat) (hn : n < 256) (h : b ≠ UInt8.ofNat n) : ((b.toNat : Int) == (n : Int)) = false := by simpa using u8_ne hn h

theorem or_nib : ∀ h l : Fin 16, bits BinOp.or IntKind.u8 ((h.val : Int) * 16) (l.val : Int) = ((h.val * 16 + l.val : Nat) : Int) := by decide +kernel

set_option maxRecDepth 100000 in
set_option maxHeartbeats 1600000 in
theorem esc_any (rb : Nat) (s : ByteArray) (lit tok a : Nat) (l : List Value) (w : World) (hs : s.size ≤ 65536) (ha : a ≤ s.size) (h : Bl w rb 42 (.string s :: .int .i64 a :: l)) :
    Calls Tryd.prog 73 #[.pointer (some ⟨rb, 0, none⟩), .int .i64 lit, .int .i64 tok] w (ByRes rb s l w (escF s lit tok a)) := by
  have C := Lib.hid (next_any rb s lit a l w hs ha h)
  unfold escF
  clear h
  cases hn : nextF s lit a with
  | error x =>
    rw [hn] at C
    simp only
    clear hn
    go_enter Tryd.func73, Tryd.ntmps73
    go_wp2_with fail
    refine (C.out).mono ?_
    rintro e w1 ⟨rfl, hO⟩
    exact ⟨rfl, rfl, hO⟩
  | ok p =>
    obtain ⟨b, k⟩ := p
    have hk := (nextF_le hn).1
    rw [hn] at C
    simp only
    clear hn
    have hb : b.toNat < 256 := b.toNat_lt
    unfold escEnd
    by_cases h1 : b = 110
    · subst h1
      rw [if_pos rfl]
      go_enter Tryd.func73, Tryd.ntmps73
      go_wp2_with fail
      refine (C.out).mono ?_
      rintro e w1 ⟨rfl, hB, hO⟩
      have HB := Lib.hid hB
      have HO := Lib.hid hO
      clear hB hO
      go_simp
      go_wp2_with fail
      go_ret
      exact ⟨rfl, HB.out, HO.out⟩
    · rw [if_neg h1]
      have q1 := u8eq b 110 (by decide) h1
      clear h1
      by_cases h1 : b = 116
      · subst h1
        rw [if_pos rfl]
        clear q1
        go_enter Tryd.func73, Tryd.ntmps73
        go_wp2_with fail
        refine (C.out).mono ?_
        rintro e w1 ⟨rfl, hB, hO⟩
        have HB := Lib.hid hB
        have HO := Lib.hid hO
        clear hB hO
        go_simp
        go_wp2_with fail
        go_ret
        exact ⟨rfl, HB.out, HO.out⟩
      · rw [if_neg h1]
        have q2 := u8eq b 116 (by decide) h1
        clear h1
        by_cases h1 : b = 92 ∨ b = 39 ∨ b = 34 ∨ b = 36
        · rw [if_pos h1]
          clear q1 q2
          rcases h1 with rfl | rfl | rfl | rfl
          all_goals
            go_enter Tryd.func73, Tryd.ntmps73
            go_wp2_with fail
            refine (C.out).mono ?_
            rintro e w1 ⟨rfl, hB, hO⟩
            have HB := Lib.hid hB
            have HO := Lib.hid hO
            clear hB hO
            go_simp
            go_wp2_with fail
            go_ret
            exact ⟨rfl, HB.out, HO.out⟩
        · rw [if_neg h1]
          have q3 := u8eq b 92 (by decide) (fun e => h1 (.inl e))
          have q4 := u8eq b 39 (by decide) (fun e => h1 (.inr (.inl e)))
          have q5 := u8eq b 34 (by decide) (fun e => h1 (.inr (.inr (.inl e))))
          have q6 := u8eq b 36 (by decide) (fun e => h1 (.inr (.inr (.inr e))))
          clear h1
          by_cases h1 : b = 120
          · subst h1
            rw [if_pos rfl]
            clear q1 q2 q3 q4 q5 q6
            unfold hexTwo
            have HH := Lib.hid (fun w1 hB => hex_any rb s lit tok k l w1 hs hk hB)
            cases hh : hexF s lit tok k with
            | error x =>
              rw [hh] at HH
              clear hh
              simp only
              go_enter Tryd.func73, Tryd.ntmps73
              go_wp2_with fail
              refine (C.out).mono ?_
              rintro e w1 ⟨rfl, hB, hO⟩
              have HB := Lib.hid hB
              have HO := Lib.hid hO
              clear hB hO
              go_simp
              go_wp2_with fail
              refine (HH.out _ HB.out).mono ?_
              rintro e w2 ⟨rfl, hO2⟩
              exact ⟨rfl, rfl, HO.out.trans hO2⟩
            | ok p =>
              obtain ⟨hi, k1⟩ := p
              have hk1 := hexF_le hh
              rw [hh] at HH
              clear hh
              simp only
              have HH2 := Lib.hid (fun w1 hB => hex_any rb s lit tok k1 l w1 hs hk1.1 hB)
              cases hh2 : hexF s lit tok k1 with
              | error x =>
                rw [hh2] at HH2
                clear hh2 hk1
                simp only
                go_enter Tryd.func73, Tryd.ntmps73
                go_wp2_with fail
                refine (C.out).mono ?_
                rintro e w1 ⟨rfl, hB, hO⟩
                have HB := Lib.hid hB
                have HO := Lib.hid hO
                clear hB hO
                go_simp
                go_wp2_with fail
                refine (HH.out _ HB.out).mono ?_
                rintro e w2 ⟨rfl, hB, hO⟩
                have HB2 := Lib.hid hB
                have HO2 := Lib.hid hO
                clear hB hO
                go_simp
                go_wp2_with fail
                refine (HH2.out _ HB2.out).mono ?_
                rintro e w3 ⟨rfl, hO3⟩
                exact ⟨rfl, rfl, (HO.out.trans HO2.out).trans hO3⟩
              | ok p =>
                obtain ⟨lo, k2⟩ := p
                have hk2 := hexF_le hh2
                rw [hh2] at HH2
                clear hh2
                simp only
                have hv : ∀ h l : Nat, h < 16 → l < 16 → ((UInt8.ofNat (h * 16 + l)).toNat : Int) = ((h * 16 + l : Nat) : Int) := by
                  intro h l h1 h2
                  simp
                  omega
                have HV := Lib.hid (hv hi.toNat lo.toNat hk1.2.2 hk2.2.2)
                have b1 : (hi.toNat : Int) < 16 := by omega
                have b2 : (lo.toNat : Int) < 16 := by omega
                clear hk1 hk2 hv
                go_enter Tryd.func73, Tryd.ntmps73
                go_wp2_with fail
                refine (C.out).mono ?_
                rintro e w1 ⟨rfl, hB, hO⟩
                have HB := Lib.hid hB
                have HO := Lib.hid hO
                clear hB hO
                go_simp
                go_wp2_with fail
                refine (HH.out _ HB.out).mono ?_
                rintro e w2 ⟨rfl, hB, hO⟩
                have HB2 := Lib.hid hB
                have HO2 := Lib.hid hO
                clear hB hO
                go_simp
                go_wp2_with fail
                refine (HH2.out _ HB2.out).mono ?_
                rintro e w3 ⟨rfl, hB, hO⟩
                have HB3 := Lib.hid hB
                have HO3 := Lib.hid hO
                clear hB hO
                go_simp
                go_wp2_with fail
                go_ret
                exact ⟨ret_u8 (by rw [HV.out]; exact or_nib ⟨hi.toNat, by omega⟩ ⟨lo.toNat, by omega⟩), HB3.out, (HO.out.trans HO2.out).trans HO3.out⟩
          · rw [if_neg h1]
            have q7 := u8eq b 120 (by decide) h1
            clear h1
            go_enter Tryd.func73, Tryd.ntmps73
            go_wp2_with fail
            refine (C.out).mono ?_
            rintro e w1 ⟨rfl, hB, hO⟩
            have HO := Lib.hid hO
            clear hB hO
            go_simp
            go_wp2_with fail
            refine (fail_any _ _ _).mono ?_
            rintro e w' ⟨rfl, rfl⟩
            exact ⟨rfl, rfl, HO.out⟩
end Go.Proofs.YtpgcklpcohcchaaDoor
