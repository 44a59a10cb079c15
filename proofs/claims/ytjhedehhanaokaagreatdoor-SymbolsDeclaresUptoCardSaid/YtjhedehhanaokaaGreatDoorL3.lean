/- Names: identifiers. -/
import Derived.Test.YtjhedehhanaokaaGreatDoorL1
namespace Go.Proofs.YtjhedehhanaokaaGreatDoor
open Go Go.RowKit

theorem ret_bool {a b : Bool} (h : a = b) : Ending.returned (.bool a) = .returned (.bool b) := by rw [h]

/-! ### names -/
def letB (b : UInt8) : Bool := decide (97 ≤ b.toNat ∧ b.toNat ≤ 122) || decide (65 ≤ b.toNat ∧ b.toNat ≤ 90) || decide (b.toNat = 95) || decide (b.toNat = 36)
def digB (b : UInt8) : Bool := decide (48 ≤ b.toNat ∧ b.toNat ≤ 57)

theorem nine (n : Nat) : n < 36 ∨ n = 36 ∨ (37 ≤ n ∧ n < 65) ∨ (65 ≤ n ∧ n ≤ 90) ∨ (91 ≤ n ∧ n < 95) ∨ n = 95 ∨ n = 96 ∨ (97 ≤ n ∧ n ≤ 122) ∨ 122 < n := by omega

set_option maxHeartbeats 2000000 in
theorem isLetter_any (b : UInt8) (w : World) : Calls Tryz.prog 66 #[.int .u8 b.toNat] w fun e w' => e = .returned (.bool (letB b)) ∧ w = w' := by
  unfold letB
  have hb : b.toNat < 256 := b.toNat_lt
  generalize b.toNat = n at *
  rcases nine n with h | rfl | ⟨h, h'⟩ | ⟨h, h'⟩ | ⟨h, h'⟩ | rfl | rfl | ⟨h, h'⟩ | h
  · have hd : (decide (97 ≤ n ∧ n ≤ 122) || decide (65 ≤ n ∧ n ≤ 90) || decide (n = 95) || decide (n = 36)) = false := by simp; omega
    have e1 : ((n : Int) == 95) = false := by simp; omega
    have e2 : ((n : Int) == 36) = false := by simp; omega
    rw [hd]; clear hd
    go_enter Tryz.func66, Tryz.ntmps66
    go_wp2_with fail
    go_ret
    exact ⟨rfl, rfl⟩
  · go_enter Tryz.func66, Tryz.ntmps66
    go_wp2_with fail
    go_ret
    exact ⟨rfl, rfl⟩
  · have hd : (decide (97 ≤ n ∧ n ≤ 122) || decide (65 ≤ n ∧ n ≤ 90) || decide (n = 95) || decide (n = 36)) = false := by simp; omega
    have e1 : ((n : Int) == 95) = false := by simp; omega
    have e2 : ((n : Int) == 36) = false := by simp; omega
    rw [hd]; clear hd
    go_enter Tryz.func66, Tryz.ntmps66
    go_wp2_with fail
    go_ret
    exact ⟨rfl, rfl⟩
  · have hd : (decide (97 ≤ n ∧ n ≤ 122) || decide (65 ≤ n ∧ n ≤ 90) || decide (n = 95) || decide (n = 36)) = true := by simp; omega
    rw [hd]; clear hd
    go_enter Tryz.func66, Tryz.ntmps66
    go_wp2_with fail
    go_ret
    exact ⟨rfl, rfl⟩
  · have hd : (decide (97 ≤ n ∧ n ≤ 122) || decide (65 ≤ n ∧ n ≤ 90) || decide (n = 95) || decide (n = 36)) = false := by simp; omega
    have e1 : ((n : Int) == 95) = false := by simp; omega
    have e2 : ((n : Int) == 36) = false := by simp; omega
    rw [hd]; clear hd
    go_enter Tryz.func66, Tryz.ntmps66
    go_wp2_with fail
    go_ret
    exact ⟨ret_bool (by simp; omega), rfl⟩
  · go_enter Tryz.func66, Tryz.ntmps66
    go_wp2_with fail
    go_ret
    exact ⟨rfl, rfl⟩
  · go_enter Tryz.func66, Tryz.ntmps66
    go_wp2_with fail
    go_ret
    exact ⟨rfl, rfl⟩
  · have hd : (decide (97 ≤ n ∧ n ≤ 122) || decide (65 ≤ n ∧ n ≤ 90) || decide (n = 95) || decide (n = 36)) = true := by simp; omega
    rw [hd]; clear hd
    go_enter Tryz.func66, Tryz.ntmps66
    go_wp2_with fail
    go_ret
    exact ⟨rfl, rfl⟩
  · have hd : (decide (97 ≤ n ∧ n ≤ 122) || decide (65 ≤ n ∧ n ≤ 90) || decide (n = 95) || decide (n = 36)) = false := by simp; omega
    have e1 : ((n : Int) == 95) = false := by simp; omega
    have e2 : ((n : Int) == 36) = false := by simp; omega
    rw [hd]; clear hd
    go_enter Tryz.func66, Tryz.ntmps66
    go_wp2_with fail
    go_ret
    exact ⟨ret_bool (by simp; omega), rfl⟩

/-- Identifiers: letters and digits, no digit in front. -/
def idF : List UInt8 → Bool → Bool
  | [], _ => true
  | b :: l, first => (if digB b then !first else letB b) && idF l false

/-- .. from a place on. -/
def idFrom (s : ByteArray) (k : Nat) : Bool := idF (s.data.toList.drop k) (k == 0)

theorem idFrom_end (s : ByteArray) : idFrom s s.size = true := by
  unfold idFrom
  rw [List.drop_of_length_le (by simp)]
  rfl
theorem idFrom_step (s : ByteArray) (k : Nat) (h : k < s.size) : idFrom s k = ((if digB s[k] then !(k == 0) else letB s[k]) && idFrom s (k + 1)) := by
  unfold idFrom
  have : s.data.toList.drop k = s[k] :: s.data.toList.drop (k + 1) := by
    rw [List.drop_eq_getElem_cons (by simpa using h)]
    rfl
  rw [this]
  simp [idF]

theorem letB_dig (b : UInt8) (h : digB b = true) : letB b = false := by
  unfold digB at h; unfold letB
  have := b.toNat_lt
  simp at h ⊢
  omega

set_option maxHeartbeats 2000000 in
theorem isIdentifier_any (s : ByteArray) (w : World) (hs : s.size ≤ 100000) : Calls Tryz.prog 34 #[.string s] w fun e w' => e = .returned (.bool (idFrom s 0)) ∧ w = w' := by
  go_enter Tryz.func34, Tryz.ntmps34
  go_wp2_with fail
  go_loop [7] (fun i => ∃ k : Nat, k ≤ s.size ∧ i = .int .i64 k ∧ idFrom s k = idFrom s 0) (fun i => s.size - (intOf i).toNat)
  case atStart => exact ⟨0, by omega, rfl, rfl⟩
  case round =>
    obtain ⟨k, hk, rfl, hid⟩ := hrel
    by_cases hlt : k < s.size
    · have hst := idFrom_step s k hlt
      have HST := Lib.hid (hid.symm.trans hst)
      clear hid hst
      have C := Lib.hid (isLetter_any s[k])
      have hb : s[k].toNat < 256 := s[k].toNat_lt
      have hd : digB s[k] = decide (48 ≤ s[k].toNat ∧ s[k].toNat ≤ 57) := rfl
      by_cases hdig : 48 ≤ s[k].toNat ∧ s[k].toNat ≤ 57
      · have q1 : (48 : Int) ≤ (s[k].toNat : Int) := by omega
        have q2 : (s[k].toNat : Int) ≤ 57 := by omega
        have hd1 : digB s[k] = true := by rw [hd]; simp [hdig]
        by_cases hk0 : k = 0
        · subst hk0
          have HE : Hid (((if digB s[0] = true then !(0 == 0) else letB s[0]) && idFrom s (0 + 1)) = false) := Lib.hid (by rw [hd1]; rfl)
          clear hd hd1
          go_wp2_with fail
          go_ret
          exact ⟨ret_bool (HST.out.trans HE.out).symm, rfl⟩
        · have q3 : ((k : Int) == 0) = false := by simp; omega
          have HE : Hid (((if digB s[k] = true then !(k == 0) else letB s[k]) && idFrom s (k + 1)) = idFrom s (k + 1)) := Lib.hid (by
            rw [hd1]
            have : (k == 0) = false := by simpa using hk0
            simp [this])
          clear hd hd1
          go_wp2_with fail
          go_round
          case rel => exact ⟨k + 1, by omega, by go_num, by rw [HST.out, HE.out]⟩
          case measure => simp [intOf]; omega
      · have hd1 : digB s[k] = false := by rw [hd]; simp; omega
        have HE : Hid (((if digB s[k] = true then !(k == 0) else letB s[k]) && idFrom s (k + 1)) = (letB s[k] && idFrom s (k + 1))) := Lib.hid (by rw [hd1]; simp)
        have q : decide ((48 : Int) ≤ (s[k].toNat : Int)) = false ∨ (decide ((48 : Int) ≤ (s[k].toNat : Int)) = true ∧ decide ((s[k].toNat : Int) ≤ 57) = false) := by
          by_cases h48 : 48 ≤ s[k].toNat
          · right; constructor
            · simp; omega
            · simp; omega
          · left; simp; omega
        cases hl : letB s[k] with
        | true =>
          have HL := Lib.hid hl
          rw [hl] at C
          clear hd hd1 hl
          rcases q with q | ⟨q, q'⟩
          all_goals
            go_wp2_with fail
            refine (C.out _).mono ?_
            rintro e w' ⟨rfl, rfl⟩
            go_wp2_with fail
            go_round
            case rel => exact ⟨k + 1, by omega, by go_num, by rw [HST.out, HE.out, HL.out, Bool.true_and]⟩
            case measure => simp [intOf]; omega
        | false =>
          have HL := Lib.hid hl
          rw [hl] at C
          clear hd hd1 hl
          rcases q with q | ⟨q, q'⟩
          all_goals
            go_wp2_with fail
            refine (C.out _).mono ?_
            rintro e w' ⟨rfl, rfl⟩
            go_wp2_with fail
            go_ret
            exact ⟨ret_bool (by rw [HST.out, HE.out, HL.out, Bool.false_and]), rfl⟩
    · have hks : k = s.size := by omega
      subst hks
      have HE := Lib.hid ((idFrom_end s).symm.trans hid)
      clear hid
      go_wp2_with fail
      go_ret
      exact ⟨ret_bool HE.out, rfl⟩
end Go.Proofs.YtjhedehhanaokaaGreatDoor
