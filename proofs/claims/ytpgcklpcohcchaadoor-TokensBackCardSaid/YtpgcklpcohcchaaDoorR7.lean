/- The reader of tokens: the bytes of a text. -/
import Derived.Test.YtpgcklpcohcchaaDoorR5
namespace Go.Proofs.YtpgcklpcohcchaaDoor
open Go Go.RowKit

/-- A byte that no text has. -/
def badB (b : UInt8) : Bool := decide (b ≠ 9) && decide (b ≠ 10) && (decide (b.toNat < 32) || decide (126 < b.toNat))
def bytesL (s : ByteArray) : Nat → Nat → Option Nat
  | 0, _ => none
  | f + 1, i => if badB (pk s i) then some i else bytesL s f (i + 1)
/-- The fault of the bytes of a text. -/
def bytesF (s : ByteArray) : Option (Nat × Nat) :=
  if 65536 < s.size then some (0, 18) else match bytesL s s.size 0 with
    | some i => some (i, 27)
    | none => none

def BytRes (w : World) (x : Option (Nat × Nat)) (e : Ending) (w' : World) : Prop :=
  match x with
  | some f => e = .panicked (fv f.1 f.2) ∧ w = w'
  | none => e = .returned (.tuple #[]) ∧ w = w'

set_option maxRecDepth 100000 in
set_option maxHeartbeats 800000 in
theorem checkBytes_any (s : ByteArray) (w : World) : Calls Tryd.prog 11 #[.string s] w (BytRes w (bytesF s)) := by
  by_cases hbig : 65536 < s.size
  · have hv : bytesF s = some (0, 18) := by unfold bytesF; rw [if_pos hbig]
    rw [hv]
    have q : (65536 : Int) < (s.size : Int) := by omega
    clear hv hbig
    go_enter Tryd.func11, Tryd.ntmps11
    go_wp2_with (go_at_call 14; refine (fail_any _ _ _).mono ?_; rintro e w' ⟨rfl, rfl⟩)
    exact ⟨rfl, rfl, rfl⟩
  · have hs : s.size ≤ 65536 := by omega
    have hv : bytesF s = match bytesL s s.size 0 with
        | some i => some (i, 27)
        | none => none := by unfold bytesF; rw [if_neg hbig]
    have HV := Lib.hid hv
    have q : ¬ (65536 : Int) < (s.size : Int) := by omega
    clear hv hbig
    go_enter Tryd.func11, Tryd.ntmps11
    go_wp2_with fail
    go_loopg [10] s.size (fun gh s10 wr => ∃ k : Nat, k + gh = s.size ∧ s10 = .int .i64 k ∧ w = wr ∧ bytesL s gh k = bytesL s s.size 0)
    case atStart => exact ⟨0, by omega, rfl, rfl, rfl⟩
    case round =>
      obtain ⟨k, hk, rfl, rfl, hC⟩ := hrel
      have HC := Lib.hid hC
      clear hC
      by_cases hlt : k < s.size
      · obtain ⟨g', rfl⟩ : ∃ g', gk = g' + 1 := ⟨gk - 1, by omega⟩
        have q1 : (k : Int) < (s.size : Int) := by omega
        have q0 : (0 : Int) ≤ (k : Int) := by omega
        have hp := pk_lt hlt
        obtain ⟨b, hb⟩ : ∃ b, s[k] = b := ⟨_, rfl⟩
        rw [hb] at hp
        have hgo : badB b = false → bytesL s g' (k + 1) = bytesL s s.size 0 := fun hh => by
          rw [← HC.out]; conv => rhs; unfold bytesL
          rw [hp, hh]; rfl
        have hbad : badB b = true → bytesF s = some (k, 27) := fun hh => by
          rw [HV.out, ← HC.out]; unfold bytesL; rw [hp, hh]; rfl
        clear hp
        have HGO := Lib.hid hgo
        have HBAD := Lib.hid hbad
        clear hgo hbad
        by_cases h9 : b = 9
        · subst h9
          have hk2 := Lib.hid (HGO.out (by decide))
          go_wp2_with fail
          go_roundg g'
          case rel => exact ⟨k + 1, by omega, by go_num, rfl, hk2.out⟩
          case measure => omega
        · by_cases h10 : b = 10
          · subst h10
            have hk2 := Lib.hid (HGO.out (by decide))
            go_wp2_with fail
            go_roundg g'
            case rel => exact ⟨k + 1, by omega, by go_num, rfl, hk2.out⟩
            case measure => omega
          · have q9 := u8_ne (n := 9) (by decide) h9
            have q10 := u8_ne (n := 10) (by decide) h10
            have d9 : ((b.toNat : Int) == 9) = false := by simpa using q9
            have d10 : ((b.toNat : Int) == 10) = false := by simpa using q10
            have d9' : ((b.toNat : Int) != 9) = true := by simpa using q9
            have d10' : ((b.toNat : Int) != 10) = true := by simpa using q10
            by_cases h32 : b.toNat < 32
            · have hk2 := Lib.hid (HBAD.out (by unfold badB; simp [h9, h10, h32]))
              have q32 : (b.toNat : Int) < 32 := by omega
              clear q9 q10 h9 h10
              go_wp2_with (go_at_call 14; refine (fail_any _ _ _).mono ?_; rintro e w' ⟨rfl, rfl⟩)
              rw [hk2.out]
              exact ⟨rfl, rfl, rfl⟩
            · have q32 : ¬ (b.toNat : Int) < 32 := by omega
              have e32 : decide ((b.toNat : Int) < 32) = false := by simpa using q32
              by_cases h126 : 126 < b.toNat
              · have hk2 := Lib.hid (HBAD.out (by unfold badB; simp [h9, h10, h126]))
                have q126 : (126 : Int) < (b.toNat : Int) := by omega
                clear q9 q10 h9 h10
                go_wp2_with (go_at_call 14; refine (fail_any _ _ _).mono ?_; rintro e w' ⟨rfl, rfl⟩)
                rw [hk2.out]
                exact ⟨rfl, rfl, rfl⟩
              · have hk2 := Lib.hid (HGO.out (by unfold badB; simp [h32, h126]))
                have q126 : ¬ (126 : Int) < (b.toNat : Int) := by omega
                have e126 : decide ((126 : Int) < (b.toNat : Int)) = false := by simpa using q126
                clear q9 q10 h9 h10
                go_wp2_with fail
                go_roundg g'
                case rel => exact ⟨k + 1, by omega, by go_num, rfl, hk2.out⟩
                case measure => omega
      · have q1 : ¬ (k : Int) < (s.size : Int) := by omega
        have hg0 : gk = 0 := by omega
        subst hg0
        have hv2 : bytesF s = none := by rw [HV.out, ← HC.out]; rfl
        have HV2 := Lib.hid hv2
        clear hv2 hlt
        go_wp2_with fail
        go_end0
        rw [HV2.out]
        exact ⟨rfl, rfl⟩
end Go.Proofs.YtpgcklpcohcchaaDoor
