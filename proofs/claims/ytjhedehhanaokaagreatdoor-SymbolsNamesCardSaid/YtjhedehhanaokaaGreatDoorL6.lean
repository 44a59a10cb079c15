/- Names: what a name is, the reference's. -/
import Derived.Test.YtjhedehhanaokaaGreatDoorL5
namespace Go.Proofs.YtjhedehhanaokaaGreatDoor
open Go Go.RowKit

def opFrom (s : ByteArray) (k : Nat) : Bool := (s.data.toList.drop k).all opB
theorem opFrom_end (s : ByteArray) : opFrom s s.size = true := by
  unfold opFrom
  rw [List.drop_of_length_le (by simp)]
  rfl
theorem opFrom_step (s : ByteArray) (k : Nat) (h : k < s.size) : opFrom s k = (opB s[k] && opFrom s (k + 1)) := by
  unfold opFrom
  have : s.data.toList.drop k = s[k] :: s.data.toList.drop (k + 1) := by
    rw [List.drop_eq_getElem_cons (by simpa using h)]
    rfl
  rw [this]
  simp

abbrev opS : ByteArray := ⟨#[43, 45, 42, 47, 37, 60, 62, 61, 33, 38, 124, 94, 126, 58, 63]⟩

theorem take_has (l : List UInt8) (j : Nat) (h : j < l.length) (b : UInt8) : (l.take (j + 1)).contains b = ((l.take j).contains b || b == l[j]) := by
  rw [List.take_succ_eq_append_getElem h]
  simp only [List.contains_append, Lib.contains_one]
theorem op_at (j : Nat) (h : j < 15) (b : UInt8) : (((opS[j]'h).toNat : Int) == (b.toNat : Int)) = (b == opL[j]'h) := by
  have e : (opS[j]'h) = (opL[j]'h) := rfl
  rw [e]
  rw [Bool.eq_iff_iff]
  simp only [beq_iff_eq]
  constructor
  · intro hh
    exact (UInt8.toNat_inj.1 (by omega)).symm
  · intro hh
    rw [hh]

set_option maxRecDepth 100000 in
set_option maxHeartbeats 4000000 in
theorem refName_any (s : ByteArray) (w : World) (hs : s.size ≤ 100000) : Calls Tryz.prog 12 #[.string s] w fun e w' => e = .returned (.bool (nameF s)) ∧ w = w' := by
  unfold nameF
  by_cases h0 : s.size = 0
  · have q := empty_of h0
    have hd : (decide (s.size ≠ 0) && (decide (s.size ≤ 64) && (idFrom s 0 || opF s))) = false := by simp [h0]
    rw [hd]; clear hd h0
    go_enter Tryz.func12, Tryz.ntmps12
    go_wp2_with fail
    go_ret
    exact ⟨rfl, rfl⟩
  · have q := full_of h0
    have q' := full_of' h0
    have hd0 : decide (s.size ≠ 0) = true := by simp [h0]
    rw [hd0, Bool.true_and]
    by_cases h64 : s.size ≤ 64
    · have hd1 : decide (s.size ≤ 64) = true := by simp [h64]
      rw [hd1, Bool.true_and]
      clear hd0 hd1 h0
      have hopf : opFrom s 0 = opF s := rfl
      have HO := Lib.hid hopf
      clear hopf
      go_enter Tryz.func12, Tryz.ntmps12
      go_wp2_with fail
      go_loop [3, 4, 5] (fun a c i => ∃ (k : Nat) (x y : Bool), k ≤ s.size ∧ i = .int .i64 k ∧ a = .bool x ∧ c = .bool y ∧ (x && idFrom s k) = idFrom s 0 ∧ (y && opFrom s k) = opFrom s 0) (fun _ _ i => s.size - (intOf i).toNat)
      case atStart => exact ⟨0, true, true, by omega, rfl, rfl, rfl, rfl, rfl⟩
      case round =>
        obtain ⟨k, x, y, hk, rfl, rfl, rfl, hx, hy⟩ := hrel
        by_cases hlt : k < s.size
        · have HX := Lib.hid hx
          have HY := Lib.hid hy
          have HI := Lib.hid (idFrom_step s k hlt)
          have HP := Lib.hid (opFrom_step s k hlt)
          have HL := Lib.hid (letB_dig s[k])
          clear hx hy
          have hb : s[k].toNat < 256 := s[k].toNat_lt
          go_upto_region 8 with fail
          go_cut [7] from 27 to 32 (fun d wx => d = .bool (digB s[k]) ∧ w = wx)
          case first =>
            have hDt : 48 ≤ s[k].toNat → s[k].toNat ≤ 57 → digB s[k] = true := fun h1 h2 => by unfold digB; simp [h1, h2]
            have hDf : ¬ (48 ≤ s[k].toNat ∧ s[k].toNat ≤ 57) → digB s[k] = false := fun h => by unfold digB; simpa using h
            have HDt := Lib.hid hDt
            have HDf := Lib.hid hDf
            clear hDt hDf
            generalize digB s[k] = d at *
            generalize s[k].toNat = n at *
            by_cases hA : 48 ≤ n
            · by_cases hB : n ≤ 57
              · have HD := Lib.hid (HDt.out hA hB)
                go_wp2_with fail
                go_meet
                case rel => exact ⟨congrArg Value.bool ((show _ = _ from by first | rfl | (simp; done) | (simp; omega)).trans HD.out.symm), rfl⟩
              · have hd2 : decide ((n : Int) ≤ 57) = false := by simp; omega
                have HD := Lib.hid (HDf.out (by omega))
                go_wp2_with fail
                go_meet
                case rel => exact ⟨congrArg Value.bool HD.out.symm, rfl⟩
            · have hd2 : decide ((48 : Int) ≤ (n : Int)) = false := by simp; omega
              have HD := Lib.hid (HDf.out (by omega))
              go_wp2_with fail
              go_meet
              case rel => exact ⟨congrArg Value.bool HD.out.symm, rfl⟩
          case rest =>
            obtain ⟨rfl, rfl⟩ := hcut
            go_upto_region 9 with fail
            go_cut [8] from 34 to 54 (fun l wx => l = .bool (letB s[k]) ∧ w = wx)
            case first =>
              have HLt := Lib.hid (show ((97 ≤ s[k].toNat ∧ s[k].toNat ≤ 122) ∨ (65 ≤ s[k].toNat ∧ s[k].toNat ≤ 90) ∨ s[k].toNat = 95 ∨ s[k].toNat = 36) → letB s[k] = true from fun h => by unfold letB; simp; omega)
              have HLf := Lib.hid (show ¬ ((97 ≤ s[k].toNat ∧ s[k].toNat ≤ 122) ∨ (65 ≤ s[k].toNat ∧ s[k].toNat ≤ 90) ∨ s[k].toNat = 95 ∨ s[k].toNat = 36) → letB s[k] = false from fun h => by unfold letB; simp; omega)
              generalize letB s[k] = l at *
              generalize digB s[k] = d at *
              generalize s[k].toNat = n at *
              rcases nine n with h | rfl | ⟨h, h'⟩ | ⟨h, h'⟩ | ⟨h, h'⟩ | rfl | rfl | ⟨h, h'⟩ | h
              · have e1 : ((n : Int) == 95) = false := by simp; omega
                have e2 : ((n : Int) == 36) = false := by simp; omega
                have HD := Lib.hid (HLf.out (by omega))
                go_wp2_with fail
                go_meet
                case rel => exact ⟨congrArg Value.bool ((show _ = _ from by first | rfl | (simp; done) | (simp; omega)).trans HD.out.symm), rfl⟩
              · have HD := Lib.hid (HLt.out (by omega))
                go_wp2_with fail
                go_meet
                case rel => exact ⟨congrArg Value.bool ((show _ = _ from by first | rfl | (simp; done) | (simp; omega)).trans HD.out.symm), rfl⟩
              · have e1 : ((n : Int) == 95) = false := by simp; omega
                have e2 : ((n : Int) == 36) = false := by simp; omega
                have HD := Lib.hid (HLf.out (by omega))
                go_wp2_with fail
                go_meet
                case rel => exact ⟨congrArg Value.bool ((show _ = _ from by first | rfl | (simp; done) | (simp; omega)).trans HD.out.symm), rfl⟩
              · have HD := Lib.hid (HLt.out (by omega))
                go_wp2_with fail
                go_meet
                case rel => exact ⟨congrArg Value.bool ((show _ = _ from by first | rfl | (simp; done) | (simp; omega)).trans HD.out.symm), rfl⟩
              · have e1 : ((n : Int) == 95) = false := by simp; omega
                have e2 : ((n : Int) == 36) = false := by simp; omega
                have e3 : decide ((n : Int) ≤ 90) = false := by simp; omega
                have HD := Lib.hid (HLf.out (by omega))
                go_wp2_with fail
                go_meet
                case rel => exact ⟨congrArg Value.bool ((show _ = _ from by first | rfl | (simp; done) | (simp; omega)).trans HD.out.symm), rfl⟩
              · have HD := Lib.hid (HLt.out (by omega))
                go_wp2_with fail
                go_meet
                case rel => exact ⟨congrArg Value.bool ((show _ = _ from by first | rfl | (simp; done) | (simp; omega)).trans HD.out.symm), rfl⟩
              · have HD := Lib.hid (HLf.out (by omega))
                go_wp2_with fail
                go_meet
                case rel => exact ⟨congrArg Value.bool ((show _ = _ from by first | rfl | (simp; done) | (simp; omega)).trans HD.out.symm), rfl⟩
              · have HD := Lib.hid (HLt.out (by omega))
                go_wp2_with fail
                go_meet
                case rel => exact ⟨congrArg Value.bool ((show _ = _ from by first | rfl | (simp; done) | (simp; omega)).trans HD.out.symm), rfl⟩
              · have e1 : ((n : Int) == 95) = false := by simp; omega
                have e2 : ((n : Int) == 36) = false := by simp; omega
                have e3 : decide ((n : Int) ≤ 122) = false := by simp; omega
                have e4 : decide ((n : Int) ≤ 90) = false := by simp; omega
                have HD := Lib.hid (HLf.out (by omega))
                go_wp2_with fail
                go_meet
                case rel => exact ⟨congrArg Value.bool ((show _ = _ from by first | rfl | (simp; done) | (simp; omega)).trans HD.out.symm), rfl⟩
            case rest =>
              obtain ⟨rfl, rfl⟩ := hcut
              go_upto_region 10 with fail
              go_cut [3] from 55 to 65 (fun v wx => v = .bool (x && (letB s[k] || (digB s[k] && decide (0 < k)))) ∧ w = wx)
              case first =>
                generalize letB s[k] = l at *
                generalize digB s[k] = d at *
                cases x with
                | false =>
                  go_wp2_with fail
                  go_meet
                  case rel => exact ⟨rfl, rfl⟩
                | true =>
                  cases l with
                  | true =>
                    go_wp2_with fail
                    go_meet
                    case rel => exact ⟨rfl, rfl⟩
                  | false =>
                    cases d with
                    | false =>
                      go_wp2_with fail
                      go_meet
                      case rel => exact ⟨rfl, rfl⟩
                    | true =>
                      go_wp2_with fail
                      go_meet
                      case rel => exact ⟨congrArg Value.bool (by simp), rfl⟩
              case rest =>
                obtain ⟨rfl, rfl⟩ := hcut
                have HZ := Lib.hid (show ((x && (letB s[k] || (digB s[k] && decide (0 < k)))) && idFrom s (k + 1)) = idFrom s 0 from by
                  rw [← HX.out, HI.out]
                  cases hd : digB s[k] with
                  | true =>
                    rw [HL.out hd]
                    rcases Nat.eq_zero_or_pos k with rfl | h
                    · simp
                    · have : (k == 0) = false := by simp; omega
                      simp [this, h]
                  | false => simp [Bool.and_assoc])
                generalize (x && (letB s[k] || (digB s[k] && decide (0 < k)))) = x' at *
                generalize letB s[k] = l at *
                generalize digB s[k] = d at *
                generalize s[k] = b at *
                go_wp2_with fail
                go_loop [9, 10] (fun v j => ∃ jj : Nat, jj ≤ 15 ∧ j = .int .i64 jj ∧ v = .bool ((opL.take jj).contains b)) (fun _ j => 15 - (intOf j).toNat)
                case atStart => exact ⟨0, by omega, rfl, rfl⟩
                case round =>
                  obtain ⟨jj, hj, rfl, rfl⟩ := hrel
                  have hb2 := hb
                  by_cases hlj : jj < 15
                  · have HTK := Lib.hid (take_has opL jj hlj b)
                    generalize (opL.take jj).contains b = v at *
                    cases v with
                    | true =>
                      go_wp2_with fail
                      go_round
                      case rel => exact ⟨jj + 1, by omega, by go_num, congrArg Value.bool (HTK.out.trans (Bool.true_or _)).symm⟩
                      case measure => simp [intOf]; omega
                    | false =>
                      go_wp2_with fail
                      go_round
                      case rel =>
                        refine ⟨jj + 1, by omega, by go_num, congrArg Value.bool ?_⟩
                        rw [HTK.out, Bool.false_or]
                        exact op_at jj hlj b
                      case measure => simp [intOf]; omega
                  · have hj15 : jj = 15 := by omega
                    subst hj15
                    have ho2 : (opL.take 15).contains b = opB b := rfl
                    rw [ho2]; clear ho2
                    have HQ := Lib.hid (show ((y && opB b) && opFrom s (k + 1)) = opFrom s 0 from by rw [← HY.out, HP.out, Bool.and_assoc])
                    generalize opB b = o at *
                    cases y with
                    | true =>
                      go_wp2_with fail
                      go_round
                      case rel => exact ⟨k + 1, x', o, by omega, by go_num, rfl, rfl, HZ.out, by simpa using HQ.out⟩
                      case measure => simp [intOf]; omega
                    | false =>
                      go_wp2_with fail
                      go_round
                      case rel => exact ⟨k + 1, x', false, by omega, by go_num, rfl, rfl, HZ.out, by simpa using HQ.out⟩
                      case measure => simp [intOf]; omega
        · have hks : k = s.size := by omega
          subst hks
          have HE := Lib.hid (show (x || y) = (idFrom s 0 || opF s) from by
            rw [← hx, ← HO.out, ← hy, idFrom_end, opFrom_end, Bool.and_true, Bool.and_true])
          clear hx hy
          cases x with
          | true =>
            go_wp2_with fail
            go_ret
            exact ⟨ret_bool HE.out, rfl⟩
          | false =>
            go_wp2_with fail
            go_ret
            exact ⟨ret_bool HE.out, rfl⟩
    · have hd1 : decide (s.size ≤ 64) = false := by simp; omega
      rw [hd1, Bool.false_and]
      have q2 : decide ((s.size : Int) ≤ 64) = false := by simp; omega
      clear hd0 hd1 h0
      go_enter Tryz.func12, Tryz.ntmps12
      go_wp2_with fail
      go_ret
      exact ⟨rfl, rfl⟩
end Go.Proofs.YtjhedehhanaokaaGreatDoor
