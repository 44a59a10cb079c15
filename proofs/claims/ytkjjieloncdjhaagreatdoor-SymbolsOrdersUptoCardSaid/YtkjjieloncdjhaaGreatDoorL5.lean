/- Names: identifiers. -/
import Derived.Test.YtkjjieloncdjhaaGreatDoorL1
import Derived.Ground.NamesProg
import Derived.Shelf.Strings.SlTrimAscii
import Derived.Test.YtkjjieloncdjhaaGreatDoorProg
namespace Go.Proofs.YtkjjieloncdjhaaGreatDoor
open Go Go.RowKit

theorem ret_bool {a b : Bool} (h : a = b) : Ending.returned (.bool a) = .returned (.bool b) := by rw [h]

/-! ### names -/
def letB (b : UInt8) : Bool := decide (97 ≤ b.toNat ∧ b.toNat ≤ 122) || decide (65 ≤ b.toNat ∧ b.toNat ≤ 90) || decide (b.toNat = 95) || decide (b.toNat = 36)
def digB (b : UInt8) : Bool := decide (48 ≤ b.toNat ∧ b.toNat ≤ 57)

theorem nine (n : Nat) : n < 36 ∨ n = 36 ∨ (37 ≤ n ∧ n < 65) ∨ (65 ≤ n ∧ n ≤ 90) ∨ (91 ≤ n ∧ n < 95) ∨ n = 95 ∨ n = 96 ∨ (97 ≤ n ∧ n ≤ 122) ∨ 122 < n := by omega

set_option maxHeartbeats 2000000 in
theorem isLetter_any (b : UInt8) (w : World) : Calls Tryz.prog 66 #[.int .u8 b.toNat] w fun e w' => e = .returned (.bool (letB b)) ∧ w = w' := by
  unfold letB
  have hb : b.toNat < 256 := b.toNat_lt
  generalize b.toNat = n at *
  rcases nine n with h | rfl | ⟨h, h'⟩ | ⟨h, h'⟩ | ⟨h, h'⟩ | rfl | rfl | ⟨h, h'⟩ | h
  · have hd : (decide (97 ≤ n ∧ n ≤ 122) || decide (65 ≤ n ∧ n ≤ 90) || decide (n = 95) || decide (n = 36)) = false := by simp; omega
    have e1 : ((n : Int) == 95) = false := by simp; omega
    have e2 : ((n : Int) == 36) = false := by simp; omega
    rw [hd]; clear hd
    go_enter Tryz.func66, Tryz.ntmps66
    go_wp2_with fail
    go_ret
    exact ⟨rfl, rfl⟩
  · go_enter Tryz.func66, Tryz.ntmps66
    go_wp2_with fail
    go_ret
    exact ⟨rfl, rfl⟩
  · have hd : (decide (97 ≤ n ∧ n ≤ 122) || decide (65 ≤ n ∧ n ≤ 90) || decide (n = 95) || decide (n = 36)) = false := by simp; omega
    have e1 : ((n : Int) == 95) = false := by simp; omega
    have e2 : ((n : Int) == 36) = false := by simp; omega
    rw [hd]; clear hd
    go_enter Tryz.func66, Tryz.ntmps66
    go_wp2_with fail
    go_ret
    exact ⟨rfl, rfl⟩
  · have hd : (decide (97 ≤ n ∧ n ≤ 122) || decide (65 ≤ n ∧ n ≤ 90) || decide (n = 95) || decide (n = 36)) = true := by simp; omega
    rw [hd]; clear hd
    go_enter Tryz.func66, Tryz.ntmps66
    go_wp2_with fail
    go_ret
    exact ⟨rfl, rfl⟩
  · have hd : (decide (97 ≤ n ∧ n ≤ 122) || decide (65 ≤ n ∧ n ≤ 90) || decide (n = 95) || decide (n = 36)) = false := by simp; omega
    have e1 : ((n : Int) == 95) = false := by simp; omega
    have e2 : ((n : Int) == 36) = false := by simp; omega
    rw [hd]; clear hd
    go_enter Tryz.func66, Tryz.ntmps66
    go_wp2_with fail
    go_ret
    exact ⟨ret_bool (by simp; omega), rfl⟩
  · go_enter Tryz.func66, Tryz.ntmps66
    go_wp2_with fail
    go_ret
    exact ⟨rfl, rfl⟩
  · go_enter Tryz.func66, Tryz.ntmps66
    go_wp2_with fail
    go_ret
    exact ⟨rfl, rfl⟩
  · have hd : (decide (97 ≤ n ∧ n ≤ 122) || decide (65 ≤ n ∧ n ≤ 90) || decide (n = 95) || decide (n = 36)) = true := by simp; omega
    rw [hd]; clear hd
    go_enter Tryz.func66, Tryz.ntmps66
    go_wp2_with fail
    go_ret
    exact ⟨rfl, rfl⟩
  · have hd : (decide (97 ≤ n ∧ n ≤ 122) || decide (65 ≤ n ∧ n ≤ 90) || decide (n = 95) || decide (n = 36)) = false := by simp; omega
    have e1 : ((n : Int) == 95) = false := by simp; omega
    have e2 : ((n : Int) == 36) = false := by simp; omega
    rw [hd]; clear hd
    go_enter Tryz.func66, Tryz.ntmps66
    go_wp2_with fail
    go_ret
    exact ⟨ret_bool (by simp; omega), rfl⟩

/-- Identifiers: letters and digits, no digit in front. -/
def idF : List UInt8 → Bool → Bool
  | [], _ => true
  | b :: l, first => (if digB b then !first else letB b) && idF l false

/-- .. from a place on. -/
def idFrom (s : ByteArray) (k : Nat) : Bool := idF (s.data.toList.drop k) (k == 0)

theorem idFrom_end (s : ByteArray) : idFrom s s.size = true := by
  unfold idFrom
  rw [List.drop_of_length_le (by simp)]
  rfl
theorem idFrom_step (s : ByteArray) (k : Nat) (h : k < s.size) : idFrom s k = ((if digB s[k] then !(k == 0) else letB s[k]) && idFrom s (k + 1)) := by
  unfold idFrom
  have : s.data.toList.drop k = s[k] :: s.data.toList.drop (k + 1) := by
    rw [List.drop_eq_getElem_cons (by simpa using h)]
    rfl
  rw [this]
  simp [idF]

theorem letB_dig (b : UInt8) (h : digB b = true) : letB b = false := by
  unfold digB at h; unfold letB
  have := b.toNat_lt
  simp at h ⊢
  omega

set_option maxHeartbeats 2000000 in
theorem isIdentifier_any (s : ByteArray) (w : World) (hs : s.size ≤ 100000) : Calls Tryz.prog 34 #[.string s] w fun e w' => e = .returned (.bool (idFrom s 0)) ∧ w = w' := by
  go_enter Tryz.func34, Tryz.ntmps34
  go_wp2_with fail
  go_loop [7] (fun i => ∃ k : Nat, k ≤ s.size ∧ i = .int .i64 k ∧ idFrom s k = idFrom s 0) (fun i => s.size - (intOf i).toNat)
  case atStart => exact ⟨0, by omega, rfl, rfl⟩
  case round =>
    obtain ⟨k, hk, rfl, hid⟩ := hrel
    by_cases hlt : k < s.size
    · have hst := idFrom_step s k hlt
      have HST := Lib.hid (hid.symm.trans hst)
      clear hid hst
      have C := Lib.hid (isLetter_any s[k])
      have hb : s[k].toNat < 256 := s[k].toNat_lt
      have hd : digB s[k] = decide (48 ≤ s[k].toNat ∧ s[k].toNat ≤ 57) := rfl
      by_cases hdig : 48 ≤ s[k].toNat ∧ s[k].toNat ≤ 57
      · have q1 : (48 : Int) ≤ (s[k].toNat : Int) := by omega
        have q2 : (s[k].toNat : Int) ≤ 57 := by omega
        have hd1 : digB s[k] = true := by rw [hd]; simp [hdig]
        by_cases hk0 : k = 0
        · subst hk0
          have HE : Hid (((if digB s[0] = true then !(0 == 0) else letB s[0]) && idFrom s (0 + 1)) = false) := Lib.hid (by rw [hd1]; rfl)
          clear hd hd1
          go_wp2_with fail
          go_ret
          exact ⟨ret_bool (HST.out.trans HE.out).symm, rfl⟩
        · have q3 : ((k : Int) == 0) = false := by simp; omega
          have HE : Hid (((if digB s[k] = true then !(k == 0) else letB s[k]) && idFrom s (k + 1)) = idFrom s (k + 1)) := Lib.hid (by
            rw [hd1]
            have : (k == 0) = false := by simpa using hk0
            simp [this])
          clear hd hd1
          go_wp2_with fail
          go_round
          case rel => exact ⟨k + 1, by omega, by go_num, by rw [HST.out, HE.out]⟩
          case measure => simp [intOf]; omega
      · have hd1 : digB s[k] = false := by rw [hd]; simp; omega
        have HE : Hid (((if digB s[k] = true then !(k == 0) else letB s[k]) && idFrom s (k + 1)) = (letB s[k] && idFrom s (k + 1))) := Lib.hid (by rw [hd1]; simp)
        have q : decide ((48 : Int) ≤ (s[k].toNat : Int)) = false ∨ (decide ((48 : Int) ≤ (s[k].toNat : Int)) = true ∧ decide ((s[k].toNat : Int) ≤ 57) = false) := by
          by_cases h48 : 48 ≤ s[k].toNat
          · right; constructor
            · simp; omega
            · simp; omega
          · left; simp; omega
        cases hl : letB s[k] with
        | true =>
          have HL := Lib.hid hl
          rw [hl] at C
          clear hd hd1 hl
          rcases q with q | ⟨q, q'⟩
          all_goals
            go_wp2_with fail
            refine (C.out _).mono ?_
            rintro e w' ⟨rfl, rfl⟩
            go_wp2_with fail
            go_round
            case rel => exact ⟨k + 1, by omega, by go_num, by rw [HST.out, HE.out, HL.out, Bool.true_and]⟩
            case measure => simp [intOf]; omega
        | false =>
          have HL := Lib.hid hl
          rw [hl] at C
          clear hd hd1 hl
          rcases q with q | ⟨q, q'⟩
          all_goals
            go_wp2_with fail
            refine (C.out _).mono ?_
            rintro e w' ⟨rfl, rfl⟩
            go_wp2_with fail
            go_ret
            exact ⟨ret_bool (by rw [HST.out, HE.out, HL.out, Bool.false_and]), rfl⟩
    · have hks : k = s.size := by omega
      subst hks
      have HE := Lib.hid ((idFrom_end s).symm.trans hid)
      clear hid
      go_wp2_with fail
      go_ret
      exact ⟨ret_bool HE.out, rfl⟩
end Go.Proofs.YtkjjieloncdjhaaGreatDoor
namespace Go.Proofs.YtkjjieloncdjhaaGreatDoor
open Go Go.Shelf
def Tryz.lays160_ren : Go.Shelf.Ren := ⟨fun | 160 => 67 | 232 => 104 | 231 => 103 | 227 => 105 | 234 => 107 | 233 => 106 | 236 => 109 | 235 => 108 | 228 => 158 | 271 => 161 | 151 => 160 | 197 => 159 | 120 => 184 | 152 => 183 | 260 => 182 | 137 => 190 | 119 => 191 | 224 => 192 | 225 => 193 | 217 => 198 | 266 => 201 | n => n, fun | 9 => 9 | 4 => 4 | 3 => 3 | 5 => 5 | 117 => 146 | 116 => 145 | 0 => 0 | 124 => 149 | 21 => 21 | 105 => 181 | 46 => 134 | 119 => 211 | 139 => 214 | 138 => 213 | n => n, fun | 3 => 1 | 4 => 2 | n => n⟩
theorem Tryz.lays160 : Go.Proofs.Lays.n160 Tryz.prog Tryz.lays160_ren := {
  mixed := by kernel_rfl
  f119 := Tryz.func191.trans (congrArg some (by kernel_rfl))
  f120 := Tryz.func184.trans (congrArg some (by kernel_rfl))
  f137 := Tryz.func190.trans (congrArg some (by kernel_rfl))
  f151 := Tryz.func160.trans (congrArg some (by kernel_rfl))
  f152 := Tryz.func183.trans (congrArg some (by kernel_rfl))
  f160 := Tryz.func67.trans (congrArg some (by kernel_rfl))
  f197 := Tryz.func159.trans (congrArg some (by kernel_rfl))
  f217 := Tryz.func198.trans (congrArg some (by kernel_rfl))
  f224 := Tryz.func192.trans (congrArg some (by kernel_rfl))
  f225 := Tryz.func193.trans (congrArg some (by kernel_rfl))
  f227 := Tryz.func105.trans (congrArg some (by kernel_rfl))
  f228 := Tryz.func158.trans (congrArg some (by kernel_rfl))
  f231 := Tryz.func103.trans (congrArg some (by kernel_rfl))
  f232 := Tryz.func104.trans (congrArg some (by kernel_rfl))
  f233 := Tryz.func106.trans (congrArg some (by kernel_rfl))
  f234 := Tryz.func107.trans (congrArg some (by kernel_rfl))
  f235 := Tryz.func108.trans (congrArg some (by kernel_rfl))
  f236 := Tryz.func109.trans (congrArg some (by kernel_rfl))
  f260 := Tryz.func182.trans (congrArg some (by kernel_rfl))
  f266 := Tryz.func201.trans (congrArg some (by kernel_rfl))
  f271 := Tryz.func161.trans (congrArg some (by kernel_rfl))
  t0 := Tryz.underlying0
  a0 := Tryz.isAgg0
  z0 := Tryz.sizeOf0
  v0 := Tryz.zeroValue0
  t3 := Tryz.underlying3
  a3 := Tryz.isAgg3
  z3 := Tryz.sizeOf3
  v3 := Tryz.zeroValue3
  t4 := Tryz.underlying4
  a4 := Tryz.isAgg4
  z4 := Tryz.sizeOf4
  v4 := Tryz.zeroValue4
  t5 := Tryz.underlying5
  a5 := Tryz.isAgg5
  z5 := Tryz.sizeOf5
  v5 := Tryz.zeroValue5
  t9 := Tryz.underlying9
  a9 := Tryz.isAgg9
  z9 := Tryz.sizeOf9
  v9 := Tryz.zeroValue9
  t21 := Tryz.underlying21
  a21 := Tryz.isAgg21
  z21 := Tryz.sizeOf21
  v21 := Tryz.zeroValue21
  t46 := Tryz.underlying134
  a46 := Tryz.isAgg134
  z46 := Tryz.sizeOf134
  v46 := Tryz.zeroValue134
  t105 := Tryz.underlying181
  a105 := Tryz.isAgg181
  z105 := Tryz.sizeOf181
  v105 := Tryz.zeroValue181
  t116 := Tryz.underlying145
  a116 := Tryz.isAgg145
  z116 := Tryz.sizeOf145
  t117 := Tryz.underlying146
  a117 := Tryz.isAgg146
  z117 := Tryz.sizeOf146
  v117 := Tryz.zeroValue146
  t119 := Tryz.underlying211
  a119 := Tryz.isAgg211
  z119 := Tryz.sizeOf211
  t124 := Tryz.underlying149
  a124 := Tryz.isAgg149
  z124 := Tryz.sizeOf149
  v124 := Tryz.zeroValue149
  t138 := Tryz.underlying213
  a138 := Tryz.isAgg213
  z138 := Tryz.sizeOf213
  v138 := Tryz.zeroValue213
  t139 := Tryz.underlying214
  a139 := Tryz.isAgg214
  z139 := Tryz.sizeOf214
  v139 := Tryz.zeroValue214
  g3 := by kernel_rfl
  g4 := by kernel_rfl }
end Go.Proofs.YtkjjieloncdjhaaGreatDoor
namespace Go.Proofs.YtkjjieloncdjhaaGreatDoor
open Go Go.RowKit Go.Shelf

/-- The bytes of operators. -/
def opL : List UInt8 := [43, 45, 42, 47, 37, 60, 62, 61, 33, 38, 124, 94, 126, 58, 63]
def opB (b : UInt8) : Bool := opL.contains b
def opF (s : ByteArray) : Bool := s.data.toList.all opB

theorem dropWhile_nil {α : Type} (p : α → Bool) (l : List α) : l.dropWhile p = [] ↔ l.all p = true := by
  induction l with
  | nil => simp
  | cons a l ih =>
    cases h : p a
    · simp [h]
    · simp only [List.dropWhile_cons, h, if_true, ih, List.all_cons, Bool.true_and]

theorem all_dropWhile {α : Type} (p : α → Bool) (l : List α) : (l.dropWhile p).all p = true ↔ l.all p = true := by
  induction l with
  | nil => simp
  | cons a l ih =>
    cases h : p a
    · simp [h]
    · simp only [List.dropWhile_cons, h, if_true, ih, List.all_cons, Bool.true_and]

theorem trimS_nil (l : List UInt8) : Lib.trimS l opL = [] ↔ l.all opB = true := by
  unfold Lib.trimS Lib.trimLeftS Lib.trimRightS
  rw [dropWhile_nil, List.all_reverse]
  exact (all_dropWhile opB l.reverse).trans (by rw [List.all_reverse])

theorem isOperator_any (s : ByteArray) (w : World) (hs : s.size ≤ 100000) : Calls Tryz.prog 35 #[.string s] w fun e w' => e = .returned (.bool (opF s)) ∧ Below w.heap.size w w' := by
  have hcon := Any.strings_Trim_laid Tryz.lays160 (by kernel_rfl) s ⟨#[43, 45, 42, 47, 37, 60, 62, 61, 33, 38, 124, 94, 126, 58, 63]⟩ w (by omega) (by decide) (ascii_of_all (by decide))
  change Calls Tryz.prog 67 _ _ (fun e w' => e = .returned (.string ⟨(Lib.trimS s.data.toList opL).toArray⟩) ∧ Below w.heap.size w w') at hcon
  have hn := trimS_nil s.data.toList
  change _ ↔ opF s = true at hn
  generalize opF s = r at *
  generalize Lib.trimS s.data.toList opL = l at *
  cases r with
  | true =>
    have hl : l = [] := hn.2 rfl
    subst hl
    have H := Lib.hid hcon
    clear hn hcon
    go_enter Tryz.func35, Tryz.ntmps35
    go_wp2_with fail
    refine H.out.mono ?_
    rintro e w1 ⟨rfl, hB⟩
    go_wp2_with fail
    go_ret
    exact ⟨rfl, hB⟩
  | false =>
    have hl : l.isEmpty = false := by
      cases l with
      | nil => exact absurd (hn.1 rfl) (by decide)
      | cons a b => rfl
    have hl2 : (⟨l.toArray⟩ : ByteArray).data.toList.isEmpty = false := by simpa using hl
    have H := Lib.hid hcon
    have HL := Lib.hid hl
    clear hn hcon
    go_enter Tryz.func35, Tryz.ntmps35
    go_wp2_with fail
    refine H.out.mono ?_
    rintro e w1 ⟨rfl, hB⟩
    go_wp2_with fail
    go_ret
    exact ⟨ret_bool (by simp), hB⟩
end Go.Proofs.YtkjjieloncdjhaaGreatDoor
namespace Go.Proofs.YtkjjieloncdjhaaGreatDoor
open Go Go.RowKit

def nameF (s : ByteArray) : Bool := decide (s.size ≠ 0) && (decide (s.size ≤ 64) && (idFrom s 0 || opF s))

theorem empty_of {s : ByteArray} (h : s.size = 0) : s.toList = [] := by
  rw [ByteArray.toList_eq]
  exact List.eq_nil_of_length_eq_zero (by simpa using h)
theorem full_of {s : ByteArray} (h : s.size ≠ 0) : ¬ s.toList = [] := by
  rw [ByteArray.toList_eq]
  intro e
  have : s.data.toList.length = 0 := by rw [e]; rfl
  exact h (by simpa using this)
theorem full_of' {s : ByteArray} (h : s.size ≠ 0) : s.toList.isEmpty = false := by
  cases hq : s.toList.isEmpty with
  | false => rfl
  | true => exact absurd (List.isEmpty_iff.1 hq) (full_of h)

set_option maxHeartbeats 1000000 in
theorem isName_any (s : ByteArray) (w : World) (hs : s.size ≤ 100000) : Calls Tryz.prog 11 #[.string s] w fun e w' => e = .returned (.bool (nameF s)) ∧ Below w.heap.size w w' := by
  have C1 := Lib.hid (isIdentifier_any s w hs)
  have C2 := Lib.hid (isOperator_any s w hs)
  unfold nameF
  by_cases h0 : s.size = 0
  · have q := empty_of h0
    have hd : (decide (s.size ≠ 0) && (decide (s.size ≤ 64) && (idFrom s 0 || opF s))) = false := by simp [h0]
    rw [hd]; clear hd h0
    go_enter Tryz.func11, Tryz.ntmps11
    go_wp2_with fail
    go_ret
    exact ⟨rfl, Below.refl _ _⟩
  · have q := full_of h0
    have q' := full_of' h0
    have hd0 : decide (s.size ≠ 0) = true := by simp [h0]
    rw [hd0, Bool.true_and]
    by_cases h64 : s.size ≤ 64
    · have hd1 : decide (s.size ≤ 64) = true := by simp [h64]
      rw [hd1, Bool.true_and]
      clear hd0 hd1 h0
      cases hi : idFrom s 0 with
      | true =>
        rw [hi] at C1
        clear hi
        rw [Bool.true_or]
        go_enter Tryz.func11, Tryz.ntmps11
        go_wp2_with fail
        refine C1.out.mono ?_
        rintro e w1 ⟨rfl, rfl⟩
        go_wp2_with fail
        go_ret
        exact ⟨rfl, Below.refl _ _⟩
      | false =>
        rw [hi] at C1
        clear hi
        rw [Bool.false_or]
        generalize opF s = r at *
        go_enter Tryz.func11, Tryz.ntmps11
        go_wp2_with fail
        refine C1.out.mono ?_
        rintro e w1 ⟨rfl, rfl⟩
        go_wp2_with fail
        refine C2.out.mono ?_
        rintro e w1 ⟨rfl, hB⟩
        go_wp2_with fail
        go_ret
        exact ⟨rfl, hB⟩
    · have hd1 : decide (s.size ≤ 64) = false := by simp; omega
      rw [hd1, Bool.false_and]
      have q2 : decide ((s.size : Int) ≤ 64) = false := by simp; omega
      clear hd0 hd1 h0
      go_enter Tryz.func11, Tryz.ntmps11
      go_wp2_with fail
      go_ret
      exact ⟨rfl, Below.refl _ _⟩
end Go.Proofs.YtkjjieloncdjhaaGreatDoor
