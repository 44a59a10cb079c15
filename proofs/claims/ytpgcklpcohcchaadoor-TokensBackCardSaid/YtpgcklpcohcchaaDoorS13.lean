/- The reader of tokens: the method that reads the token at hand. -/
import Derived.Test.YtpgcklpcohcchaaDoorS12
import Derived.Test.YtpgcklpcohcchaaDoorS11
namespace Go.Proofs.YtpgcklpcohcchaaDoor
open Go Go.RowKit

def quotK (b c : UInt8) : Nat := if b = 34 then 51 else if b = 39 ∧ c ≠ 123 then 52 else if b = 39 ∨ (b = 36 ∧ c = 123) then 30 else 53

/-- A method of the reader as a value. -/
def mv (rb k : Nat) : Value := .func (.func k) #[.pointer (some ⟨rb, 0, none⟩)] #[]

theorem hmf : ∀ (fn : Fn) (first cap : Array Value) (w : World), (Instr.makeFunc fn first cap).run Tryd.prog w = .ok (.func fn first cap) w := fun _ _ _ _ => rfl

set_option maxRecDepth 100000 in
set_option maxHeartbeats 3200000 in
theorem quoted_any (rb : Nat) (s : ByteArray) (a : Nat) (b : UInt8) (w : World) (hs : s.size ≤ 65536) (ha : a ≤ s.size) (h0 : w.cell? ⟨rb, 0, none⟩ = some (.string s)) (h1 : w.cell? ⟨rb, 1, none⟩ = some (.int .i64 a)) :
    Calls Tryd.prog 33 #[.pointer (some ⟨rb, 0, none⟩), .int .u8 b.toNat] w fun e w' => e = .returned (mv rb (quotK b (pk s (a + 1)))) ∧ ∃ k, w' = w.drewN k := by
  have P1 := Lib.hid (peek1 rb s a w hs (by omega) h0 h1)
  have hmf := hmf
  generalize pk s (a + 1) = c at *
  clear h0 h1 hs ha
  unfold quotK
  by_cases h34 : b = 34
  · subst h34
    rw [if_pos rfl]
    by_cases h123 : c = 123
    · subst h123
      go_enter Tryd.func33, Tryd.ntmps33
      go_wp2_with fail
      refine (P1.out).mono ?_
      rintro e w4 ⟨rfl, n1, rfl⟩
      go_simp
      go_wp2_with fail
      go_ret
      exact ⟨rfl, _, rfl⟩
    · have q1 : ((c.toNat : Int) == 123) = false := u8eq c 123 (by decide) h123
      clear h123
      go_enter Tryd.func33, Tryd.ntmps33
      go_wp2_with fail
      refine (P1.out).mono ?_
      rintro e w4 ⟨rfl, n1, rfl⟩
      go_simp
      go_wp2_with fail
      go_ret
      exact ⟨rfl, _, rfl⟩
  · rw [if_neg h34]
    have q34 : ((b.toNat : Int) == 34) = false := u8eq b 34 (by decide) h34
    clear h34
    by_cases h39 : b = 39
    · subst h39
      clear q34
      by_cases h123 : c = 123
      · subst h123
        have e1 : (if (39 : UInt8) = 39 ∧ (123 : UInt8) ≠ 123 then 52 else if (39 : UInt8) = 39 ∨ ((39 : UInt8) = 36 ∧ (123 : UInt8) = 123) then 30 else 53) = 30 := by decide
        rw [e1]
        clear e1
        go_enter Tryd.func33, Tryd.ntmps33
        go_wp2_with fail
        refine (P1.out).mono ?_
        rintro e w4 ⟨rfl, n1, rfl⟩
        go_simp
        go_wp2_with fail
        go_ret
        exact ⟨rfl, _, rfl⟩
      · rw [if_pos ⟨rfl, h123⟩]
        have q1 : ((c.toNat : Int) == 123) = false := u8eq c 123 (by decide) h123
        clear h123
        go_enter Tryd.func33, Tryd.ntmps33
        go_wp2_with fail
        refine (P1.out).mono ?_
        rintro e w4 ⟨rfl, n1, rfl⟩
        go_simp
        go_wp2_with fail
        go_ret
        exact ⟨rfl, _, rfl⟩
    · have q39 : ((b.toNat : Int) == 39) = false := u8eq b 39 (by decide) h39
      rw [if_neg (fun e => h39 e.1)]
      by_cases h36 : b = 36
      · subst h36
        clear q34 q39
        by_cases h123 : c = 123
        · subst h123
          rw [if_pos (.inr ⟨rfl, rfl⟩)]
          go_enter Tryd.func33, Tryd.ntmps33
          go_wp2_with fail
          refine (P1.out).mono ?_
          rintro e w4 ⟨rfl, n1, rfl⟩
          go_simp
          go_wp2_with fail
          go_ret
          exact ⟨rfl, _, rfl⟩
        · rw [if_neg (fun e => by rcases e with e | e; exact h39 e; exact h123 e.2)]
          have q1 : ((c.toNat : Int) == 123) = false := u8eq c 123 (by decide) h123
          clear h123 h39
          go_enter Tryd.func33, Tryd.ntmps33
          go_wp2_with fail
          refine (P1.out).mono ?_
          rintro e w4 ⟨rfl, n1, rfl⟩
          go_simp
          go_wp2_with fail
          go_ret
          exact ⟨rfl, _, rfl⟩
      · rw [if_neg (fun e => by rcases e with e | e; exact h39 e; exact h36 e.1)]
        have q36 : ((b.toNat : Int) == 36) = false := u8eq b 36 (by decide) h36
        clear h36 h39
        by_cases h123 : c = 123
        · subst h123
          go_enter Tryd.func33, Tryd.ntmps33
          go_wp2_with fail
          refine (P1.out).mono ?_
          rintro e w4 ⟨rfl, n1, rfl⟩
          go_simp
          go_wp2_with fail
          go_ret
          exact ⟨rfl, _, rfl⟩
        · have q1 : ((c.toNat : Int) == 123) = false := u8eq c 123 (by decide) h123
          clear h123
          go_enter Tryd.func33, Tryd.ntmps33
          go_wp2_with fail
          refine (P1.out).mono ?_
          rintro e w4 ⟨rfl, n1, rfl⟩
          go_simp
          go_wp2_with fail
          go_ret
          exact ⟨rfl, _, rfl⟩

def scanK (b c : UInt8) : Nat := if cls b = 0 then quotK b c else 26 + cls b

set_option maxRecDepth 100000 in
set_option maxHeartbeats 3200000 in
theorem scanner_any (rb : Nat) (s : ByteArray) (a : Nat) (w : World) (hs : s.size ≤ 65536) (ha : a ≤ s.size) (h0 : w.cell? ⟨rb, 0, none⟩ = some (.string s)) (h1 : w.cell? ⟨rb, 1, none⟩ = some (.int .i64 a)) (htb : Tab w) :
    Calls Tryd.prog 13 #[.pointer (some ⟨rb, 0, none⟩)] w fun e w' => e = .returned (mv rb (scanK (pk s a) (pk s (a + 1)))) ∧ ∃ k, w' = w.drewN k := by
  have P0 := Lib.hid (peek0 rb s a w hs (by omega) h0 h1)
  have CC := Lib.hid (fun n => classOf_any (pk s a) (w.drewN n) (fun i hi => htb i hi))
  have CQ := Lib.hid (fun n => quoted_any rb s a (pk s a) (w.drewN n) hs ha h0 h1)
  have hmf := hmf
  have hl := cls_lt (pk s a)
  unfold scanK
  generalize quotK (pk s a) (pk s (a + 1)) = kq at *
  generalize pk s a = b at *
  clear h0 h1 htb hs ha
  generalize cls b = m at *
  obtain rfl | rfl | rfl | rfl | rfl | rfl | rfl : m = 0 ∨ m = 1 ∨ m = 2 ∨ m = 3 ∨ m = 4 ∨ m = 5 ∨ m = 6 := by omega
  · rw [if_pos rfl]
    go_enter Tryd.func13, Tryd.ntmps13
    go_wp2_with fail
    refine (P0.out).mono ?_
    rintro e w4 ⟨rfl, n1, rfl⟩
    go_simp
    go_wp2_with fail
    refine (CC.out _).mono ?_
    rintro e w4 ⟨rfl, rfl⟩
    go_simp
    go_wp2_with fail
    refine (CQ.out _).mono ?_
    rintro e w4 ⟨rfl, n2, rfl⟩
    go_simp
    go_wp2_with fail
    go_ret
    exact ⟨rfl, _, rfl⟩
  all_goals
    rw [if_neg (by decide)]
    go_enter Tryd.func13, Tryd.ntmps13
    go_wp2_with fail
    refine (P0.out).mono ?_
    rintro e w4 ⟨rfl, n1, rfl⟩
    go_simp
    go_wp2_with fail
    refine (CC.out _).mono ?_
    rintro e w4 ⟨rfl, rfl⟩
    go_simp
    go_wp2_with fail
    go_ret
    exact ⟨rfl, _, rfl⟩
end Go.Proofs.YtpgcklpcohcchaaDoor
