/- The reader of tokens: how it goes on in the text. The reader of tokens: comments. The reader of tokens: words. The reader of tokens: comments that may stand in one another. The reader of tokens: to the next token. -/
import Derived.Test.YtpgcklpcohcchaaDoorA3
namespace Go.Proofs.YtpgcklpcohcchaaDoor
open Go Go.RowKit

/-- The offset of the end of the line. -/
def lineTo (s : ByteArray) : Nat → Nat → Nat
  | 0, a => a
  | f + 1, a => if a < s.size ∧ pk s a ≠ 10 then lineTo s f (a + 1) else a

theorem u8_ne {b : UInt8} {n : Nat} (hn : n < 256) (h : b ≠ UInt8.ofNat n) : ¬ (b.toNat : Int) = (n : Int) := by
  intro e
  apply h
  apply UInt8.toNat_inj.1
  rw [UInt8.toNat_ofNat']
  omega

set_option maxRecDepth 100000 in
set_option maxHeartbeats 3200000 in
theorem skipLine_any (rb : Nat) (s : ByteArray) (a : Nat) (l : List Value) (w : World) (hs : s.size ≤ 65536) (ha : a ≤ s.size) (h : Bl w rb 42 (.string s :: .int .i64 a :: l)) :
    Calls Tryd.prog 24 #[.pointer (some ⟨rb, 0, none⟩)] w fun e w' => e = .returned (.tuple #[]) ∧ Bl w' rb 42 (.string s :: .int .i64 (lineTo s (s.size - a) a : Nat) :: l) ∧ Og rb w w' := by
  have H := Lib.hid h
  have HA := Lib.hid ha
  clear h ha
  go_enter Tryd.func24, Tryd.ntmps24
  go_wp2_with fail
  go_loopg [] (s.size - a) (fun gh wr => ∃ k : Nat, k + gh = s.size ∧ Bl wr rb 42 (.string s :: .int .i64 k :: l) ∧ Og rb w wr ∧ lineTo s gh k = lineTo s (s.size - a) a)
  case atStart => exact ⟨a, by have := HA.out; omega, H.out, Og.refl _ _, rfl⟩
  case round =>
    obtain ⟨k, hk, hB, hO, hV⟩ := hrel
    have c0 : wr.cell? ⟨rb, 0, none⟩ = some (.string s) := hB.cell 0
    have c1 : wr.cell? ⟨rb, 1, none⟩ = some (.int .i64 k) := hB.cell 1
    have f1 : ∀ n, (wr.drewN n).frozen? ⟨rb, 1, none⟩ = false := fun n => hB.froz 1
    have HB := Lib.hid hB
    have HO := Lib.hid hO
    have HV := Lib.hid hV
    clear hB hO hV
    by_cases hlt : k < s.size
    · have q1 : (k : Int) < (s.size : Int) := by omega
      have hp := pk_lt hlt
      obtain ⟨b, hb⟩ : ∃ b, s[k] = b := ⟨_, rfl⟩
      rw [hb] at hp
      by_cases h10 : b = 10
      · subst h10
        go_wp2_with fail
        go_quiet (fail)
        go_wp2_with fail
        go_end0
        have hv : lineTo s gk k = k := by
          obtain ⟨g', rfl⟩ : ∃ g', gk = g' + 1 := ⟨gk - 1, by omega⟩
          unfold lineTo; rw [hp]; simp
        exact ⟨rfl, by rw [← HV.out, hv]; exact HB.out.drewN _, HO.out.drewN _⟩
      · have h10' : ¬ (b.toNat : Int) = 10 := u8_ne (n := 10) (by decide) h10
        go_wp2_with fail
        go_quiet (fail)
        go_wp2_with fail
        obtain ⟨g', rfl⟩ : ∃ g', gk = g' + 1 := ⟨gk - 1, by omega⟩
        have hv : lineTo s (g' + 1) k = lineTo s g' (k + 1) := by
          conv => lhs; unfold lineTo
          rw [hp]; simp [hlt, h10]
        go_roundg g'
        case rel => exact ⟨k + 1, by omega, (HB.out.drewN _).set 1 _, (HO.out.drewN _).set 1 _, hv.symm.trans HV.out⟩
        case measure => omega
    · have q1 : decide ((k : Int) < (s.size : Int)) = false := by simp; omega
      go_wp2_with fail
      go_quiet (fail)
      go_wp2_with fail
      go_end0
      have hv : lineTo s gk k = k := by
        have : gk = 0 := by omega
        subst this; rfl
      exact ⟨rfl, by rw [← HV.out, hv]; exact HB.out.drewN _, HO.out.drewN _⟩
end Go.Proofs.YtpgcklpcohcchaaDoor
namespace Go.Proofs.YtpgcklpcohcchaaDoor
open Go Go.RowKit

/-- Does a comment begin here? -/
def comB (s : ByteArray) (a : Nat) : Bool := pk s a == 47 && (pk s (a + 1) == 47 || pk s (a + 1) == 42)

set_option maxRecDepth 100000 in
set_option maxHeartbeats 3200000 in
theorem comment_any (rb : Nat) (s : ByteArray) (a : Nat) (w : World) (hs : s.size ≤ 65536) (ha : a ≤ 70000)
    (h0 : w.cell? ⟨rb, 0, none⟩ = some (.string s)) (h1 : w.cell? ⟨rb, 1, none⟩ = some (.int .i64 a)) :
    Calls Tryd.prog 23 #[.pointer (some ⟨rb, 0, none⟩)] w fun e w' => e = .returned (.bool (comB s a)) ∧ ∃ k, w' = w.drewN k := by
  have C0 := Lib.hid (peek0 rb s a w hs ha h0 h1)
  have C1 := Lib.hid (fun n => peek1 rb s a (w.drewN n) hs ha h0 h1)
  clear h0 h1
  unfold comB
  obtain ⟨b, hb⟩ : ∃ b, pk s a = b := ⟨_, rfl⟩
  obtain ⟨c, hc⟩ : ∃ c, pk s (a + 1) = c := ⟨_, rfl⟩
  rw [hb] at C0 ⊢
  rw [hc] at C1 ⊢
  clear hb hc hs ha
  by_cases h47 : b = 47
  · subst h47
    by_cases k47 : c = 47
    · subst k47
      go_enter Tryd.func23, Tryd.ntmps23
      go_wp2_with fail
      refine C0.out.mono ?_
      rintro e w1 ⟨rfl, n1, rfl⟩
      go_simp
      go_wp2_with fail
      refine (C1.out n1).mono ?_
      rintro e w1 ⟨rfl, n2, rfl⟩
      go_simp
      go_wp2_with fail
      go_ret
      exact ⟨rfl, _, rfl⟩
    · have q47 := u8_ne (n := 47) (by decide) k47
      by_cases k42 : c = 42
      · subst k42
        go_enter Tryd.func23, Tryd.ntmps23
        go_wp2_with fail
        refine C0.out.mono ?_
        rintro e w1 ⟨rfl, n1, rfl⟩
        go_simp
        go_wp2_with fail
        refine (C1.out n1).mono ?_
        rintro e w1 ⟨rfl, n2, rfl⟩
        go_simp
        go_wp2_with fail
        refine (C1.out _).mono ?_
        rintro e w1 ⟨rfl, n3, rfl⟩
        go_simp
        go_wp2_with fail
        go_ret
        exact ⟨rfl, _, rfl⟩
      · have q42 := u8_ne (n := 42) (by decide) k42
        have e1 : (c == 47) = false := by simpa using k47
        have e2 : (c == 42) = false := by simpa using k42
        have d1 : ((c.toNat : Int) == 47) = false := by simpa using q47
        have d2 : ((c.toNat : Int) == 42) = false := by simpa using q42
        rw [e1, e2]
        clear e1 e2 k47 k42 q47 q42
        go_enter Tryd.func23, Tryd.ntmps23
        go_wp2_with fail
        refine C0.out.mono ?_
        rintro e w1 ⟨rfl, n1, rfl⟩
        go_simp
        go_wp2_with fail
        refine (C1.out n1).mono ?_
        rintro e w1 ⟨rfl, n2, rfl⟩
        go_simp
        go_wp2_with fail
        refine (C1.out _).mono ?_
        rintro e w1 ⟨rfl, n3, rfl⟩
        go_simp
        go_wp2_with fail
        go_ret
        exact ⟨rfl, _, rfl⟩
  · have q47 := u8_ne (n := 47) (by decide) h47
    have e1 : (b == 47) = false := by simpa using h47
    have d1 : ((b.toNat : Int) == 47) = false := by simpa using q47
    rw [e1]
    clear e1 h47 q47
    go_enter Tryd.func23, Tryd.ntmps23
    go_wp2_with fail
    refine C0.out.mono ?_
    rintro e w1 ⟨rfl, n1, rfl⟩
    go_simp
    go_wp2_with fail
    go_ret
    exact ⟨rfl, _, rfl⟩
end Go.Proofs.YtpgcklpcohcchaaDoor
namespace Go.Proofs.YtpgcklpcohcchaaDoor
open Go Go.RowKit

/-- The offset behind the letters and digits that stand here. -/
def wordTo (s : ByteArray) : Nat → Nat → Nat
  | 0, a => a
  | f + 1, a => if inW (pk s a) then wordTo s f (a + 1) else a

theorem inW_zero : inW 0 = false := by decide +kernel
theorem inW_lt {s : ByteArray} {a : Nat} (h : inW (pk s a) = true) : a < s.size := by
  apply Classical.byContradiction
  intro hn
  rw [pk_ge hn, inW_zero] at h
  cases h
theorem wordTo_le (s : ByteArray) : ∀ (f a : Nat), a ≤ s.size → wordTo s f a ≤ s.size ∧ a ≤ wordTo s f a := by
  intro f
  induction f with
  | zero => intro a h; exact ⟨h, Nat.le_refl _⟩
  | succ f ih =>
    intro a h
    unfold wordTo
    split
    · rename_i hi
      have := ih (a + 1) (inW_lt hi)
      exact ⟨this.1, by omega⟩
    · exact ⟨h, Nat.le_refl _⟩

theorem Tab.bl {w w' : World} {rb : Nat} (h : Tab w) (ho : Og rb w w') (hr : rb ≠ 0) (h0 : 0 < w.heap.size) : Tab w' :=
  fun i hi => (ho.cell (p := ⟨0, i, none⟩) h0 (fun e => hr e.symm)).trans (h i hi)

set_option maxRecDepth 100000 in
set_option maxHeartbeats 3200000 in
theorem skipWord_any (rb : Nat) (s : ByteArray) (a : Nat) (l : List Value) (w : World) (hs : s.size ≤ 65536) (ha : a ≤ s.size) (h : Bl w rb 42 (.string s :: .int .i64 a :: l)) (ht : Tab w) (hr : rb ≠ 0) (h0 : 0 < w.heap.size) :
    Calls Tryd.prog 43 #[.pointer (some ⟨rb, 0, none⟩)] w fun e w' => e = .returned (.string (s.extract a (wordTo s (s.size - a) a))) ∧ Bl w' rb 42 (.string s :: .int .i64 (wordTo s (s.size - a) a : Nat) :: l) ∧ Og rb w w' := by
  have c1 : w.cell? ⟨rb, 1, none⟩ = some (.int .i64 a) := h.cell 1
  have H := Lib.hid h
  have HA := Lib.hid ha
  have HT := Lib.hid ht
  have HR := Lib.hid hr
  have HZ := Lib.hid h0
  clear h ha ht hr h0
  go_enter Tryd.func43, Tryd.ntmps43
  go_wp2_with fail
  clear c1
  go_loopg [] (s.size - a) (fun gh wr => ∃ k : Nat, k + gh = s.size ∧ a ≤ k ∧ Bl wr rb 42 (.string s :: .int .i64 k :: l) ∧ Og rb w wr ∧ wordTo s gh k = wordTo s (s.size - a) a)
  case atStart => exact ⟨a, by have := HA.out; omega, Nat.le_refl _, H.out, Og.refl _ _, rfl⟩
  case round =>
    obtain ⟨k, hk, hak, hB, hO, hV⟩ := hrel
    have c0 : wr.cell? ⟨rb, 0, none⟩ = some (.string s) := hB.cell 0
    have c1 : wr.cell? ⟨rb, 1, none⟩ = some (.int .i64 k) := hB.cell 1
    have f1 : ∀ n, (wr.drewN n).frozen? ⟨rb, 1, none⟩ = false := fun n => hB.froz 1
    have CP := Lib.hid (peek0 rb s k wr hs (by omega) c0 c1)
    have CW := Lib.hid (fun n => inWord_any (pk s k) (wr.drewN n) (HT.out.bl (hO.drewN n) HR.out HZ.out))
    have HB := Lib.hid hB
    have HO := Lib.hid hO
    have HV := Lib.hid hV
    clear hB hO hV
    by_cases hi : inW (pk s k) = true
    · have hlt := inW_lt hi
      obtain ⟨g', rfl⟩ : ∃ g', gk = g' + 1 := ⟨gk - 1, by omega⟩
      have hv : wordTo s (g' + 1) k = wordTo s g' (k + 1) := by
        conv => lhs; unfold wordTo
        rw [if_pos hi]
      have HV1 := Lib.hid hv
      rw [hi] at CW
      clear hi hv
      go_wp2_with fail
      refine CP.out.mono ?_
      rintro e w1 ⟨rfl, n1, rfl⟩
      go_simp
      go_wp2_with fail
      refine (CW.out n1).mono ?_
      rintro e w2 ⟨rfl, rfl⟩
      go_simp
      go_wp2_with fail
      go_roundg g'
      case rel => exact ⟨k + 1, by omega, by omega, (HB.out.drewN _).set 1 _, (HO.out.drewN _).set 1 _, HV1.out.symm.trans HV.out⟩
      case measure => omega
    · have hi' : inW (pk s k) = false := by simpa using hi
      have hv : wordTo s gk k = k := by
        cases gk with
        | zero => rfl
        | succ g' => unfold wordTo; rw [if_neg hi]
      have HV1 := Lib.hid hv
      rw [hi'] at CW
      clear hi hi' hv
      go_wp2_with fail
      refine CP.out.mono ?_
      rintro e w1 ⟨rfl, n1, rfl⟩
      go_simp
      go_wp2_with fail
      refine (CW.out n1).mono ?_
      rintro e w2 ⟨rfl, rfl⟩
      go_simp
      go_wp2_with fail
      have q1 : (0 : Int) ≤ (a : Int) := by omega
      have q2 : (a : Int) ≤ (k : Int) := by omega
      have q3 : (k : Int) ≤ (s.size : Int) := by omega
      go_quiet (fail)
      go_wp2_with fail
      go_ret
      have e1 : wordTo s (s.size - a) a = k := HV.out.symm.trans HV1.out
      rw [e1]
      exact ⟨rfl, (HB.out.drewN _).drewN _, (HO.out.drewN _).drewN _⟩
end Go.Proofs.YtpgcklpcohcchaaDoor
namespace Go.Proofs.YtpgcklpcohcchaaDoor
open Go Go.RowKit

/-- The offset behind a comment, with the comments in it; none: it is not closed. -/
def comTo (s : ByteArray) : Nat → Nat → Nat → Option Nat
  | 0, _, _ => none
  | f + 1, k, d => if k < s.size then
      (if pk s k = 47 ∧ pk s (k + 1) = 42 then comTo s f (k + 2) (d + 1)
       else if pk s k = 42 ∧ pk s (k + 1) = 47 then (if d = 1 then some (k + 2) else comTo s f (k + 2) (d - 1))
       else comTo s f (k + 1) d)
    else none

theorem pk_ne {s : ByteArray} {a : Nat} (h : pk s a ≠ 0) : a < s.size := by
  apply Classical.byContradiction
  intro hn
  exact h (pk_ge hn)

def ComRes (rb : Nat) (s : ByteArray) (a : Nat) (l : List Value) (w : World) (x : Option Nat) (e : Ending) (w' : World) : Prop :=
  match x with
  | some k => e = .returned (.tuple #[]) ∧ Bl w' rb 42 (.string s :: .int .i64 k :: l) ∧ Og rb w w'
  | none => e = .panicked (fv a 27) ∧ Og rb w w'

set_option maxRecDepth 100000 in
set_option maxHeartbeats 3200000 in
theorem skipComment_any (rb : Nat) (s : ByteArray) (a : Nat) (l : List Value) (w : World) (hs : s.size ≤ 65536) (h : Bl w rb 42 (.string s :: .int .i64 a :: l)) (h47 : pk s a = 47) (h42 : pk s (a + 1) = 42) :
    Calls Tryd.prog 25 #[.pointer (some ⟨rb, 0, none⟩)] w (ComRes rb s a l w (comTo s (s.size + 1) a 0)) := by
  have c1 : w.cell? ⟨rb, 1, none⟩ = some (.int .i64 a) := h.cell 1
  have ha : a < s.size := pk_ne (by rw [h47]; decide)
  have HA := Lib.hid ha
  have H := Lib.hid h
  have H47 := Lib.hid h47
  have H42 := Lib.hid h42
  clear h h47 h42 ha
  go_enter Tryd.func25, Tryd.ntmps25
  go_wp2_with fail
  clear c1
  go_loopg [3] (s.size + 1) (fun gh s3 wr => ∃ k d : Nat, s.size < k + gh ∧ k ≤ s.size ∧ s3 = .int .i64 d ∧ (d = 0 → k = a) ∧ d ≤ k ∧ Bl wr rb 42 (.string s :: .int .i64 k :: l) ∧ Og rb w wr ∧ comTo s gh k d = comTo s (s.size + 1) a 0)
  case atStart => exact ⟨a, 0, by omega, by have := HA.out; omega, rfl, fun _ => rfl, Nat.zero_le _, H.out, Og.refl _ _, rfl⟩
  case round =>
    obtain ⟨k, d, hk, hks, rfl, hd, hdk, hB, hO, hV⟩ := hrel
    obtain ⟨g', rfl⟩ : ∃ g', gk = g' + 1 := ⟨gk - 1, by omega⟩
    have c0 : wr.cell? ⟨rb, 0, none⟩ = some (.string s) := hB.cell 0
    have c1 : wr.cell? ⟨rb, 1, none⟩ = some (.int .i64 k) := hB.cell 1
    have f1 : ∀ n, (wr.drewN n).frozen? ⟨rb, 1, none⟩ = false := fun n => hB.froz 1
    have C0 := Lib.hid (fun n => peek0 rb s k (wr.drewN n) hs (by omega) c0 c1)
    have C1 := Lib.hid (fun n => peek1 rb s k (wr.drewN n) hs (by omega) c0 c1)
    have HB := Lib.hid hB
    have HO := Lib.hid hO
    have HV := Lib.hid hV
    clear hB hO hV
    by_cases hlt : k < s.size
    · have q1 : (k : Int) < (s.size : Int) := by omega
      obtain ⟨b, hb⟩ : ∃ b, pk s k = b := ⟨_, rfl⟩
      obtain ⟨c, hc⟩ : ∃ c, pk s (k + 1) = c := ⟨_, rfl⟩
      have H0 : b = 47 → c = 42 → k + 2 ≤ s.size := fun _ h => by
        have := pk_ne (s := s) (a := k + 1) (by rw [hc, h]; decide)
        omega
      have hdb : (d : Int) ≤ 65536 := by omega
      by_cases h47 : b = 47
      · subst h47
        by_cases k42 : c = 42
        · subst k42
          have hk2 := H0 rfl rfl
          have hd2 : ¬ (d : Int) + 1 = 0 := by omega
          have hv : comTo s (g' + 1) k d = comTo s g' (k + 2) (d + 1) := by
            conv => lhs; unfold comTo
            simp [hlt, hb, hc]
          have HV1 := Lib.hid hv
          rw [hb] at C0
          rw [hc] at C1
          clear hv hb hc
          go_wp2_with fail
          go_quiet (fail)
          go_wp2_with fail
          refine (C0.out _).mono ?_
          rintro e w1 ⟨rfl, n1, rfl⟩
          go_simp
          go_wp2_with fail
          refine (C1.out _).mono ?_
          rintro e w1 ⟨rfl, n1, rfl⟩
          go_simp
          go_wp2_with fail
          go_roundg g'
          case rel => exact ⟨k + 2, d + 1, by omega, by omega, by go_num, by omega, by omega, (HB.out.drewN _).set 1 _, (HO.out.drewN _).set 1 _, HV1.out.symm.trans HV.out⟩
          case measure => omega
        · have q42 := u8_ne (n := 42) (by decide) k42
          have hd1 : d ≠ 0 := by
            intro h0
            have := hd h0
            subst this
            exact k42 (hc.symm.trans H42.out)
          have hd2 : ¬ (d : Int) = 0 := by omega
          have hv : comTo s (g' + 1) k d = comTo s g' (k + 1) d := by
            conv => lhs; unfold comTo
            simp [hlt, hb, hc, k42]
          have HV1 := Lib.hid hv
          rw [hb] at C0
          rw [hc] at C1
          clear hv hb hc
          go_wp2_with fail
          go_quiet (fail)
          go_wp2_with fail
          refine (C0.out _).mono ?_
          rintro e w1 ⟨rfl, n1, rfl⟩
          go_simp
          go_wp2_with fail
          refine (C1.out _).mono ?_
          rintro e w1 ⟨rfl, n1, rfl⟩
          go_simp
          go_wp2_with fail
          refine (C0.out _).mono ?_
          rintro e w1 ⟨rfl, n1, rfl⟩
          go_simp
          go_wp2_with fail
          go_roundg g'
          case rel => exact ⟨k + 1, d, by omega, by omega, by go_num, by omega, by omega, (HB.out.drewN _).set 1 _, (HO.out.drewN _).set 1 _, HV1.out.symm.trans HV.out⟩
          case measure => omega
      · have q47 := u8_ne (n := 47) (by decide) h47
        have hd1 : d ≠ 0 := by
          intro h0
          have := hd h0
          subst this
          exact h47 (hb.symm.trans H47.out)
        have hd2 : ¬ (d : Int) = 0 := by omega
        by_cases h42 : b = 42
        · subst h42
          by_cases k47 : c = 47
          · subst k47
            have hk2 : k + 2 ≤ s.size := by
              have := pk_ne (s := s) (a := k + 1) (by rw [hc]; decide)
              omega
            by_cases h1 : d = 1
            · subst h1
              have hv : comTo s (g' + 1) k 1 = some (k + 2) := by
                conv => lhs; unfold comTo
                simp [hlt, hb, hc]
              have HV1 := Lib.hid hv
              rw [hb] at C0
              rw [hc] at C1
              clear hv hb hc
              go_wp2_with fail
              go_quiet (fail)
              go_wp2_with fail
              refine (C0.out _).mono ?_
              rintro e w1 ⟨rfl, n1, rfl⟩
              go_simp
              go_wp2_with fail
              refine (C0.out _).mono ?_
              rintro e w1 ⟨rfl, n1, rfl⟩
              go_simp
              go_wp2_with fail
              refine (C1.out _).mono ?_
              rintro e w1 ⟨rfl, n1, rfl⟩
              go_simp
              go_wp2_with fail
              go_end0
              have hv := HV.out.symm.trans HV1.out
              rw [hv]
              exact ⟨rfl, (HB.out.drewN _).set 1 _, (HO.out.drewN _).set 1 _⟩
            · have hd3 : ¬ (d : Int) - 1 = 0 := by omega
              have hd4 : (d : Int) - 1 = ((d - 1 : Nat) : Int) := by omega
              have hv : comTo s (g' + 1) k d = comTo s g' (k + 2) (d - 1) := by
                conv => lhs; unfold comTo
                simp [hlt, hb, hc, h1]
              have HV1 := Lib.hid hv
              rw [hb] at C0
              rw [hc] at C1
              clear hv hb hc
              go_wp2_with fail
              go_quiet (fail)
              go_wp2_with fail
              refine (C0.out _).mono ?_
              rintro e w1 ⟨rfl, n1, rfl⟩
              go_simp
              go_wp2_with fail
              refine (C0.out _).mono ?_
              rintro e w1 ⟨rfl, n1, rfl⟩
              go_simp
              go_wp2_with fail
              refine (C1.out _).mono ?_
              rintro e w1 ⟨rfl, n1, rfl⟩
              go_simp
              go_wp2_with fail
              go_roundg g'
              case rel => exact ⟨k + 2, d - 1, by omega, by omega, by go_num, by omega, by omega, (HB.out.drewN _).set 1 _, (HO.out.drewN _).set 1 _, HV1.out.symm.trans HV.out⟩
              case measure => omega
          · have q47' := u8_ne (n := 47) (by decide) k47
            have hv : comTo s (g' + 1) k d = comTo s g' (k + 1) d := by
              conv => lhs; unfold comTo
              simp [hlt, hb, hc, k47]
            have HV1 := Lib.hid hv
            rw [hb] at C0
            rw [hc] at C1
            clear hv hb hc
            go_wp2_with fail
            go_quiet (fail)
            go_wp2_with fail
            refine (C0.out _).mono ?_
            rintro e w1 ⟨rfl, n1, rfl⟩
            go_simp
            go_wp2_with fail
            refine (C0.out _).mono ?_
            rintro e w1 ⟨rfl, n1, rfl⟩
            go_simp
            go_wp2_with fail
            refine (C1.out _).mono ?_
            rintro e w1 ⟨rfl, n1, rfl⟩
            go_simp
            go_wp2_with fail
            go_roundg g'
            case rel => exact ⟨k + 1, d, by omega, by omega, by go_num, by omega, by omega, (HB.out.drewN _).set 1 _, (HO.out.drewN _).set 1 _, HV1.out.symm.trans HV.out⟩
            case measure => omega
        · have q42 := u8_ne (n := 42) (by decide) h42
          have hv : comTo s (g' + 1) k d = comTo s g' (k + 1) d := by
            conv => lhs; unfold comTo
            simp [hlt, hb, hc, h47, h42]
          have HV1 := Lib.hid hv
          rw [hb] at C0
          rw [hc] at C1
          clear hv hb hc
          go_wp2_with fail
          go_quiet (fail)
          go_wp2_with fail
          refine (C0.out _).mono ?_
          rintro e w1 ⟨rfl, n1, rfl⟩
          go_simp
          go_wp2_with fail
          refine (C0.out _).mono ?_
          rintro e w1 ⟨rfl, n1, rfl⟩
          go_simp
          go_wp2_with fail
          go_roundg g'
          case rel => exact ⟨k + 1, d, by omega, by omega, by go_num, by omega, by omega, (HB.out.drewN _).set 1 _, (HO.out.drewN _).set 1 _, HV1.out.symm.trans HV.out⟩
          case measure => omega
    · have q1 : ¬ (k : Int) < (s.size : Int) := by omega
      have hv : comTo s (g' + 1) k d = none := by unfold comTo; rw [if_neg hlt]
      have HV1 := Lib.hid (HV.out.symm.trans hv)
      clear hv hlt
      go_wp2_with fail
      go_quiet (fail)
      go_wp2_with (go_at_call 14; refine (fail_any _ _ _).mono ?_; rintro e w1 ⟨rfl, rfl⟩)
      rw [HV1.out]
      exact ⟨rfl, rfl, HO.out.drewN _⟩
end Go.Proofs.YtpgcklpcohcchaaDoor
namespace Go.Proofs.YtpgcklpcohcchaaDoor
open Go Go.RowKit

theorem lineTo_le (s : ByteArray) : ∀ (f a : Nat), a ≤ s.size → lineTo s f a ≤ s.size ∧ a ≤ lineTo s f a := by
  intro f
  induction f with
  | zero => intro a h; exact ⟨h, Nat.le_refl _⟩
  | succ f ih =>
    intro a h
    unfold lineTo
    split
    · rename_i hi
      have := ih (a + 1) hi.1
      exact ⟨this.1, by omega⟩
    · exact ⟨h, Nat.le_refl _⟩

theorem comTo_le (s : ByteArray) : ∀ (f a d k : Nat), comTo s f a d = some k → k ≤ s.size ∧ a < k := by
  intro f
  induction f with
  | zero => intro a d k h; cases h
  | succ f ih =>
    intro a d k h
    unfold comTo at h
    split at h
    · split at h
      · have := ih _ _ _ h; exact ⟨this.1, by omega⟩
      · split at h
        · rename_i hb
          split at h
          · simp only [Option.some.injEq] at h
            have := pk_ne (s := s) (a := a + 1) (by rw [hb.2]; decide)
            omega
          · have := ih _ _ _ h; exact ⟨this.1, by omega⟩
        · have := ih _ _ _ h; exact ⟨this.1, by omega⟩
    · cases h

/-- The offset of the next token, or that of a comment that is not closed. -/
def skipF (s : ByteArray) : Nat → Nat → Except Nat Nat
  | 0, a => .ok a
  | f + 1, a => if pk s a = 32 ∨ pk s a = 9 ∨ pk s a = 10 then skipF s f (a + 1)
    else if comB s a then
      (if pk s (a + 1) = 47 then skipF s f (lineTo s (s.size - a) a)
       else match comTo s (s.size + 1) a 0 with
        | none => .error a
        | some k => skipF s f k)
    else .ok a

def SkRes (rb : Nat) (s : ByteArray) (l : List Value) (w : World) (x : Except Nat Nat) (e : Ending) (w' : World) : Prop :=
  match x with
  | .ok k => e = .returned (.tuple #[]) ∧ Bl w' rb 42 (.string s :: .int .i64 k :: l) ∧ Og rb w w'
  | .error a => e = .panicked (fv a 27) ∧ Og rb w w'

set_option maxRecDepth 100000 in
set_option maxHeartbeats 3200000 in
theorem skip_any (rb : Nat) (s : ByteArray) (a : Nat) (l : List Value) (w : World) (hs : s.size ≤ 65536) (ha : a ≤ s.size) (h : Bl w rb 42 (.string s :: .int .i64 a :: l)) :
    Calls Tryd.prog 12 #[.pointer (some ⟨rb, 0, none⟩)] w (SkRes rb s l w (skipF s (s.size + 1) a)) := by
  have H := Lib.hid h
  have HA := Lib.hid ha
  clear h ha
  go_enter Tryd.func12, Tryd.ntmps12
  go_wp2_with fail
  go_loopg [] (s.size + 1) (fun gh wr => ∃ k : Nat, s.size < k + gh ∧ k ≤ s.size ∧ Bl wr rb 42 (.string s :: .int .i64 k :: l) ∧ Og rb w wr ∧ skipF s gh k = skipF s (s.size + 1) a)
  case atStart => exact ⟨a, by omega, HA.out, H.out, Og.refl _ _, rfl⟩
  case round =>
    obtain ⟨k, hk, hks, hB, hO, hV⟩ := hrel
    obtain ⟨g', rfl⟩ : ∃ g', gk = g' + 1 := ⟨gk - 1, by omega⟩
    have c0 : wr.cell? ⟨rb, 0, none⟩ = some (.string s) := hB.cell 0
    have c1 : wr.cell? ⟨rb, 1, none⟩ = some (.int .i64 k) := hB.cell 1
    have f1 : ∀ n, (wr.drewN n).frozen? ⟨rb, 1, none⟩ = false := fun n => hB.froz 1
    have C0 := Lib.hid (peek0 rb s k wr hs (by omega) c0 c1)
    have C1 := Lib.hid (fun n => peek1 rb s k (wr.drewN n) hs (by omega) c0 c1)
    have CM := Lib.hid (fun n => comment_any rb s k (wr.drewN n) hs (by omega) c0 c1)
    have CL := Lib.hid (fun n => skipLine_any rb s k l (wr.drewN n) hs hks (hB.drewN n))
    have CC := Lib.hid (fun n => skipComment_any rb s k l (wr.drewN n) hs (hB.drewN n))
    have HB := Lib.hid hB
    have HO := Lib.hid hO
    have HV := Lib.hid hV
    have hle := fun h => lineTo_le s (s.size - k) k h
    have hlt : pk s k ≠ 0 → k < s.size := fun h => pk_ne h
    clear hB hO hV
    obtain ⟨b, hb⟩ : ∃ b, pk s k = b := ⟨_, rfl⟩
    obtain ⟨c, hc⟩ : ∃ c, pk s (k + 1) = c := ⟨_, rfl⟩
    by_cases hsp : b = 32 ∨ b = 9 ∨ b = 10
    · have hv : skipF s (g' + 1) k = skipF s g' (k + 1) := by
        conv => lhs; unfold skipF
        rw [hb, if_pos hsp]
      have HV1 := Lib.hid hv
      have hk1 : k < s.size := hlt (by rw [hb]; rcases hsp with h | h | h <;> rw [h] <;> decide)
      rw [hb] at C0
      clear hv hb hc hlt hle
      rcases hsp with rfl | rfl | rfl
      · go_wp2_with fail
        refine (C0.out).mono ?_
        rintro e w1 ⟨rfl, n1, rfl⟩
        go_simp
        go_wp2_with fail
        go_roundg g'
        case rel => exact ⟨k + 1, by omega, by omega, (HB.out.drewN _).set 1 _, (HO.out.drewN _).set 1 _, HV1.out.symm.trans HV.out⟩
        case measure => omega
      · go_wp2_with fail
        refine (C0.out).mono ?_
        rintro e w1 ⟨rfl, n1, rfl⟩
        go_simp
        go_wp2_with fail
        go_roundg g'
        case rel => exact ⟨k + 1, by omega, by omega, (HB.out.drewN _).set 1 _, (HO.out.drewN _).set 1 _, HV1.out.symm.trans HV.out⟩
        case measure => omega
      · go_wp2_with fail
        refine (C0.out).mono ?_
        rintro e w1 ⟨rfl, n1, rfl⟩
        go_simp
        go_wp2_with fail
        go_roundg g'
        case rel => exact ⟨k + 1, by omega, by omega, (HB.out.drewN _).set 1 _, (HO.out.drewN _).set 1 _, HV1.out.symm.trans HV.out⟩
        case measure => omega
    · have q32 := u8_ne (n := 32) (by decide) (fun h => hsp (.inl h))
      have q9 := u8_ne (n := 9) (by decide) (fun h => hsp (.inr (.inl h)))
      have q10 := u8_ne (n := 10) (by decide) (fun h => hsp (.inr (.inr h)))
      have d32 : ((b.toNat : Int) == 32) = false := by simpa using q32
      have d9 : ((b.toNat : Int) == 9) = false := by simpa using q9
      have d10 : ((b.toNat : Int) == 10) = false := by simpa using q10
      clear q32 q9 q10
      by_cases hcm : comB s k = true
      · have hb47 : b = 47 ∧ (c = 47 ∨ c = 42) := by
          unfold comB at hcm; rw [hb, hc] at hcm; simpa using hcm
        obtain ⟨rfl, hc2⟩ := hb47
        have hk1 : k < s.size := hlt (by rw [hb]; decide)
        have hll : k + 1 ≤ lineTo s (s.size - k) k := by
          obtain ⟨m, hm⟩ : ∃ m, s.size - k = m + 1 := ⟨s.size - k - 1, by omega⟩
          rw [hm]
          unfold lineTo
          rw [if_pos ⟨hk1, by rw [hb]; decide⟩]
          exact (lineTo_le s m (k + 1) (by omega)).2
        have hle' := (hle hks).1
        rcases hc2 with rfl | rfl
        · have hv : skipF s (g' + 1) k = skipF s g' (lineTo s (s.size - k) k) := by
            conv => lhs; unfold skipF
            rw [hb, if_neg hsp, if_pos hcm, hc, if_pos rfl]
          have HV1 := Lib.hid hv
          rw [hb] at C0
          rw [hc] at C1
          rw [hcm] at CM
          clear hv hb hc hlt hle hcm hsp
          go_wp2_with fail
          refine (C0.out).mono ?_
          rintro e w1 ⟨rfl, n1, rfl⟩
          go_simp
          go_wp2_with fail
          refine (CM.out _).mono ?_
          rintro e w1 ⟨rfl, n2, rfl⟩
          go_simp
          go_wp2_with fail
          refine (C1.out _).mono ?_
          rintro e w1 ⟨rfl, n1, rfl⟩
          go_simp
          go_wp2_with fail
          refine (CL.out _).mono ?_
          rintro e w4 ⟨rfl, hB4, hO4⟩
          go_simp
          go_wp2_with fail
          go_roundg g'
          case rel => exact ⟨_, by omega, hle', hB4, (HO.out.drewN _).trans hO4, HV1.out.symm.trans HV.out⟩
          case measure => omega
        · have hccv := CC.out
          have hcm2 := hcm
          cases hct : comTo s (s.size + 1) k 0 with
          | none =>
            have hv : skipF s (g' + 1) k = .error k := by
              conv => lhs; unfold skipF
              rw [hb, if_neg hsp, if_pos hcm, hc, if_neg (by decide), hct]
            have HV1 := Lib.hid (HV.out.symm.trans hv)
            have CD := Lib.hid (fun n => (show Calls Tryd.prog 25 #[.pointer (some ⟨rb, 0, none⟩)] (wr.drewN n) (ComRes rb s k l (wr.drewN n) none) by have hx := CC.out n hb hc; rw [hct] at hx; exact hx))
            rw [hb] at C0
            rw [hc] at C1
            rw [hcm] at CM
            clear hv hb hc hlt hle hcm hsp CC hccv hcm2
            go_wp2_with fail
            refine (C0.out).mono ?_
            rintro e w1 ⟨rfl, n1, rfl⟩
            go_simp
            go_wp2_with fail
            refine (CM.out _).mono ?_
            rintro e w1 ⟨rfl, n2, rfl⟩
            go_simp
            go_wp2_with fail
            refine (C1.out _).mono ?_
            rintro e w1 ⟨rfl, n1, rfl⟩
            go_simp
            go_wp2_with fail
            refine (CM.out _).mono ?_
            rintro e w1 ⟨rfl, n2, rfl⟩
            go_simp
            go_wp2_with fail
            refine (CD.out _).mono ?_
            rintro e w4 ⟨rfl, hO4⟩
            go_simp
            rw [HV1.out]
            exact ⟨rfl, rfl, (HO.out.drewN _).trans hO4⟩
          | some k2 =>
            have hv : skipF s (g' + 1) k = skipF s g' k2 := by
              conv => lhs; unfold skipF
              rw [hb, if_neg hsp, if_pos hcm, hc, if_neg (by decide), hct]
            have HV1 := Lib.hid hv
            have hk2 := comTo_le s _ _ _ _ hct
            have CD := Lib.hid (fun n => (show Calls Tryd.prog 25 #[.pointer (some ⟨rb, 0, none⟩)] (wr.drewN n) (ComRes rb s k l (wr.drewN n) (some k2)) by have hx := CC.out n hb hc; rw [hct] at hx; exact hx))
            rw [hb] at C0
            rw [hc] at C1
            rw [hcm] at CM
            clear hv hb hc hlt hle hcm hsp CC hccv hcm2
            go_wp2_with fail
            refine (C0.out).mono ?_
            rintro e w1 ⟨rfl, n1, rfl⟩
            go_simp
            go_wp2_with fail
            refine (CM.out _).mono ?_
            rintro e w1 ⟨rfl, n2, rfl⟩
            go_simp
            go_wp2_with fail
            refine (C1.out _).mono ?_
            rintro e w1 ⟨rfl, n1, rfl⟩
            go_simp
            go_wp2_with fail
            refine (CM.out _).mono ?_
            rintro e w1 ⟨rfl, n2, rfl⟩
            go_simp
            go_wp2_with fail
            refine (CD.out _).mono ?_
            rintro e w4 ⟨rfl, hB4, hO4⟩
            go_simp
            go_wp2_with fail
            go_roundg g'
            case rel => exact ⟨k2, by omega, hk2.1, hB4, (HO.out.drewN _).trans hO4, HV1.out.symm.trans HV.out⟩
            case measure => omega
      · have hcm' : comB s k = false := by simpa using hcm
        have hv : skipF s (g' + 1) k = .ok k := by
          conv => lhs; unfold skipF
          rw [hb, if_neg hsp, if_neg hcm]
        have HV1 := Lib.hid (HV.out.symm.trans hv)
        rw [hb] at C0
        rw [hcm'] at CM
        clear hv hb hc hlt hle hcm hsp hcm'
        go_wp2_with fail
        refine (C0.out).mono ?_
        rintro e w1 ⟨rfl, n1, rfl⟩
        go_simp
        go_wp2_with fail
        refine (CM.out _).mono ?_
        rintro e w1 ⟨rfl, n2, rfl⟩
        go_simp
        go_wp2_with fail
        refine (CM.out _).mono ?_
        rintro e w1 ⟨rfl, n2, rfl⟩
        go_simp
        go_wp2_with fail
        go_end0
        rw [HV1.out]
        exact ⟨rfl, HB.out.drewN _, HO.out.drewN _⟩
end Go.Proofs.YtpgcklpcohcchaaDoor
