/- The reader of tokens: operators. -/
import Derived.Test.YtpgcklpcohcchaaDoorR9
import Derived.Test.YtpgcklpcohcchaaDoorR5
namespace Go.Proofs.YtpgcklpcohcchaaDoor
open Go Go.RowKit

/-- What a step of the reader leaves. -/
def RdRes (X : Nat → Prop) (w : World) (rb : Nat) (s : ByteArray) (vn : Value) (x : Except (Nat × Nat) RSt) (e : Ending) (w' : World) : Prop :=
  match x with
  | .ok r => e = .returned (.tuple #[]) ∧ RR X w' rb s r vn ∧ KX X w w'
  | .error f => e = .panicked (fv f.1 f.2) ∧ KX X w w'

/-- The offset behind the bytes of an operator. -/
def opTo (s : ByteArray) : Nat → Nat → Nat
  | 0, a => a
  | f + 1, a => if cls (pk s a) = 3 ∧ comB s a = false then opTo s f (a + 1) else a

theorem cls_pk_lt {s : ByteArray} {a : Nat} (h : cls (pk s a) = 3) : a < s.size := by
  apply Classical.byContradiction
  intro hn
  rw [pk_ge hn] at h
  revert h
  decide +kernel
theorem opTo_le (s : ByteArray) : ∀ (f a : Nat), a ≤ s.size → opTo s f a ≤ s.size ∧ a ≤ opTo s f a := by
  intro f
  induction f with
  | zero => intro a h; exact ⟨h, Nat.le_refl _⟩
  | succ f ih =>
    intro a h
    unfold opTo
    split
    · rename_i hi
      have := ih (a + 1) (cls_pk_lt hi.1)
      exact ⟨this.1, by omega⟩
    · exact ⟨h, Nat.le_refl _⟩

/-- The marks that consist of bytes of operators. -/
def mkM (l : List UInt8) : Bool := l == [61] || l == [61, 62] || l == [60, 45] || l == [58] || l == [60, 58] || l == [62, 58]

def opEnd (s : ByteArray) (m : Nat) (r : RSt) : Except (Nat × Nat) RSt :=
  if mkM (s.extract r.pos m).toList then .ok (addF s 3 (s.extract r.pos m) r.pos { r with pos := m })
  else if 64 < (s.extract r.pos m).size then .error (r.pos, 18) else .ok (addF s 2 (s.extract r.pos m) r.pos { r with pos := m })
def opF (s : ByteArray) (r : RSt) : Except (Nat × Nat) RSt := opEnd s (opTo s (s.size - r.pos) r.pos) r

set_option maxRecDepth 100000 in
set_option maxHeartbeats 1600000 in
theorem operator_any (X : Nat → Prop) (w : World) (rb : Nat) (s : ByteArray) (r : RSt) (vn : Value) (h : RR X w rb s r vn) (hs : s.size ≤ 65536) (hp : r.pos ≤ s.size) (ht : r.told ≤ r.pos) (hli : r.line ≤ r.told) (hst : r.start ≤ r.told) (hn : r.out.length < 4000000)
    (htb : Tab w) (hr : rb ≠ 0) (h0 : 0 < w.heap.size) :
    Calls Tryd.prog 29 #[.pointer (some ⟨rb, 0, none⟩)] w (RdRes X w rb s vn (opF s r)) := by
  obtain ⟨vo, h1, h2, h4⟩ := h
  obtain ⟨rp, ro, rt, rl, rs⟩ := r
  have ao := Bl.row_apart h2 h1 (by decide)
  simp only at hp ht hli hst hn
  have c1 : w.cell? ⟨rb, 1, none⟩ = some (.int .i64 rp) := h1.cell 1
  have H1 := Lib.hid h1
  have H2 := Lib.hid h2
  have H4 := Lib.hid h4
  have HAO := Lib.hid ao
  have HP := Lib.hid hp
  have HA := Lib.hid (show rt ≤ rp ∧ rl ≤ rt ∧ rs ≤ rt ∧ ro.length < 4000000 from ⟨ht, hli, hst, hn⟩)
  have HT := Lib.hid htb
  have HR := Lib.hid hr
  have HZ := Lib.hid h0
  unfold opF
  simp only
  clear h1 h2 h4 ao hp ht hli hst hn htb hr h0
  go_enter Tryd.func29, Tryd.ntmps29
  go_wp2_with fail
  clear c1
  go_loopg [] (s.size - rp) (fun gh wr => ∃ k : Nat, k + gh = s.size ∧ rp ≤ k ∧ Bl wr rb 42 (.string s :: .int .i64 k :: (⟨rp, ro, rt, rl, rs⟩ : RSt).fs vo vn) ∧ Og rb w wr ∧ opTo s gh k = opTo s (s.size - rp) rp)
  case atStart => exact ⟨rp, by have := HP.out; omega, Nat.le_refl _, H1.out, Og.refl _ _, rfl⟩
  case round =>
    obtain ⟨k, hk, hak, hB, hO, hV⟩ := hrel
    have c0 : wr.cell? ⟨rb, 0, none⟩ = some (.string s) := hB.cell 0
    have c1 : wr.cell? ⟨rb, 1, none⟩ = some (.int .i64 k) := hB.cell 1
    have f1 : ∀ n, (wr.drewN n).frozen? ⟨rb, 1, none⟩ = false := fun n => hB.froz 1
    have CP := Lib.hid (peek0 rb s k wr hs (by omega) c0 c1)
    have CW := Lib.hid (fun n => classOf_any (pk s k) (wr.drewN n) (HT.out.bl (hO.drewN n) HR.out HZ.out))
    have CM := Lib.hid (fun n => comment_any rb s k (wr.drewN n) hs (by omega) c0 c1)
    have HB := Lib.hid hB
    have HO := Lib.hid hO
    have HV := Lib.hid hV
    clear hB hO hV
    by_cases hgo : cls (pk s k) = 3 ∧ comB s k = false
    · have hlt := cls_pk_lt hgo.1
      obtain ⟨g', rfl⟩ : ∃ g', gk = g' + 1 := ⟨gk - 1, by omega⟩
      have hv : opTo s (g' + 1) k = opTo s g' (k + 1) := by
        conv => lhs; unfold opTo
        rw [if_pos hgo]
      have HV1 := Lib.hid hv
      rw [hgo.1] at CW
      rw [hgo.2] at CM
      clear hgo hv
      go_wp2_with fail
      refine CP.out.mono ?_
      rintro e w1 ⟨rfl, n1, rfl⟩
      go_simp
      go_wp2_with fail
      refine (CW.out n1).mono ?_
      rintro e w2 ⟨rfl, rfl⟩
      go_simp
      go_wp2_with fail
      refine (CM.out _).mono ?_
      rintro e w1 ⟨rfl, n2, rfl⟩
      go_simp
      go_wp2_with fail
      go_roundg g'
      case rel => exact ⟨k + 1, by omega, by omega, (HB.out.drewN _).set 1 _, (HO.out.drewN _).set 1 _, HV1.out.symm.trans HV.out⟩
      case measure => omega
    · have hv : opTo s gk k = k := by
        cases gk with
        | zero => rfl
        | succ g' => unfold opTo; rw [if_neg hgo]
      have HV1 := Lib.hid (HV.out.symm.trans hv)
      have hx : ∀ n, RR X (wr.drewN n) rb s ⟨k, ro, rt, rl, rs⟩ vn ∧ KX X w (wr.drewN n) := fun n => RR.moved (X := X) (r := ⟨rp, ro, rt, rl, rs⟩) (a := k) H2.out H4.out HAO.out (HB.out.drewN n) (HO.out.drewN n)
      have HX := Lib.hid hx
      obtain ⟨h1a, h1b, h1c, h1d⟩ := HA.out
      have CA := Lib.hid (fun n kd => add_any X (wr.drewN n) rb s ⟨k, ro, rt, rl, rs⟩ vn kd (s.extract rp k) rp (hx n).1 hs (by omega) h1a h1b h1c h1d)
      have hgo' : cls (pk s k) = 3 → comB s k = true := fun h => by
        cases hc : comB s k with
        | true => rfl
        | false => exact absurd ⟨h, hc⟩ hgo
      have q1 : (0 : Int) ≤ (rp : Int) := by omega
      have q2 : (rp : Int) ≤ (k : Int) := by omega
      have q3 : (k : Int) ≤ (s.size : Int) := by omega
      clear hgo hv hx h1a h1b h1c h1d
      have hfork : (cls (pk s k) = 3 ∧ comB s k = true) ∨ ¬ cls (pk s k) = 3 := by
        by_cases h : cls (pk s k) = 3
        · exact .inl ⟨h, hgo' h⟩
        · exact .inr h
      clear hgo'
      rcases hfork with ⟨hc3, hcm⟩ | hc3
      · rw [hc3] at CW
        rw [hcm] at CM
        clear hc3 hcm
        by_cases hmk : mkM (s.extract rp k).toList = true
        · have he : opEnd s k ⟨rp, ro, rt, rl, rs⟩ = .ok (addF s 3 (s.extract rp k) rp ⟨k, ro, rt, rl, rs⟩) := by unfold opEnd; rw [if_pos hmk]
          have HE := Lib.hid he
          have hmk2 : (s.extract rp k).toList = [61] ∨ (s.extract rp k).toList = [61, 62] ∨ (s.extract rp k).toList = [60, 45] ∨ (s.extract rp k).toList = [58] ∨ (s.extract rp k).toList = [60, 58] ∨ (s.extract rp k).toList = [62, 58] := by
            simp only [mkM, Bool.or_eq_true, beq_iff_eq] at hmk
            rcases hmk with ((((h | h) | h) | h) | h) | h <;> simp [h]
          clear he hmk
          rcases hmk2 with h | h | h | h | h | h
          · have g0 : ((s.extract rp k).toList == [61]) = true := by rw [h]; rfl
            clear h
            go_wp2_with fail
            refine CP.out.mono ?_
            rintro e w1 ⟨rfl, n1, rfl⟩
            go_simp
            go_wp2_with fail
            refine (CW.out n1).mono ?_
            rintro e w2 ⟨rfl, rfl⟩
            go_simp
            go_wp2_with fail
            refine (CM.out _).mono ?_
            rintro e w1 ⟨rfl, n2, rfl⟩
            go_simp
            go_wp2_with fail
            go_quiet (fail)
            generalize s.extract rp k = tx at *
            go_wp2_with fail
            refine (CA.out _ 3).mono ?_
            rintro e w5 ⟨rfl, hL5, hK5⟩
            go_simp
            go_wp2_with fail
            go_end0
            rw [HV1.out, HE.out]
            exact ⟨rfl, hL5, (HX.out _).2.trans hK5⟩
          · have g0 : ((s.extract rp k).toList == [61]) = false := by rw [h]; rfl
            have g1 : ((s.extract rp k).toList == [61, 62]) = true := by rw [h]; rfl
            clear h
            go_wp2_with fail
            refine CP.out.mono ?_
            rintro e w1 ⟨rfl, n1, rfl⟩
            go_simp
            go_wp2_with fail
            refine (CW.out n1).mono ?_
            rintro e w2 ⟨rfl, rfl⟩
            go_simp
            go_wp2_with fail
            refine (CM.out _).mono ?_
            rintro e w1 ⟨rfl, n2, rfl⟩
            go_simp
            go_wp2_with fail
            go_quiet (fail)
            generalize s.extract rp k = tx at *
            go_wp2_with fail
            refine (CA.out _ 3).mono ?_
            rintro e w5 ⟨rfl, hL5, hK5⟩
            go_simp
            go_wp2_with fail
            go_end0
            rw [HV1.out, HE.out]
            exact ⟨rfl, hL5, (HX.out _).2.trans hK5⟩
          · have g0 : ((s.extract rp k).toList == [61]) = false := by rw [h]; rfl
            have g1 : ((s.extract rp k).toList == [61, 62]) = false := by rw [h]; rfl
            have g2 : ((s.extract rp k).toList == [60, 45]) = true := by rw [h]; rfl
            clear h
            go_wp2_with fail
            refine CP.out.mono ?_
            rintro e w1 ⟨rfl, n1, rfl⟩
            go_simp
            go_wp2_with fail
            refine (CW.out n1).mono ?_
            rintro e w2 ⟨rfl, rfl⟩
            go_simp
            go_wp2_with fail
            refine (CM.out _).mono ?_
            rintro e w1 ⟨rfl, n2, rfl⟩
            go_simp
            go_wp2_with fail
            go_quiet (fail)
            generalize s.extract rp k = tx at *
            go_wp2_with fail
            refine (CA.out _ 3).mono ?_
            rintro e w5 ⟨rfl, hL5, hK5⟩
            go_simp
            go_wp2_with fail
            go_end0
            rw [HV1.out, HE.out]
            exact ⟨rfl, hL5, (HX.out _).2.trans hK5⟩
          · have g0 : ((s.extract rp k).toList == [61]) = false := by rw [h]; rfl
            have g1 : ((s.extract rp k).toList == [61, 62]) = false := by rw [h]; rfl
            have g2 : ((s.extract rp k).toList == [60, 45]) = false := by rw [h]; rfl
            have g3 : ((s.extract rp k).toList == [58]) = true := by rw [h]; rfl
            clear h
            go_wp2_with fail
            refine CP.out.mono ?_
            rintro e w1 ⟨rfl, n1, rfl⟩
            go_simp
            go_wp2_with fail
            refine (CW.out n1).mono ?_
            rintro e w2 ⟨rfl, rfl⟩
            go_simp
            go_wp2_with fail
            refine (CM.out _).mono ?_
            rintro e w1 ⟨rfl, n2, rfl⟩
            go_simp
            go_wp2_with fail
            go_quiet (fail)
            generalize s.extract rp k = tx at *
            go_wp2_with fail
            refine (CA.out _ 3).mono ?_
            rintro e w5 ⟨rfl, hL5, hK5⟩
            go_simp
            go_wp2_with fail
            go_end0
            rw [HV1.out, HE.out]
            exact ⟨rfl, hL5, (HX.out _).2.trans hK5⟩
          · have g0 : ((s.extract rp k).toList == [61]) = false := by rw [h]; rfl
            have g1 : ((s.extract rp k).toList == [61, 62]) = false := by rw [h]; rfl
            have g2 : ((s.extract rp k).toList == [60, 45]) = false := by rw [h]; rfl
            have g3 : ((s.extract rp k).toList == [58]) = false := by rw [h]; rfl
            have g4 : ((s.extract rp k).toList == [60, 58]) = true := by rw [h]; rfl
            clear h
            go_wp2_with fail
            refine CP.out.mono ?_
            rintro e w1 ⟨rfl, n1, rfl⟩
            go_simp
            go_wp2_with fail
            refine (CW.out n1).mono ?_
            rintro e w2 ⟨rfl, rfl⟩
            go_simp
            go_wp2_with fail
            refine (CM.out _).mono ?_
            rintro e w1 ⟨rfl, n2, rfl⟩
            go_simp
            go_wp2_with fail
            go_quiet (fail)
            generalize s.extract rp k = tx at *
            go_wp2_with fail
            refine (CA.out _ 3).mono ?_
            rintro e w5 ⟨rfl, hL5, hK5⟩
            go_simp
            go_wp2_with fail
            go_end0
            rw [HV1.out, HE.out]
            exact ⟨rfl, hL5, (HX.out _).2.trans hK5⟩
          · have g0 : ((s.extract rp k).toList == [61]) = false := by rw [h]; rfl
            have g1 : ((s.extract rp k).toList == [61, 62]) = false := by rw [h]; rfl
            have g2 : ((s.extract rp k).toList == [60, 45]) = false := by rw [h]; rfl
            have g3 : ((s.extract rp k).toList == [58]) = false := by rw [h]; rfl
            have g4 : ((s.extract rp k).toList == [60, 58]) = false := by rw [h]; rfl
            have g5 : ((s.extract rp k).toList == [62, 58]) = true := by rw [h]; rfl
            clear h
            go_wp2_with fail
            refine CP.out.mono ?_
            rintro e w1 ⟨rfl, n1, rfl⟩
            go_simp
            go_wp2_with fail
            refine (CW.out n1).mono ?_
            rintro e w2 ⟨rfl, rfl⟩
            go_simp
            go_wp2_with fail
            refine (CM.out _).mono ?_
            rintro e w1 ⟨rfl, n2, rfl⟩
            go_simp
            go_wp2_with fail
            go_quiet (fail)
            generalize s.extract rp k = tx at *
            go_wp2_with fail
            refine (CA.out _ 3).mono ?_
            rintro e w5 ⟨rfl, hL5, hK5⟩
            go_simp
            go_wp2_with fail
            go_end0
            rw [HV1.out, HE.out]
            exact ⟨rfl, hL5, (HX.out _).2.trans hK5⟩
        · have g0 : ((s.extract rp k).toList == [61]) = false := by cases hh : ((s.extract rp k).toList == [61]) with | false => rfl | true => exact absurd (by simp [mkM, hh]) hmk
          have g1 : ((s.extract rp k).toList == [61, 62]) = false := by cases hh : ((s.extract rp k).toList == [61, 62]) with | false => rfl | true => exact absurd (by simp [mkM, hh]) hmk
          have g2 : ((s.extract rp k).toList == [60, 45]) = false := by cases hh : ((s.extract rp k).toList == [60, 45]) with | false => rfl | true => exact absurd (by simp [mkM, hh]) hmk
          have g3 : ((s.extract rp k).toList == [58]) = false := by cases hh : ((s.extract rp k).toList == [58]) with | false => rfl | true => exact absurd (by simp [mkM, hh]) hmk
          have g4 : ((s.extract rp k).toList == [60, 58]) = false := by cases hh : ((s.extract rp k).toList == [60, 58]) with | false => rfl | true => exact absurd (by simp [mkM, hh]) hmk
          have g5 : ((s.extract rp k).toList == [62, 58]) = false := by cases hh : ((s.extract rp k).toList == [62, 58]) with | false => rfl | true => exact absurd (by simp [mkM, hh]) hmk
          by_cases h64 : 64 < (s.extract rp k).size
          · have he : opEnd s k ⟨rp, ro, rt, rl, rs⟩ = .error (rp, 18) := by unfold opEnd; rw [if_neg hmk, if_pos h64]
            have HE := Lib.hid he
            have q64 : (64 : Int) < ((s.extract rp k).size : Int) := by omega
            clear he hmk h64
            go_wp2_with fail
            refine CP.out.mono ?_
            rintro e w1 ⟨rfl, n1, rfl⟩
            go_simp
            go_wp2_with fail
            refine (CW.out n1).mono ?_
            rintro e w2 ⟨rfl, rfl⟩
            go_simp
            go_wp2_with fail
            refine (CM.out _).mono ?_
            rintro e w1 ⟨rfl, n2, rfl⟩
            go_simp
            go_wp2_with fail
            go_quiet (fail)
            generalize s.extract rp k = tx at *
            go_wp2_with (go_at_call 14; refine (fail_any _ _ _).mono ?_; rintro e w5 ⟨rfl, rfl⟩)
            rw [HV1.out, HE.out]
            exact ⟨rfl, rfl, (HX.out _).2⟩
          · have he : opEnd s k ⟨rp, ro, rt, rl, rs⟩ = .ok (addF s 2 (s.extract rp k) rp ⟨k, ro, rt, rl, rs⟩) := by unfold opEnd; rw [if_neg hmk, if_neg h64]
            have HE := Lib.hid he
            have q64 : ¬ (64 : Int) < ((s.extract rp k).size : Int) := by omega
            clear he hmk h64
            go_wp2_with fail
            refine CP.out.mono ?_
            rintro e w1 ⟨rfl, n1, rfl⟩
            go_simp
            go_wp2_with fail
            refine (CW.out n1).mono ?_
            rintro e w2 ⟨rfl, rfl⟩
            go_simp
            go_wp2_with fail
            refine (CM.out _).mono ?_
            rintro e w1 ⟨rfl, n2, rfl⟩
            go_simp
            go_wp2_with fail
            go_quiet (fail)
            generalize s.extract rp k = tx at *
            go_wp2_with fail
            refine (CA.out _ 2).mono ?_
            rintro e w5 ⟨rfl, hL5, hK5⟩
            go_simp
            go_wp2_with fail
            go_end0
            rw [HV1.out, HE.out]
            exact ⟨rfl, hL5, (HX.out _).2.trans hK5⟩
      · have hd3 : ((cls (pk s k) : Int) == 3) = false := by simp; omega
        clear hc3
        by_cases hmk : mkM (s.extract rp k).toList = true
        · have he : opEnd s k ⟨rp, ro, rt, rl, rs⟩ = .ok (addF s 3 (s.extract rp k) rp ⟨k, ro, rt, rl, rs⟩) := by unfold opEnd; rw [if_pos hmk]
          have HE := Lib.hid he
          have hmk2 : (s.extract rp k).toList = [61] ∨ (s.extract rp k).toList = [61, 62] ∨ (s.extract rp k).toList = [60, 45] ∨ (s.extract rp k).toList = [58] ∨ (s.extract rp k).toList = [60, 58] ∨ (s.extract rp k).toList = [62, 58] := by
            simp only [mkM, Bool.or_eq_true, beq_iff_eq] at hmk
            rcases hmk with ((((h | h) | h) | h) | h) | h <;> simp [h]
          clear he hmk
          rcases hmk2 with h | h | h | h | h | h
          · have g0 : ((s.extract rp k).toList == [61]) = true := by rw [h]; rfl
            clear h
            go_wp2_with fail
            refine CP.out.mono ?_
            rintro e w1 ⟨rfl, n1, rfl⟩
            go_simp
            go_wp2_with fail
            refine (CW.out n1).mono ?_
            rintro e w2 ⟨rfl, rfl⟩
            go_simp
            go_wp2_with fail
            go_quiet (fail)
            generalize s.extract rp k = tx at *
            go_wp2_with fail
            refine (CA.out _ 3).mono ?_
            rintro e w5 ⟨rfl, hL5, hK5⟩
            go_simp
            go_wp2_with fail
            go_end0
            rw [HV1.out, HE.out]
            exact ⟨rfl, hL5, (HX.out _).2.trans hK5⟩
          · have g0 : ((s.extract rp k).toList == [61]) = false := by rw [h]; rfl
            have g1 : ((s.extract rp k).toList == [61, 62]) = true := by rw [h]; rfl
            clear h
            go_wp2_with fail
            refine CP.out.mono ?_
            rintro e w1 ⟨rfl, n1, rfl⟩
            go_simp
            go_wp2_with fail
            refine (CW.out n1).mono ?_
            rintro e w2 ⟨rfl, rfl⟩
            go_simp
            go_wp2_with fail
            go_quiet (fail)
            generalize s.extract rp k = tx at *
            go_wp2_with fail
            refine (CA.out _ 3).mono ?_
            rintro e w5 ⟨rfl, hL5, hK5⟩
            go_simp
            go_wp2_with fail
            go_end0
            rw [HV1.out, HE.out]
            exact ⟨rfl, hL5, (HX.out _).2.trans hK5⟩
          · have g0 : ((s.extract rp k).toList == [61]) = false := by rw [h]; rfl
            have g1 : ((s.extract rp k).toList == [61, 62]) = false := by rw [h]; rfl
            have g2 : ((s.extract rp k).toList == [60, 45]) = true := by rw [h]; rfl
            clear h
            go_wp2_with fail
            refine CP.out.mono ?_
            rintro e w1 ⟨rfl, n1, rfl⟩
            go_simp
            go_wp2_with fail
            refine (CW.out n1).mono ?_
            rintro e w2 ⟨rfl, rfl⟩
            go_simp
            go_wp2_with fail
            go_quiet (fail)
            generalize s.extract rp k = tx at *
            go_wp2_with fail
            refine (CA.out _ 3).mono ?_
            rintro e w5 ⟨rfl, hL5, hK5⟩
            go_simp
            go_wp2_with fail
            go_end0
            rw [HV1.out, HE.out]
            exact ⟨rfl, hL5, (HX.out _).2.trans hK5⟩
          · have g0 : ((s.extract rp k).toList == [61]) = false := by rw [h]; rfl
            have g1 : ((s.extract rp k).toList == [61, 62]) = false := by rw [h]; rfl
            have g2 : ((s.extract rp k).toList == [60, 45]) = false := by rw [h]; rfl
            have g3 : ((s.extract rp k).toList == [58]) = true := by rw [h]; rfl
            clear h
            go_wp2_with fail
            refine CP.out.mono ?_
            rintro e w1 ⟨rfl, n1, rfl⟩
            go_simp
            go_wp2_with fail
            refine (CW.out n1).mono ?_
            rintro e w2 ⟨rfl, rfl⟩
            go_simp
            go_wp2_with fail
            go_quiet (fail)
            generalize s.extract rp k = tx at *
            go_wp2_with fail
            refine (CA.out _ 3).mono ?_
            rintro e w5 ⟨rfl, hL5, hK5⟩
            go_simp
            go_wp2_with fail
            go_end0
            rw [HV1.out, HE.out]
            exact ⟨rfl, hL5, (HX.out _).2.trans hK5⟩
          · have g0 : ((s.extract rp k).toList == [61]) = false := by rw [h]; rfl
            have g1 : ((s.extract rp k).toList == [61, 62]) = false := by rw [h]; rfl
            have g2 : ((s.extract rp k).toList == [60, 45]) = false := by rw [h]; rfl
            have g3 : ((s.extract rp k).toList == [58]) = false := by rw [h]; rfl
            have g4 : ((s.extract rp k).toList == [60, 58]) = true := by rw [h]; rfl
            clear h
            go_wp2_with fail
            refine CP.out.mono ?_
            rintro e w1 ⟨rfl, n1, rfl⟩
            go_simp
            go_wp2_with fail
            refine (CW.out n1).mono ?_
            rintro e w2 ⟨rfl, rfl⟩
            go_simp
            go_wp2_with fail
            go_quiet (fail)
            generalize s.extract rp k = tx at *
            go_wp2_with fail
            refine (CA.out _ 3).mono ?_
            rintro e w5 ⟨rfl, hL5, hK5⟩
            go_simp
            go_wp2_with fail
            go_end0
            rw [HV1.out, HE.out]
            exact ⟨rfl, hL5, (HX.out _).2.trans hK5⟩
          · have g0 : ((s.extract rp k).toList == [61]) = false := by rw [h]; rfl
            have g1 : ((s.extract rp k).toList == [61, 62]) = false := by rw [h]; rfl
            have g2 : ((s.extract rp k).toList == [60, 45]) = false := by rw [h]; rfl
            have g3 : ((s.extract rp k).toList == [58]) = false := by rw [h]; rfl
            have g4 : ((s.extract rp k).toList == [60, 58]) = false := by rw [h]; rfl
            have g5 : ((s.extract rp k).toList == [62, 58]) = true := by rw [h]; rfl
            clear h
            go_wp2_with fail
            refine CP.out.mono ?_
            rintro e w1 ⟨rfl, n1, rfl⟩
            go_simp
            go_wp2_with fail
            refine (CW.out n1).mono ?_
            rintro e w2 ⟨rfl, rfl⟩
            go_simp
            go_wp2_with fail
            go_quiet (fail)
            generalize s.extract rp k = tx at *
            go_wp2_with fail
            refine (CA.out _ 3).mono ?_
            rintro e w5 ⟨rfl, hL5, hK5⟩
            go_simp
            go_wp2_with fail
            go_end0
            rw [HV1.out, HE.out]
            exact ⟨rfl, hL5, (HX.out _).2.trans hK5⟩
        · have g0 : ((s.extract rp k).toList == [61]) = false := by cases hh : ((s.extract rp k).toList == [61]) with | false => rfl | true => exact absurd (by simp [mkM, hh]) hmk
          have g1 : ((s.extract rp k).toList == [61, 62]) = false := by cases hh : ((s.extract rp k).toList == [61, 62]) with | false => rfl | true => exact absurd (by simp [mkM, hh]) hmk
          have g2 : ((s.extract rp k).toList == [60, 45]) = false := by cases hh : ((s.extract rp k).toList == [60, 45]) with | false => rfl | true => exact absurd (by simp [mkM, hh]) hmk
          have g3 : ((s.extract rp k).toList == [58]) = false := by cases hh : ((s.extract rp k).toList == [58]) with | false => rfl | true => exact absurd (by simp [mkM, hh]) hmk
          have g4 : ((s.extract rp k).toList == [60, 58]) = false := by cases hh : ((s.extract rp k).toList == [60, 58]) with | false => rfl | true => exact absurd (by simp [mkM, hh]) hmk
          have g5 : ((s.extract rp k).toList == [62, 58]) = false := by cases hh : ((s.extract rp k).toList == [62, 58]) with | false => rfl | true => exact absurd (by simp [mkM, hh]) hmk
          by_cases h64 : 64 < (s.extract rp k).size
          · have he : opEnd s k ⟨rp, ro, rt, rl, rs⟩ = .error (rp, 18) := by unfold opEnd; rw [if_neg hmk, if_pos h64]
            have HE := Lib.hid he
            have q64 : (64 : Int) < ((s.extract rp k).size : Int) := by omega
            clear he hmk h64
            go_wp2_with fail
            refine CP.out.mono ?_
            rintro e w1 ⟨rfl, n1, rfl⟩
            go_simp
            go_wp2_with fail
            refine (CW.out n1).mono ?_
            rintro e w2 ⟨rfl, rfl⟩
            go_simp
            go_wp2_with fail
            go_quiet (fail)
            generalize s.extract rp k = tx at *
            go_wp2_with (go_at_call 14; refine (fail_any _ _ _).mono ?_; rintro e w5 ⟨rfl, rfl⟩)
            rw [HV1.out, HE.out]
            exact ⟨rfl, rfl, (HX.out _).2⟩
          · have he : opEnd s k ⟨rp, ro, rt, rl, rs⟩ = .ok (addF s 2 (s.extract rp k) rp ⟨k, ro, rt, rl, rs⟩) := by unfold opEnd; rw [if_neg hmk, if_neg h64]
            have HE := Lib.hid he
            have q64 : ¬ (64 : Int) < ((s.extract rp k).size : Int) := by omega
            clear he hmk h64
            go_wp2_with fail
            refine CP.out.mono ?_
            rintro e w1 ⟨rfl, n1, rfl⟩
            go_simp
            go_wp2_with fail
            refine (CW.out n1).mono ?_
            rintro e w2 ⟨rfl, rfl⟩
            go_simp
            go_wp2_with fail
            go_quiet (fail)
            generalize s.extract rp k = tx at *
            go_wp2_with fail
            refine (CA.out _ 2).mono ?_
            rintro e w5 ⟨rfl, hL5, hK5⟩
            go_simp
            go_wp2_with fail
            go_end0
            rw [HV1.out, HE.out]
            exact ⟨rfl, hL5, (HX.out _).2.trans hK5⟩
end Go.Proofs.YtpgcklpcohcchaaDoor
