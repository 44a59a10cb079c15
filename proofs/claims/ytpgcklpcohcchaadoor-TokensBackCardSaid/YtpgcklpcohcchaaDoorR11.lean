/- The reader of tokens: numbers. -/
import Derived.Test.YtpgcklpcohcchaaDoorR10
namespace Go.Proofs.YtpgcklpcohcchaaDoor
open Go Go.RowKit

/-- The offset behind the digits that stand here. -/
def numTo (s : ByteArray) : Nat → Nat → Nat
  | 0, a => a
  | f + 1, a => if cls (pk s a) = 2 then numTo s f (a + 1) else a

theorem cls_pk_lt2 {s : ByteArray} {a : Nat} (h : cls (pk s a) = 2) : a < s.size := by
  apply Classical.byContradiction
  intro hn
  rw [pk_ge hn] at h
  revert h
  decide +kernel
theorem numTo_le (s : ByteArray) : ∀ (f a : Nat), a ≤ s.size → numTo s f a ≤ s.size ∧ a ≤ numTo s f a := by
  intro f
  induction f with
  | zero => intro a h; exact ⟨h, Nat.le_refl _⟩
  | succ f ih =>
    intro a h
    unfold numTo
    split
    · rename_i hi
      have := ih (a + 1) (cls_pk_lt2 hi)
      exact ⟨this.1, by omega⟩
    · exact ⟨h, Nat.le_refl _⟩

def m32 : ByteArray := ⟨#[50, 49, 52, 55, 52, 56, 51, 54, 52, 55]⟩
def m64 : ByteArray := ⟨#[57, 50, 50, 51, 51, 55, 50, 48, 51, 54, 56, 53, 52, 55, 55, 53, 56, 48, 55]⟩

def l32 : List UInt8 := [50, 49, 52, 55, 52, 56, 51, 54, 52, 55]
def l64 : List UInt8 := [57, 50, 50, 51, 51, 55, 50, 48, 51, 54, 56, 53, 52, 55, 55, 53, 56, 48, 55]

def numFin (s dg : ByteArray) (k kd : Nat) (most : List UInt8) (r : RSt) : Except (Nat × Nat) RSt :=
  if (1 < dg.size ∧ pk dg 0 = 48) ∨ inW (pk s k) = true then .error (r.pos, 27)
  else if most.length < dg.size ∨ (dg.size = most.length ∧ Op.bytesLess dg.toList most = false ∧ (dg.toList == most) = false) then .error (r.pos, 25)
  else .ok (addF s kd dg r.pos { r with pos := k })
def numEnd (s : ByteArray) (k : Nat) (r : RSt) : Except (Nat × Nat) RSt :=
  if pk s k = 76 then numFin s (s.extract r.pos k) (k + 1) 5 l64 r else numFin s (s.extract r.pos k) k 4 l32 r
def numF (s : ByteArray) (r : RSt) : Except (Nat × Nat) RSt := numEnd s (numTo s (s.size - r.pos) r.pos) r

set_option maxRecDepth 100000 in
set_option maxHeartbeats 1600000 in
theorem number_any (X : Nat → Prop) (w : World) (rb : Nat) (s : ByteArray) (r : RSt) (vn : Value) (h : RR X w rb s r vn) (hs : s.size ≤ 65536) (hp : r.pos ≤ s.size) (ht : r.told ≤ r.pos) (hli : r.line ≤ r.told) (hst : r.start ≤ r.told) (hn : r.out.length < 4000000)
    (htb : Tab w) (hr : rb ≠ 0) (h0 : 0 < w.heap.size) :
    Calls Tryd.prog 28 #[.pointer (some ⟨rb, 0, none⟩)] w (RdRes X w rb s vn (numF s r)) := by
  obtain ⟨vo, h1, h2, h4⟩ := h
  obtain ⟨rp, ro, rt, rl, rs⟩ := r
  have ao := Bl.row_apart h2 h1 (by decide)
  simp only at hp ht hli hst hn
  have c1 : w.cell? ⟨rb, 1, none⟩ = some (.int .i64 rp) := h1.cell 1
  have H1 := Lib.hid h1
  have H2 := Lib.hid h2
  have H4 := Lib.hid h4
  have HAO := Lib.hid ao
  have HP := Lib.hid hp
  have HA := Lib.hid (show rt ≤ rp ∧ rl ≤ rt ∧ rs ≤ rt ∧ ro.length < 4000000 from ⟨ht, hli, hst, hn⟩)
  have HT := Lib.hid htb
  have HR := Lib.hid hr
  have HZ := Lib.hid h0
  unfold numF
  simp only
  clear h1 h2 h4 ao hp ht hli hst hn htb hr h0
  go_enter Tryd.func28, Tryd.ntmps28
  go_wp2_with fail
  clear c1
  go_loopg [] (s.size - rp) (fun gh wr => ∃ k : Nat, k + gh = s.size ∧ rp ≤ k ∧ Bl wr rb 42 (.string s :: .int .i64 k :: (⟨rp, ro, rt, rl, rs⟩ : RSt).fs vo vn) ∧ Og rb w wr ∧ numTo s gh k = numTo s (s.size - rp) rp)
  case atStart => exact ⟨rp, by have := HP.out; omega, Nat.le_refl _, H1.out, Og.refl _ _, rfl⟩
  case round =>
    obtain ⟨k, hk, hak, hB, hO, hV⟩ := hrel
    have c0 : wr.cell? ⟨rb, 0, none⟩ = some (.string s) := hB.cell 0
    have c1 : wr.cell? ⟨rb, 1, none⟩ = some (.int .i64 k) := hB.cell 1
    have f1 : ∀ n, (wr.drewN n).frozen? ⟨rb, 1, none⟩ = false := fun n => hB.froz 1
    have CP := Lib.hid (peek0 rb s k wr hs (by omega) c0 c1)
    have CQ := Lib.hid (fun n => peek0 rb s k (wr.drewN n) hs (by omega) c0 c1)
    have CW := Lib.hid (fun n => classOf_any (pk s k) (wr.drewN n) (HT.out.bl (hO.drewN n) HR.out HZ.out))
    have CI := Lib.hid (fun n => inWord_any (pk s k) (wr.drewN n) (HT.out.bl (hO.drewN n) HR.out HZ.out))
    have HB := Lib.hid hB
    have HO := Lib.hid hO
    have HV := Lib.hid hV
    clear hB hO hV
    by_cases hgo : cls (pk s k) = 2
    · have hlt := cls_pk_lt2 hgo
      obtain ⟨g', rfl⟩ : ∃ g', gk = g' + 1 := ⟨gk - 1, by omega⟩
      have hv : numTo s (g' + 1) k = numTo s g' (k + 1) := by
        conv => lhs; unfold numTo
        rw [if_pos hgo]
      have HV1 := Lib.hid hv
      rw [hgo] at CW
      clear hgo hv
      go_wp2_with fail
      refine CP.out.mono ?_
      rintro e w1 ⟨rfl, n1, rfl⟩
      go_simp
      go_wp2_with fail
      refine (CW.out n1).mono ?_
      rintro e w2 ⟨rfl, rfl⟩
      go_simp
      go_wp2_with fail
      go_roundg g'
      case rel => exact ⟨k + 1, by omega, by omega, (HB.out.drewN _).set 1 _, (HO.out.drewN _).set 1 _, HV1.out.symm.trans HV.out⟩
      case measure => omega
    · have hd : ((cls (pk s k) : Int) == 2) = false := by simp; omega
      have hv : numTo s gk k = k := by
        cases gk with
        | zero => rfl
        | succ g' => unfold numTo; rw [if_neg hgo]
      have HV1 := Lib.hid (HV.out.symm.trans hv)
      have q1 : (0 : Int) ≤ (rp : Int) := by omega
      have q2 : (rp : Int) ≤ (k : Int) := by omega
      have q3 : (k : Int) ≤ (s.size : Int) := by omega
      obtain ⟨h1a, h1b, h1c, h1d⟩ := HA.out
      clear hgo hv
      by_cases h76 : pk s k = 76
      · have hks : k < s.size := pk_ne (by rw [h76]; decide)
        have hx : ∀ n, RR X ((wr.drewN n).setCell ⟨rb, 1, none⟩ (.int .i64 (k + 1 : Nat))) rb s ⟨k + 1, ro, rt, rl, rs⟩ vn ∧ KX X w ((wr.drewN n).setCell ⟨rb, 1, none⟩ (.int .i64 (k + 1 : Nat))) := fun n => RR.moved (X := X) (r := ⟨rp, ro, rt, rl, rs⟩) (a := k + 1) H2.out H4.out HAO.out ((HB.out.drewN n).set 1 _) ((HO.out.drewN n).set 1 _)
        have hL : (((pk s k).toNat : Int) == 76) = true := by rw [h76]; rfl
        have hx2 : ∀ n m, RR X (((wr.drewN n).setCell ⟨rb, 1, none⟩ (.int .i64 ((k : Int) + 1))).drewN m) rb s ⟨k + 1, ro, rt, rl, rs⟩ vn ∧ KX X w (((wr.drewN n).setCell ⟨rb, 1, none⟩ (.int .i64 ((k : Int) + 1))).drewN m) := fun n m => RR.moved (X := X) (r := ⟨rp, ro, rt, rl, rs⟩) (a := k + 1) H2.out H4.out HAO.out (((HB.out.drewN n).set 1 _).drewN m) (((HO.out.drewN n).set 1 _).drewN m)
        have HX := Lib.hid hx2
        have HX0 := Lib.hid (show ∀ n, RR X ((wr.drewN n).setCell ⟨rb, 1, none⟩ (.int .i64 ((k : Int) + 1))) rb s ⟨k + 1, ro, rt, rl, rs⟩ vn ∧ KX X w ((wr.drewN n).setCell ⟨rb, 1, none⟩ (.int .i64 ((k : Int) + 1))) from hx)
        have CR := Lib.hid (fun n => peek0 rb s (k + 1) ((wr.drewN n).setCell ⟨rb, 1, none⟩ (.int .i64 ((k : Int) + 1))) hs (by omega) (((HB.out.drewN n).set 1 (.int .i64 ((k : Int) + 1))).cell 0) (((HB.out.drewN n).set 1 (.int .i64 ((k : Int) + 1))).cell 1))
        have CI := Lib.hid (fun n m => inWord_any (pk s (k + 1)) (((wr.drewN n).setCell ⟨rb, 1, none⟩ (.int .i64 ((k : Int) + 1))).drewN m) (HT.out.bl (((HO.out.drewN n).set 1 _).drewN m) HR.out HZ.out))
        have CA := Lib.hid (fun n m kd => add_any X (((wr.drewN n).setCell ⟨rb, 1, none⟩ (.int .i64 ((k : Int) + 1))).drewN m) rb s ⟨k + 1, ro, rt, rl, rs⟩ vn kd (s.extract rp k) rp (hx2 n m).1 hs (by omega) h1a h1b h1c h1d)
        have hkb : (k : Int) ≤ 65536 := by omega
        have H76 := Lib.hid h76
        clear h76
        clear hx hx2 h1a h1b h1c h1d
        by_cases hs1 : 1 < (s.extract rp k).size
        · have g1 : (1 : Int) < ((s.extract rp k).size : Int) := by omega
          have g1n : 0 < (s.extract rp k).size := by omega
          have hpd := pk_lt g1n
          by_cases h48 : pk (s.extract rp k) 0 = 48
          · have g2 : ((s.extract rp k)[0]'g1n).toNat = 48 := by rw [← hpd, h48]; rfl
            have g2' : ((((s.extract rp k)[0]'g1n).toNat : Int) == 48) = true := by rw [g2]; rfl
            have he : numEnd s k ⟨rp, ro, rt, rl, rs⟩ = .error (rp, 27) := by
              unfold numEnd; simp only [H76.out, if_true]; unfold numFin; rw [if_pos (.inl ⟨hs1, h48⟩)]
            have HE := Lib.hid he
            clear he
            go_wp2_with fail
            refine CP.out.mono ?_
            rintro e w1 ⟨rfl, n1, rfl⟩
            go_simp
            go_wp2_with fail
            refine (CW.out n1).mono ?_
            rintro e w2 ⟨rfl, rfl⟩
            go_simp
            go_wp2_with fail
            go_quiet (fail)
            generalize s.extract rp k = dg at *
            go_wp2_with fail
            refine (CQ.out _).mono ?_
            rintro e w1 ⟨rfl, n2, rfl⟩
            go_simp
            go_wp2_with (go_at_call 14; refine (fail_any _ _ _).mono ?_; rintro e w5 ⟨rfl, rfl⟩)
            rw [HV1.out, HE.out]
            exact ⟨rfl, rfl, (HX0.out _).2⟩
          · have g2 : ¬ ((((s.extract rp k)[0]'g1n).toNat : Int) = (48 : Nat)) := u8_ne (n := 48) (by decide) (by rw [← hpd]; exact h48)
            have g2' : ((((s.extract rp k)[0]'g1n).toNat : Int) == 48) = false := by simpa using g2
            clear g2
            cases hiw : inW (pk s (k + 1)) with
            | true =>
              rw [hiw] at CI
              have he : numEnd s k ⟨rp, ro, rt, rl, rs⟩ = .error (rp, 27) := by
                unfold numEnd; simp only [H76.out, if_true]; unfold numFin; rw [if_pos (.inr hiw)]
              have HE := Lib.hid he
              clear he
              go_wp2_with fail
              refine CP.out.mono ?_
              rintro e w1 ⟨rfl, n1, rfl⟩
              go_simp
              go_wp2_with fail
              refine (CW.out n1).mono ?_
              rintro e w2 ⟨rfl, rfl⟩
              go_simp
              go_wp2_with fail
              go_quiet (fail)
              generalize s.extract rp k = dg at *
              go_wp2_with fail
              refine (CQ.out _).mono ?_
              rintro e w1 ⟨rfl, n2, rfl⟩
              go_simp
              go_wp2_with fail
              refine (CR.out _).mono ?_
              rintro e w1 ⟨rfl, n3, rfl⟩
              go_simp
              go_wp2_with fail
              refine (CI.out _ _).mono ?_
              rintro e w1 ⟨rfl, rfl⟩
              go_simp
              go_wp2_with (go_at_call 14; refine (fail_any _ _ _).mono ?_; rintro e w5 ⟨rfl, rfl⟩)
              rw [HV1.out, HE.out]
              exact ⟨rfl, rfl, (HX.out _ _).2⟩
            | false =>
              rw [hiw] at CI
              by_cases hd1 : 19 < (s.extract rp k).size
              · have he : numEnd s k ⟨rp, ro, rt, rl, rs⟩ = .error (rp, 25) := by
                  unfold numEnd; simp only [H76.out, if_true]; unfold numFin; rw [if_neg (by rintro (⟨_, h⟩ | h); exact h48 h; rw [hiw] at h; exact absurd h (by decide))]; rw [if_pos (.inl hd1)]
                have HE := Lib.hid he
                clear he
                have p1 : (19 : Int) < ((s.extract rp k).size : Int) := by omega
                go_wp2_with fail
                refine CP.out.mono ?_
                rintro e w1 ⟨rfl, n1, rfl⟩
                go_simp
                go_wp2_with fail
                refine (CW.out n1).mono ?_
                rintro e w2 ⟨rfl, rfl⟩
                go_simp
                go_wp2_with fail
                go_quiet (fail)
                generalize s.extract rp k = dg at *
                go_wp2_with fail
                refine (CQ.out _).mono ?_
                rintro e w1 ⟨rfl, n2, rfl⟩
                go_simp
                go_wp2_with fail
                refine (CR.out _).mono ?_
                rintro e w1 ⟨rfl, n3, rfl⟩
                go_simp
                go_wp2_with fail
                refine (CI.out _ _).mono ?_
                rintro e w1 ⟨rfl, rfl⟩
                go_simp
                go_wp2_with (go_at_call 14; refine (fail_any _ _ _).mono ?_; rintro e w5 ⟨rfl, rfl⟩)
                rw [HV1.out, HE.out]
                exact ⟨rfl, rfl, (HX.out _ _).2⟩
              · have p1 : ¬ (19 : Int) < ((s.extract rp k).size : Int) := by omega
                have p1' : decide ((19 : Int) < ((s.extract rp k).size : Int)) = false := by simpa using p1
                by_cases hd2 : (s.extract rp k).size = 19
                · have p2 : (((s.extract rp k).size : Int) == 19) = true := by rw [beq_iff_eq]; omega
                  have p2' : ((s.extract rp k).size : Int) = 19 := by omega
                  cases hb1 : Op.bytesLess (s.extract rp k).toList [57, 50, 50, 51, 51, 55, 50, 48, 51, 54, 56, 53, 52, 55, 55, 53, 56, 48, 55] with
                  | true =>
                    have he : numEnd s k ⟨rp, ro, rt, rl, rs⟩ = .ok (addF s 5 (s.extract rp k) rp ⟨(k + 1), ro, rt, rl, rs⟩) := by
                      unfold numEnd; simp only [H76.out, if_true]; unfold numFin; rw [if_neg (by rintro (⟨_, h⟩ | h); exact h48 h; rw [hiw] at h; exact absurd h (by decide))]; rw [if_neg (by rintro (h | ⟨_, h, _⟩); exact hd1 h; exact absurd (h.symm.trans hb1) (by decide))]
                    have HE := Lib.hid he
                    clear he
                    go_wp2_with fail
                    refine CP.out.mono ?_
                    rintro e w1 ⟨rfl, n1, rfl⟩
                    go_simp
                    go_wp2_with fail
                    refine (CW.out n1).mono ?_
                    rintro e w2 ⟨rfl, rfl⟩
                    go_simp
                    go_wp2_with fail
                    go_quiet (fail)
                    generalize s.extract rp k = dg at *
                    go_wp2_with fail
                    refine (CQ.out _).mono ?_
                    rintro e w1 ⟨rfl, n2, rfl⟩
                    go_simp
                    go_wp2_with fail
                    refine (CR.out _).mono ?_
                    rintro e w1 ⟨rfl, n3, rfl⟩
                    go_simp
                    go_wp2_with fail
                    refine (CI.out _ _).mono ?_
                    rintro e w1 ⟨rfl, rfl⟩
                    go_simp
                    go_wp2_with fail
                    refine (CA.out _ _ 5).mono ?_
                    rintro e w5 ⟨rfl, hL5, hK5⟩
                    go_simp
                    go_wp2_with fail
                    go_end0
                    rw [HV1.out, HE.out]
                    exact ⟨rfl, hL5, (HX.out _ _).2.trans hK5⟩
                  | false =>
                    cases hb2 : ((s.extract rp k).toList == [57, 50, 50, 51, 51, 55, 50, 48, 51, 54, 56, 53, 52, 55, 55, 53, 56, 48, 55]) with
                    | true =>
                      have he : numEnd s k ⟨rp, ro, rt, rl, rs⟩ = .ok (addF s 5 (s.extract rp k) rp ⟨(k + 1), ro, rt, rl, rs⟩) := by
                        unfold numEnd; simp only [H76.out, if_true]; unfold numFin; rw [if_neg (by rintro (⟨_, h⟩ | h); exact h48 h; rw [hiw] at h; exact absurd h (by decide))]; rw [if_neg (by rintro (h | ⟨_, _, h⟩); exact hd1 h; exact absurd (h.symm.trans hb2) (by decide))]
                      have HE := Lib.hid he
                      clear he
                      go_wp2_with fail
                      refine CP.out.mono ?_
                      rintro e w1 ⟨rfl, n1, rfl⟩
                      go_simp
                      go_wp2_with fail
                      refine (CW.out n1).mono ?_
                      rintro e w2 ⟨rfl, rfl⟩
                      go_simp
                      go_wp2_with fail
                      go_quiet (fail)
                      generalize s.extract rp k = dg at *
                      go_wp2_with fail
                      refine (CQ.out _).mono ?_
                      rintro e w1 ⟨rfl, n2, rfl⟩
                      go_simp
                      go_wp2_with fail
                      refine (CR.out _).mono ?_
                      rintro e w1 ⟨rfl, n3, rfl⟩
                      go_simp
                      go_wp2_with fail
                      refine (CI.out _ _).mono ?_
                      rintro e w1 ⟨rfl, rfl⟩
                      go_simp
                      go_wp2_with fail
                      refine (CA.out _ _ 5).mono ?_
                      rintro e w5 ⟨rfl, hL5, hK5⟩
                      go_simp
                      go_wp2_with fail
                      go_end0
                      rw [HV1.out, HE.out]
                      exact ⟨rfl, hL5, (HX.out _ _).2.trans hK5⟩
                    | false =>
                      have he : numEnd s k ⟨rp, ro, rt, rl, rs⟩ = .error (rp, 25) := by
                        unfold numEnd; simp only [H76.out, if_true]; unfold numFin; rw [if_neg (by rintro (⟨_, h⟩ | h); exact h48 h; rw [hiw] at h; exact absurd h (by decide))]; rw [if_pos (.inr ⟨hd2, hb1, hb2⟩)]
                      have HE := Lib.hid he
                      clear he
                      go_wp2_with fail
                      refine CP.out.mono ?_
                      rintro e w1 ⟨rfl, n1, rfl⟩
                      go_simp
                      go_wp2_with fail
                      refine (CW.out n1).mono ?_
                      rintro e w2 ⟨rfl, rfl⟩
                      go_simp
                      go_wp2_with fail
                      go_quiet (fail)
                      generalize s.extract rp k = dg at *
                      go_wp2_with fail
                      refine (CQ.out _).mono ?_
                      rintro e w1 ⟨rfl, n2, rfl⟩
                      go_simp
                      go_wp2_with fail
                      refine (CR.out _).mono ?_
                      rintro e w1 ⟨rfl, n3, rfl⟩
                      go_simp
                      go_wp2_with fail
                      refine (CI.out _ _).mono ?_
                      rintro e w1 ⟨rfl, rfl⟩
                      go_simp
                      go_wp2_with (go_at_call 14; refine (fail_any _ _ _).mono ?_; rintro e w5 ⟨rfl, rfl⟩)
                      rw [HV1.out, HE.out]
                      exact ⟨rfl, rfl, (HX.out _ _).2⟩
                · have p2 : (((s.extract rp k).size : Int) == 19) = false := by rw [beq_eq_false_iff_ne]; intro h; omega
                  have he : numEnd s k ⟨rp, ro, rt, rl, rs⟩ = .ok (addF s 5 (s.extract rp k) rp ⟨(k + 1), ro, rt, rl, rs⟩) := by
                    unfold numEnd; simp only [H76.out, if_true]; unfold numFin; rw [if_neg (by rintro (⟨_, h⟩ | h); exact h48 h; rw [hiw] at h; exact absurd h (by decide))]; rw [if_neg (by rintro (h | ⟨h, _⟩); exact hd1 h; exact hd2 h)]
                  have HE := Lib.hid he
                  clear he
                  go_wp2_with fail
                  refine CP.out.mono ?_
                  rintro e w1 ⟨rfl, n1, rfl⟩
                  go_simp
                  go_wp2_with fail
                  refine (CW.out n1).mono ?_
                  rintro e w2 ⟨rfl, rfl⟩
                  go_simp
                  go_wp2_with fail
                  go_quiet (fail)
                  generalize s.extract rp k = dg at *
                  go_wp2_with fail
                  refine (CQ.out _).mono ?_
                  rintro e w1 ⟨rfl, n2, rfl⟩
                  go_simp
                  go_wp2_with fail
                  refine (CR.out _).mono ?_
                  rintro e w1 ⟨rfl, n3, rfl⟩
                  go_simp
                  go_wp2_with fail
                  refine (CI.out _ _).mono ?_
                  rintro e w1 ⟨rfl, rfl⟩
                  go_simp
                  go_wp2_with fail
                  refine (CA.out _ _ 5).mono ?_
                  rintro e w5 ⟨rfl, hL5, hK5⟩
                  go_simp
                  go_wp2_with fail
                  go_end0
                  rw [HV1.out, HE.out]
                  exact ⟨rfl, hL5, (HX.out _ _).2.trans hK5⟩
        · have g1 : ¬ (1 : Int) < ((s.extract rp k).size : Int) := by omega
          have g1' : decide ((1 : Int) < ((s.extract rp k).size : Int)) = false := by simpa using g1
          cases hiw : inW (pk s (k + 1)) with
          | true =>
            rw [hiw] at CI
            have he : numEnd s k ⟨rp, ro, rt, rl, rs⟩ = .error (rp, 27) := by
              unfold numEnd; simp only [H76.out, if_true]; unfold numFin; rw [if_pos (.inr hiw)]
            have HE := Lib.hid he
            clear he
            go_wp2_with fail
            refine CP.out.mono ?_
            rintro e w1 ⟨rfl, n1, rfl⟩
            go_simp
            go_wp2_with fail
            refine (CW.out n1).mono ?_
            rintro e w2 ⟨rfl, rfl⟩
            go_simp
            go_wp2_with fail
            go_quiet (fail)
            generalize s.extract rp k = dg at *
            go_wp2_with fail
            refine (CQ.out _).mono ?_
            rintro e w1 ⟨rfl, n2, rfl⟩
            go_simp
            go_wp2_with fail
            refine (CR.out _).mono ?_
            rintro e w1 ⟨rfl, n3, rfl⟩
            go_simp
            go_wp2_with fail
            refine (CI.out _ _).mono ?_
            rintro e w1 ⟨rfl, rfl⟩
            go_simp
            go_wp2_with (go_at_call 14; refine (fail_any _ _ _).mono ?_; rintro e w5 ⟨rfl, rfl⟩)
            rw [HV1.out, HE.out]
            exact ⟨rfl, rfl, (HX.out _ _).2⟩
          | false =>
            rw [hiw] at CI
            have hd1 : ¬ 19 < (s.extract rp k).size := by omega
            have hd2 : ¬ (s.extract rp k).size = 19 := by omega
            have p1 : ¬ (19 : Int) < ((s.extract rp k).size : Int) := by omega
            have p1' : decide ((19 : Int) < ((s.extract rp k).size : Int)) = false := by simpa using p1
            have p2 : (((s.extract rp k).size : Int) == 19) = false := by rw [beq_eq_false_iff_ne]; intro h; omega
            have he : numEnd s k ⟨rp, ro, rt, rl, rs⟩ = .ok (addF s 5 (s.extract rp k) rp ⟨(k + 1), ro, rt, rl, rs⟩) := by
              unfold numEnd; simp only [H76.out, if_true]; unfold numFin; rw [if_neg (by rintro (⟨h, _⟩ | h); exact hs1 h; rw [hiw] at h; exact absurd h (by decide))]; rw [if_neg (by rintro (h | ⟨h, _⟩); exact hd1 h; exact hd2 h)]
            have HE := Lib.hid he
            clear he
            go_wp2_with fail
            refine CP.out.mono ?_
            rintro e w1 ⟨rfl, n1, rfl⟩
            go_simp
            go_wp2_with fail
            refine (CW.out n1).mono ?_
            rintro e w2 ⟨rfl, rfl⟩
            go_simp
            go_wp2_with fail
            go_quiet (fail)
            generalize s.extract rp k = dg at *
            go_wp2_with fail
            refine (CQ.out _).mono ?_
            rintro e w1 ⟨rfl, n2, rfl⟩
            go_simp
            go_wp2_with fail
            refine (CR.out _).mono ?_
            rintro e w1 ⟨rfl, n3, rfl⟩
            go_simp
            go_wp2_with fail
            refine (CI.out _ _).mono ?_
            rintro e w1 ⟨rfl, rfl⟩
            go_simp
            go_wp2_with fail
            refine (CA.out _ _ 5).mono ?_
            rintro e w5 ⟨rfl, hL5, hK5⟩
            go_simp
            go_wp2_with fail
            go_end0
            rw [HV1.out, HE.out]
            exact ⟨rfl, hL5, (HX.out _ _).2.trans hK5⟩
      · have hL : (((pk s k).toNat : Int) == 76) = false := by simpa using u8_ne (n := 76) (by decide) h76
        have hx : ∀ n, RR X (wr.drewN n) rb s ⟨k, ro, rt, rl, rs⟩ vn ∧ KX X w (wr.drewN n) := fun n => RR.moved (X := X) (r := ⟨rp, ro, rt, rl, rs⟩) (a := k) H2.out H4.out HAO.out (HB.out.drewN n) (HO.out.drewN n)
        have HX := Lib.hid hx
        have CR := CQ
        have CA := Lib.hid (fun n kd => add_any X (wr.drewN n) rb s ⟨k, ro, rt, rl, rs⟩ vn kd (s.extract rp k) rp (hx n).1 hs (by omega) h1a h1b h1c h1d)
        clear hx h1a h1b h1c h1d
        by_cases hs1 : 1 < (s.extract rp k).size
        · have g1 : (1 : Int) < ((s.extract rp k).size : Int) := by omega
          have g1n : 0 < (s.extract rp k).size := by omega
          have hpd := pk_lt g1n
          by_cases h48 : pk (s.extract rp k) 0 = 48
          · have g2 : ((s.extract rp k)[0]'g1n).toNat = 48 := by rw [← hpd, h48]; rfl
            have g2' : ((((s.extract rp k)[0]'g1n).toNat : Int) == 48) = true := by rw [g2]; rfl
            have he : numEnd s k ⟨rp, ro, rt, rl, rs⟩ = .error (rp, 27) := by
              unfold numEnd; simp only [h76, if_false]; unfold numFin; rw [if_pos (.inl ⟨hs1, h48⟩)]
            have HE := Lib.hid he
            clear he
            go_wp2_with fail
            refine CP.out.mono ?_
            rintro e w1 ⟨rfl, n1, rfl⟩
            go_simp
            go_wp2_with fail
            refine (CW.out n1).mono ?_
            rintro e w2 ⟨rfl, rfl⟩
            go_simp
            go_wp2_with fail
            go_quiet (fail)
            generalize s.extract rp k = dg at *
            go_wp2_with fail
            refine (CQ.out _).mono ?_
            rintro e w1 ⟨rfl, n2, rfl⟩
            go_simp
            go_wp2_with (go_at_call 14; refine (fail_any _ _ _).mono ?_; rintro e w5 ⟨rfl, rfl⟩)
            rw [HV1.out, HE.out]
            exact ⟨rfl, rfl, (HX.out _).2⟩
          · have g2 : ¬ ((((s.extract rp k)[0]'g1n).toNat : Int) = (48 : Nat)) := u8_ne (n := 48) (by decide) (by rw [← hpd]; exact h48)
            have g2' : ((((s.extract rp k)[0]'g1n).toNat : Int) == 48) = false := by simpa using g2
            clear g2
            cases hiw : inW (pk s k) with
            | true =>
              rw [hiw] at CI
              have he : numEnd s k ⟨rp, ro, rt, rl, rs⟩ = .error (rp, 27) := by
                unfold numEnd; simp only [h76, if_false]; unfold numFin; rw [if_pos (.inr hiw)]
              have HE := Lib.hid he
              clear he
              go_wp2_with fail
              refine CP.out.mono ?_
              rintro e w1 ⟨rfl, n1, rfl⟩
              go_simp
              go_wp2_with fail
              refine (CW.out n1).mono ?_
              rintro e w2 ⟨rfl, rfl⟩
              go_simp
              go_wp2_with fail
              go_quiet (fail)
              generalize s.extract rp k = dg at *
              go_wp2_with fail
              refine (CQ.out _).mono ?_
              rintro e w1 ⟨rfl, n2, rfl⟩
              go_simp
              go_wp2_with fail
              refine (CR.out _).mono ?_
              rintro e w1 ⟨rfl, n3, rfl⟩
              go_simp
              go_wp2_with fail
              refine (CI.out _).mono ?_
              rintro e w1 ⟨rfl, rfl⟩
              go_simp
              go_wp2_with (go_at_call 14; refine (fail_any _ _ _).mono ?_; rintro e w5 ⟨rfl, rfl⟩)
              rw [HV1.out, HE.out]
              exact ⟨rfl, rfl, (HX.out _).2⟩
            | false =>
              rw [hiw] at CI
              by_cases hd1 : 10 < (s.extract rp k).size
              · have he : numEnd s k ⟨rp, ro, rt, rl, rs⟩ = .error (rp, 25) := by
                  unfold numEnd; simp only [h76, if_false]; unfold numFin; rw [if_neg (by rintro (⟨_, h⟩ | h); exact h48 h; rw [hiw] at h; exact absurd h (by decide))]; rw [if_pos (.inl hd1)]
                have HE := Lib.hid he
                clear he
                have p1 : (10 : Int) < ((s.extract rp k).size : Int) := by omega
                go_wp2_with fail
                refine CP.out.mono ?_
                rintro e w1 ⟨rfl, n1, rfl⟩
                go_simp
                go_wp2_with fail
                refine (CW.out n1).mono ?_
                rintro e w2 ⟨rfl, rfl⟩
                go_simp
                go_wp2_with fail
                go_quiet (fail)
                generalize s.extract rp k = dg at *
                go_wp2_with fail
                refine (CQ.out _).mono ?_
                rintro e w1 ⟨rfl, n2, rfl⟩
                go_simp
                go_wp2_with fail
                refine (CR.out _).mono ?_
                rintro e w1 ⟨rfl, n3, rfl⟩
                go_simp
                go_wp2_with fail
                refine (CI.out _).mono ?_
                rintro e w1 ⟨rfl, rfl⟩
                go_simp
                go_wp2_with (go_at_call 14; refine (fail_any _ _ _).mono ?_; rintro e w5 ⟨rfl, rfl⟩)
                rw [HV1.out, HE.out]
                exact ⟨rfl, rfl, (HX.out _).2⟩
              · have p1 : ¬ (10 : Int) < ((s.extract rp k).size : Int) := by omega
                have p1' : decide ((10 : Int) < ((s.extract rp k).size : Int)) = false := by simpa using p1
                by_cases hd2 : (s.extract rp k).size = 10
                · have p2 : (((s.extract rp k).size : Int) == 10) = true := by rw [beq_iff_eq]; omega
                  have p2' : ((s.extract rp k).size : Int) = 10 := by omega
                  cases hb1 : Op.bytesLess (s.extract rp k).toList [50, 49, 52, 55, 52, 56, 51, 54, 52, 55] with
                  | true =>
                    have he : numEnd s k ⟨rp, ro, rt, rl, rs⟩ = .ok (addF s 4 (s.extract rp k) rp ⟨k, ro, rt, rl, rs⟩) := by
                      unfold numEnd; simp only [h76, if_false]; unfold numFin; rw [if_neg (by rintro (⟨_, h⟩ | h); exact h48 h; rw [hiw] at h; exact absurd h (by decide))]; rw [if_neg (by rintro (h | ⟨_, h, _⟩); exact hd1 h; exact absurd (h.symm.trans hb1) (by decide))]
                    have HE := Lib.hid he
                    clear he
                    go_wp2_with fail
                    refine CP.out.mono ?_
                    rintro e w1 ⟨rfl, n1, rfl⟩
                    go_simp
                    go_wp2_with fail
                    refine (CW.out n1).mono ?_
                    rintro e w2 ⟨rfl, rfl⟩
                    go_simp
                    go_wp2_with fail
                    go_quiet (fail)
                    generalize s.extract rp k = dg at *
                    go_wp2_with fail
                    refine (CQ.out _).mono ?_
                    rintro e w1 ⟨rfl, n2, rfl⟩
                    go_simp
                    go_wp2_with fail
                    refine (CR.out _).mono ?_
                    rintro e w1 ⟨rfl, n3, rfl⟩
                    go_simp
                    go_wp2_with fail
                    refine (CI.out _).mono ?_
                    rintro e w1 ⟨rfl, rfl⟩
                    go_simp
                    go_wp2_with fail
                    refine (CA.out _ 4).mono ?_
                    rintro e w5 ⟨rfl, hL5, hK5⟩
                    go_simp
                    go_wp2_with fail
                    go_end0
                    rw [HV1.out, HE.out]
                    exact ⟨rfl, hL5, (HX.out _).2.trans hK5⟩
                  | false =>
                    cases hb2 : ((s.extract rp k).toList == [50, 49, 52, 55, 52, 56, 51, 54, 52, 55]) with
                    | true =>
                      have he : numEnd s k ⟨rp, ro, rt, rl, rs⟩ = .ok (addF s 4 (s.extract rp k) rp ⟨k, ro, rt, rl, rs⟩) := by
                        unfold numEnd; simp only [h76, if_false]; unfold numFin; rw [if_neg (by rintro (⟨_, h⟩ | h); exact h48 h; rw [hiw] at h; exact absurd h (by decide))]; rw [if_neg (by rintro (h | ⟨_, _, h⟩); exact hd1 h; exact absurd (h.symm.trans hb2) (by decide))]
                      have HE := Lib.hid he
                      clear he
                      go_wp2_with fail
                      refine CP.out.mono ?_
                      rintro e w1 ⟨rfl, n1, rfl⟩
                      go_simp
                      go_wp2_with fail
                      refine (CW.out n1).mono ?_
                      rintro e w2 ⟨rfl, rfl⟩
                      go_simp
                      go_wp2_with fail
                      go_quiet (fail)
                      generalize s.extract rp k = dg at *
                      go_wp2_with fail
                      refine (CQ.out _).mono ?_
                      rintro e w1 ⟨rfl, n2, rfl⟩
                      go_simp
                      go_wp2_with fail
                      refine (CR.out _).mono ?_
                      rintro e w1 ⟨rfl, n3, rfl⟩
                      go_simp
                      go_wp2_with fail
                      refine (CI.out _).mono ?_
                      rintro e w1 ⟨rfl, rfl⟩
                      go_simp
                      go_wp2_with fail
                      refine (CA.out _ 4).mono ?_
                      rintro e w5 ⟨rfl, hL5, hK5⟩
                      go_simp
                      go_wp2_with fail
                      go_end0
                      rw [HV1.out, HE.out]
                      exact ⟨rfl, hL5, (HX.out _).2.trans hK5⟩
                    | false =>
                      have he : numEnd s k ⟨rp, ro, rt, rl, rs⟩ = .error (rp, 25) := by
                        unfold numEnd; simp only [h76, if_false]; unfold numFin; rw [if_neg (by rintro (⟨_, h⟩ | h); exact h48 h; rw [hiw] at h; exact absurd h (by decide))]; rw [if_pos (.inr ⟨hd2, hb1, hb2⟩)]
                      have HE := Lib.hid he
                      clear he
                      go_wp2_with fail
                      refine CP.out.mono ?_
                      rintro e w1 ⟨rfl, n1, rfl⟩
                      go_simp
                      go_wp2_with fail
                      refine (CW.out n1).mono ?_
                      rintro e w2 ⟨rfl, rfl⟩
                      go_simp
                      go_wp2_with fail
                      go_quiet (fail)
                      generalize s.extract rp k = dg at *
                      go_wp2_with fail
                      refine (CQ.out _).mono ?_
                      rintro e w1 ⟨rfl, n2, rfl⟩
                      go_simp
                      go_wp2_with fail
                      refine (CR.out _).mono ?_
                      rintro e w1 ⟨rfl, n3, rfl⟩
                      go_simp
                      go_wp2_with fail
                      refine (CI.out _).mono ?_
                      rintro e w1 ⟨rfl, rfl⟩
                      go_simp
                      go_wp2_with (go_at_call 14; refine (fail_any _ _ _).mono ?_; rintro e w5 ⟨rfl, rfl⟩)
                      rw [HV1.out, HE.out]
                      exact ⟨rfl, rfl, (HX.out _).2⟩
                · have p2 : (((s.extract rp k).size : Int) == 10) = false := by rw [beq_eq_false_iff_ne]; intro h; omega
                  have he : numEnd s k ⟨rp, ro, rt, rl, rs⟩ = .ok (addF s 4 (s.extract rp k) rp ⟨k, ro, rt, rl, rs⟩) := by
                    unfold numEnd; simp only [h76, if_false]; unfold numFin; rw [if_neg (by rintro (⟨_, h⟩ | h); exact h48 h; rw [hiw] at h; exact absurd h (by decide))]; rw [if_neg (by rintro (h | ⟨h, _⟩); exact hd1 h; exact hd2 h)]
                  have HE := Lib.hid he
                  clear he
                  go_wp2_with fail
                  refine CP.out.mono ?_
                  rintro e w1 ⟨rfl, n1, rfl⟩
                  go_simp
                  go_wp2_with fail
                  refine (CW.out n1).mono ?_
                  rintro e w2 ⟨rfl, rfl⟩
                  go_simp
                  go_wp2_with fail
                  go_quiet (fail)
                  generalize s.extract rp k = dg at *
                  go_wp2_with fail
                  refine (CQ.out _).mono ?_
                  rintro e w1 ⟨rfl, n2, rfl⟩
                  go_simp
                  go_wp2_with fail
                  refine (CR.out _).mono ?_
                  rintro e w1 ⟨rfl, n3, rfl⟩
                  go_simp
                  go_wp2_with fail
                  refine (CI.out _).mono ?_
                  rintro e w1 ⟨rfl, rfl⟩
                  go_simp
                  go_wp2_with fail
                  refine (CA.out _ 4).mono ?_
                  rintro e w5 ⟨rfl, hL5, hK5⟩
                  go_simp
                  go_wp2_with fail
                  go_end0
                  rw [HV1.out, HE.out]
                  exact ⟨rfl, hL5, (HX.out _).2.trans hK5⟩
        · have g1 : ¬ (1 : Int) < ((s.extract rp k).size : Int) := by omega
          have g1' : decide ((1 : Int) < ((s.extract rp k).size : Int)) = false := by simpa using g1
          cases hiw : inW (pk s k) with
          | true =>
            rw [hiw] at CI
            have he : numEnd s k ⟨rp, ro, rt, rl, rs⟩ = .error (rp, 27) := by
              unfold numEnd; simp only [h76, if_false]; unfold numFin; rw [if_pos (.inr hiw)]
            have HE := Lib.hid he
            clear he
            go_wp2_with fail
            refine CP.out.mono ?_
            rintro e w1 ⟨rfl, n1, rfl⟩
            go_simp
            go_wp2_with fail
            refine (CW.out n1).mono ?_
            rintro e w2 ⟨rfl, rfl⟩
            go_simp
            go_wp2_with fail
            go_quiet (fail)
            generalize s.extract rp k = dg at *
            go_wp2_with fail
            refine (CQ.out _).mono ?_
            rintro e w1 ⟨rfl, n2, rfl⟩
            go_simp
            go_wp2_with fail
            refine (CR.out _).mono ?_
            rintro e w1 ⟨rfl, n3, rfl⟩
            go_simp
            go_wp2_with fail
            refine (CI.out _).mono ?_
            rintro e w1 ⟨rfl, rfl⟩
            go_simp
            go_wp2_with (go_at_call 14; refine (fail_any _ _ _).mono ?_; rintro e w5 ⟨rfl, rfl⟩)
            rw [HV1.out, HE.out]
            exact ⟨rfl, rfl, (HX.out _).2⟩
          | false =>
            rw [hiw] at CI
            have hd1 : ¬ 10 < (s.extract rp k).size := by omega
            have hd2 : ¬ (s.extract rp k).size = 10 := by omega
            have p1 : ¬ (10 : Int) < ((s.extract rp k).size : Int) := by omega
            have p1' : decide ((10 : Int) < ((s.extract rp k).size : Int)) = false := by simpa using p1
            have p2 : (((s.extract rp k).size : Int) == 10) = false := by rw [beq_eq_false_iff_ne]; intro h; omega
            have he : numEnd s k ⟨rp, ro, rt, rl, rs⟩ = .ok (addF s 4 (s.extract rp k) rp ⟨k, ro, rt, rl, rs⟩) := by
              unfold numEnd; simp only [h76, if_false]; unfold numFin; rw [if_neg (by rintro (⟨h, _⟩ | h); exact hs1 h; rw [hiw] at h; exact absurd h (by decide))]; rw [if_neg (by rintro (h | ⟨h, _⟩); exact hd1 h; exact hd2 h)]
            have HE := Lib.hid he
            clear he
            go_wp2_with fail
            refine CP.out.mono ?_
            rintro e w1 ⟨rfl, n1, rfl⟩
            go_simp
            go_wp2_with fail
            refine (CW.out n1).mono ?_
            rintro e w2 ⟨rfl, rfl⟩
            go_simp
            go_wp2_with fail
            go_quiet (fail)
            generalize s.extract rp k = dg at *
            go_wp2_with fail
            refine (CQ.out _).mono ?_
            rintro e w1 ⟨rfl, n2, rfl⟩
            go_simp
            go_wp2_with fail
            refine (CR.out _).mono ?_
            rintro e w1 ⟨rfl, n3, rfl⟩
            go_simp
            go_wp2_with fail
            refine (CI.out _).mono ?_
            rintro e w1 ⟨rfl, rfl⟩
            go_simp
            go_wp2_with fail
            refine (CA.out _ 4).mono ?_
            rintro e w5 ⟨rfl, hL5, hK5⟩
            go_simp
            go_wp2_with fail
            go_end0
            rw [HV1.out, HE.out]
            exact ⟨rfl, hL5, (HX.out _).2.trans hK5⟩
end Go.Proofs.YtpgcklpcohcchaaDoor
