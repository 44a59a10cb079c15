/- The reader of tokens: interpolated strings. -/
import Derived.Test.YtpgcklpcohcchaaDoorS8
namespace Go.Proofs.YtpgcklpcohcchaaDoor
open Go Go.RowKit

/-- An interpolated string that begins at lit, from the beginning of a Part on. -/
def partsF (s : ByteArray) (lit : Nat) (bs : List Brk) : Nat → RSt → Except (Nat × Nat) (RSt × List Brk)
  | 0, r => .ok (r, bs)
  | f + 1, r => match charsF s lit r.pos 34 36 (s.size + 1) r.pos [] with
    | .error x => .error (x, 27)
    | .ok (o, k) =>
      if pk s k = 34 then .ok ({ addF s 10 ⟨#[]⟩ k (addF s 9 ⟨o.toArray⟩ r.pos { r with pos := k }) with pos := k + 1 }, bs)
      else if pk s (k + 1) = 123 then pushF s 2 (some lit) (addF s 9 ⟨o.toArray⟩ r.pos { r with pos := k }) bs
      else match varF s (addF s 9 ⟨o.toArray⟩ r.pos { r with pos := k }) with
        | .error e => .error e
        | .ok r2 => partsF s lit bs f r2

theorem partsF_succ (s : ByteArray) (lit : Nat) (bs : List Brk) (f : Nat) (r : RSt) : partsF s lit bs (f + 1) r = match charsF s lit r.pos 34 36 (s.size + 1) r.pos [] with
    | .error x => .error (x, 27)
    | .ok (o, k) =>
      if pk s k = 34 then .ok ({ addF s 10 ⟨#[]⟩ k (addF s 9 ⟨o.toArray⟩ r.pos { r with pos := k }) with pos := k + 1 }, bs)
      else if pk s (k + 1) = 123 then pushF s 2 (some lit) (addF s 9 ⟨o.toArray⟩ r.pos { r with pos := k }) bs
      else match varF s (addF s 9 ⟨o.toArray⟩ r.pos { r with pos := k }) with
        | .error e => .error e
        | .ok r2 => partsF s lit bs f r2 := rfl

theorem extract_le (s : ByteArray) (a b : Nat) (h : a ≤ s.size) : (s.extract a b).size ≤ s.size := by
  simp only [ByteArray.size_extract]
  omega

theorem varF_ok {s : ByteArray} {r r2 : RSt} (hi : RI s r) (hp : r.pos < s.size) (h : varF s r = .ok r2) : RI s r2 ∧ r.pos + 2 ≤ r2.pos ∧ r2.out.length = r.out.length + 1 := by
  unfold varF at h
  split at h
  · rename_i hc
    have hlt := cls_pk_lt1 hc
    have hle := wordTo_le s (s.size - (r.pos + 1)) (r.pos + 1) (by omega)
    have hgt : r.pos + 2 ≤ wordTo s (s.size - (r.pos + 1)) (r.pos + 1) := by
      obtain ⟨m, hm⟩ : ∃ m, s.size - (r.pos + 1) = m + 1 := ⟨s.size - (r.pos + 1) - 1, by omega⟩
      rw [hm]
      unfold wordTo
      rw [if_pos (by unfold inW; rw [hc]; rfl)]
      exact (wordTo_le s m (r.pos + 2) (by omega)).2
    unfold varEnd at h
    split at h
    · cases h
    · rename_i kd hk
      split at h
      · cases h
      · injection h with h
        subst h
        have := wkF_le hk
        have ht := hi.told
        exact ⟨hi.add (by omega) (by omega) hle.1 (extract_le _ _ _ (by omega)) (by omega), hgt, by simp [addF]⟩
  · cases h

theorem Tab.kx {X : Nat → Prop} {w w' : World} (h : Tab w) (hk : KX X w w') (h0 : X 0) : Tab w' := fun i hi => (hk.cell (p := ⟨0, i, none⟩) h0).trans (h i hi)

set_option maxRecDepth 100000 in
set_option maxHeartbeats 3200000 in
theorem parts_any (X : Nat → Prop) (w : World) (rb : Nat) (s : ByteArray) (r : RSt) (bs : List Brk) (lit : Nat) (h : RO X w rb s r bs) (hs : s.size ≤ 65536) (hi : RI s r) (hn : r.out.length + 1 ≤ 2 * r.pos) (hbs : bs.length ≤ 64) (htb : Tab w) (hx0 : X 0) :
    Calls Tryd.prog 46 #[.pointer (some ⟨rb, 0, none⟩), .int .i64 lit] w (RoRes X w rb s (partsF s lit bs (s.size + 1) r)) := by
  have H := Lib.hid h
  have HI := Lib.hid hi
  have HN := Lib.hid hn
  have HTB := Lib.hid htb
  have HX0 := Lib.hid hx0
  have hrb : rb ≠ 0 := fun e => (h.lt 0 hx0).2 e.symm
  have HRB := Lib.hid hrb
  have h0 : 0 < w.heap.size := (h.lt 0 hx0).1
  have HZ := Lib.hid h0
  clear h hi hn htb hx0 hrb h0
  go_enter Tryd.func46, Tryd.ntmps46
  go_wp2_with fail
  go_loopg [] (s.size + 1) (fun gh wr => ∃ r1 : RSt, s.size < r1.pos + gh ∧ RI s r1 ∧ r1.out.length + 1 ≤ 2 * r1.pos ∧ RO X wr rb s r1 bs ∧ KX X w wr ∧ partsF s lit bs gh r1 = partsF s lit bs (s.size + 1) r)
  case atStart => exact ⟨r, by omega, HI.out, HN.out, H.out, KX.refl _ _, rfl⟩
  case round =>
    obtain ⟨r1, hk, hi, hn, hO, hK, hV⟩ := hrel
    obtain ⟨g', rfl⟩ : ∃ g', gk = g' + 1 := ⟨gk - 1, by have := hi.pos; omega⟩
    obtain ⟨vn, hr, ho, hx⟩ := hO
    obtain ⟨vo, h1, h2, h4, ao⟩ := hr.bl
    have HTW := Lib.hid (HTB.out.kx hK HX0.out)
    have hzw : 0 < wr.heap.size := Nat.lt_of_lt_of_le HZ.out hK.size
    have c1 : wr.cell? ⟨rb, 1, none⟩ = some (.int .i64 r1.pos) := h1.cell 1
    have HI1 := Lib.hid hi
    have HN1 := Lib.hid hn
    have HO := Lib.hid ho
    have HX := Lib.hid hx
    have H1 := Lib.hid h1
    have H2 := Lib.hid h2
    have H4 := Lib.hid h4
    have HA := Lib.hid ao
    have HK := Lib.hid hK
    have hps := hi.pos
    have hpt := hi.told
    have HC := Lib.hid (chars_any rb s lit r1.pos 34 36 r1.pos (r1.fs vo vn) wr hs hi.pos h1)
    clear hi hn hr ho hx h1 h2 h4 ao hK
    rw [partsF_succ s lit bs g' r1] at hV
    cases hc : charsF s lit r1.pos 34 36 (s.size + 1) r1.pos [] with
    | error x =>
      rw [hc] at HC hV
      simp only at hV
      have HV := Lib.hid hV
      clear hc hV
      go_wp2_with fail
      refine (HC.out).mono ?_
      rintro e w2 ⟨rfl, hO2⟩
      rw [← HV.out]
      exact ⟨rfl, rfl, HK.out.trans ((KX.og H4.out hO2).mono fun _ h => .inl h)⟩
    | ok y =>
      obtain ⟨o, k⟩ := y
      have hkk := charsF_in (by decide) (by decide) hps hc
      rw [hc] at HC hV
      simp only at hV
      have HV := Lib.hid hV
      clear hc hV
      obtain ⟨hk1, hk2, hk3, hk4⟩ := hkk
      have hsz : (⟨o.toArray⟩ : ByteArray).size ≤ s.size := by show o.toArray.size ≤ s.size; simpa using hk3
      have hri : RI s (addF s 9 ⟨o.toArray⟩ r1.pos { r1 with pos := k }) := HI1.out.add hpt hk2 (by omega) hsz (by omega)
      have hln : (addF s 9 ⟨o.toArray⟩ r1.pos { r1 with pos := k }).out.length ≤ 2 * k := by
        have := HN1.out
        simp [addF]
        omega
      have hpk : (addF s 9 ⟨o.toArray⟩ r1.pos { r1 with pos := k }).pos = k := rfl
      have CA := Lib.hid (fun W hR => add_any (XO X vn) W rb s { r1 with pos := k } vn 9 ⟨o.toArray⟩ r1.pos hR hs hps hpt HI1.out.line HI1.out.start (by have := HN1.out; simp only; omega))
      generalize addF s 9 ⟨o.toArray⟩ r1.pos { r1 with pos := k } = r2 at *
      have HRI := Lib.hid hri
      have HLN := Lib.hid hln
      have hpk' : k = r2.pos := hpk.symm
      subst hpk'
      clear hri hln hpk
      go_wp2_with fail
      refine (HC.out).mono ?_
      rintro e w2 ⟨rfl, hB2, hO2⟩
      obtain ⟨m1, m2⟩ := RR.moved (X := XO X vn) (r := r1) (a := r2.pos) H2.out H4.out HA.out hB2 hO2
      have M1 := Lib.hid m1
      have M2 := Lib.hid m2
      clear hB2 hO2 m1 m2
      go_simp
      go_wp2_with fail
      refine (CA.out _ M1.out).mono ?_
      rintro e w3 ⟨rfl, h3, k3⟩
      have hro := RO.step HO.out HX.out h3 (M2.out.trans k3)
      have HRO := Lib.hid hro.1
      have HKK := Lib.hid (HK.out.trans hro.2)
      obtain ⟨vo3, b3, o3, x3, a3⟩ := h3.bl
      have hzz : 0 < w3.heap.size := Nat.lt_of_lt_of_le HZ.out HKK.out.size
      have HT3 := Lib.hid (HTB.out.kx HKK.out HX0.out)
      have d0 : w3.cell? ⟨rb, 0, none⟩ = some (.string s) := b3.cell 0
      have d1 : w3.cell? ⟨rb, 1, none⟩ = some (.int .i64 r2.pos) := b3.cell 1
      have P0 := Lib.hid (peek0 rb s r2.pos w3 hs (by omega) d0 d1)
      have P1 := Lib.hid (fun n => peek1 rb s r2.pos (w3.drewN n) hs (by omega) d0 d1)
      have H3 := Lib.hid h3
      have H3K := Lib.hid k3
      clear h3 k3 hro b3 o3 x3 a3 d0
      go_simp
      go_wp2_with fail
      refine (P0.out).mono ?_
      rintro e w4 ⟨rfl, n1, rfl⟩
      go_simp
      obtain ⟨b, hb⟩ : ∃ b, pk s r2.pos = b := ⟨_, rfl⟩
      rw [hb] at HV hk4
      rw [hb]
      by_cases h34 : b = 34
      · subst h34
        have HV1 := Lib.hid ((if_pos rfl).symm.trans HV.out)
        have CE := Lib.hid (fun W hR => add_any (XO X vn) W rb s r2 vn 10 ⟨#[]⟩ r2.pos hR hs (by omega) HRI.out.told HRI.out.line HRI.out.start (by have := HLN.out; omega))
        clear hb hk4 HV
        go_wp2_with fail
        refine (CE.out _ (H3.out.keep (drewN_below (Below.refl _ _) n1))).mono ?_
        rintro e w5 ⟨rfl, h5, k5⟩
        obtain ⟨vo5, b5, o5, x5, a5⟩ := h5.bl
        have e1 : w5.cell? ⟨rb, 1, none⟩ = some (.int .i64 r2.pos) := b5.cell 1
        have f1 : w5.frozen? ⟨rb, 1, none⟩ = false := b5.froz 1
        have B5 := Lib.hid b5
        have O5 := Lib.hid o5
        have X5 := Lib.hid x5
        have A5 := Lib.hid a5
        have K5 := Lib.hid k5
        have hpb : (r2.pos : Int) ≤ 65536 := by omega
        have E1 := Lib.hid (show (r2.pos : Int) + 1 = ((r2.pos + 1 : Nat) : Int) by omega)
        clear h5 b5 o5 x5 a5 k5
        go_simp
        go_wp2_with fail
        rw [E1.out]
        obtain ⟨m1, m2⟩ := RR.moved (X := XO X vn) (r := addF s 10 ⟨#[]⟩ r2.pos r2) (a := r2.pos + 1) O5.out X5.out A5.out (B5.out.set 1 (.int .i64 ((r2.pos + 1 : Nat) : Int))) ((Og.refl rb w5).set 1 _)
        have hro := RO.step HO.out HX.out m1 ((M2.out.trans (by exact (H3K.out))).trans ((KX.refl _ _).drewN n1) |>.trans (K5.out.trans m2))
        have HF := Lib.hid hro
        clear m1 m2 hro
        go_wp2_with fail
        go_end0
        rw [← HV1.out]
        exact ⟨rfl, HF.out.1, HK.out.trans HF.out.2⟩
      · have HV1 := Lib.hid ((if_neg h34).symm.trans HV.out)
        have h36 : b = 36 := hk4.resolve_left h34
        subst h36
        clear h34 hk4 HV
        obtain ⟨c, hcb⟩ : ∃ c, pk s (r2.pos + 1) = c := ⟨_, rfl⟩
        rw [hcb] at P1 HV1
        by_cases h123 : c = 123
        · subst h123
          have hlt := pk_ne (s := s) (a := r2.pos + 1) (by rw [hcb]; decide)
          have HV2 := Lib.hid ((if_pos rfl).symm.trans HV1.out)
          have hcp : ∀ n, Calls Tryd.prog 48 #[.pointer (some ⟨rb, 0, none⟩), .int .i64 2, .int .i64 lit] (w3.drewN n) (RoRes X (w3.drewN n) rb s (pushF s 2 (some lit) r2 bs)) := fun n => push_any X (w3.drewN n) rb s r2 bs 2 (some lit) (HRO.out.keep (drewN_below (Below.refl _ _) n)) hs HRI.out (by omega) (by have := HLN.out; omega) hbs
          have CP := Lib.hid hcp
          have HKD := Lib.hid (fun n => HKK.out.drewN n)
          clear hcp HV1 hb hcb
          cases hx : pushF s 2 (some lit) r2 bs with
          | error f =>
            rw [hx] at CP HV2
            clear hx
            go_wp2_with fail
            refine (P1.out _).mono ?_
            rintro e w5 ⟨rfl, n2, rfl⟩
            go_simp
            go_wp2_with fail
            refine (CP.out _).mono ?_
            rintro e w6 ⟨rfl, k6⟩
            rw [← HV2.out]
            exact ⟨rfl, rfl, (HKD.out _).trans k6⟩
          | ok y =>
            obtain ⟨r3, bs3⟩ := y
            rw [hx] at CP HV2
            clear hx
            go_wp2_with fail
            refine (P1.out _).mono ?_
            rintro e w5 ⟨rfl, n2, rfl⟩
            go_simp
            go_wp2_with fail
            refine (CP.out _).mono ?_
            rintro e w6 ⟨rfl, h6, k6⟩
            have H6 := Lib.hid h6
            have K6 := Lib.hid ((HKD.out _).trans k6)
            clear h6 k6
            go_simp
            go_wp2_with fail
            go_end0
            rw [← HV2.out]
            exact ⟨rfl, H6.out, K6.out⟩
        · have HV2 := Lib.hid ((if_neg h123).symm.trans HV1.out)
          have q123 : ((c.toNat : Int) == 123) = false := u8eq c 123 (by decide) h123
          have hlt := pk_ne (s := s) (a := r2.pos) (by rw [hb]; decide)
          have CV := Lib.hid (fun n => variable_any (XO X vn) (w3.drewN n) rb s r2 vn (H3.out.keep (drewN_below (Below.refl _ _) n)) hs HRI.out hlt (by have := HLN.out; omega) HT3.out HRB.out hzz)
          have HKD := Lib.hid (fun n => HKK.out.drewN n)
          have HO3 := Lib.hid (row_kx HO.out (fun _ hb => .inr hb) (M2.out.trans H3K.out))
          clear HV1 hb hcb h123
          cases hx : varF s r2 with
          | error f =>
            rw [hx] at CV HV2
            clear hx
            go_wp2_with fail
            refine (P1.out _).mono ?_
            rintro e w5 ⟨rfl, n2, rfl⟩
            go_simp
            go_wp2_with fail
            refine (CV.out _).mono ?_
            rintro e w6 ⟨rfl, k6⟩
            rw [← HV2.out]
            exact ⟨rfl, rfl, (HKD.out _).trans (k6.mono fun _ h => .inl h)⟩
          | ok r3 =>
            have hvo := varF_ok HRI.out hlt hx
            have HVO := Lib.hid hvo
            have hprog := hvo.2.1
            rw [hx] at CV HV2
            clear hx hvo
            go_wp2_with fail
            refine (P1.out _).mono ?_
            rintro e w5 ⟨rfl, n2, rfl⟩
            go_simp
            go_wp2_with fail
            refine (CV.out _).mono ?_
            rintro e w6 ⟨rfl, h6, k6⟩
            have hst := RO.step (w := w3.drewN _) HO3.out HX.out h6 k6
            have HST := Lib.hid hst
            have K6 := Lib.hid ((HKD.out _).trans hst.2)
            clear h6 k6 hst
            go_simp
            go_wp2_with fail
            go_roundg g'
            case rel => exact ⟨r3, by omega, HVO.out.1, by have := HVO.out.2.2; have := HLN.out; omega, HST.out.1, K6.out, HV2.out⟩
            case measure => omega
end Go.Proofs.YtpgcklpcohcchaaDoor
