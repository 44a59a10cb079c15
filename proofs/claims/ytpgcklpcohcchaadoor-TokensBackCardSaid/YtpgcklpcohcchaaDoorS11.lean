/- The reader of tokens: brackets that open, words. The reader of tokens: words. -/
import Derived.Test.YtpgcklpcohcchaaDoorS9
namespace Go.Proofs.YtpgcklpcohcchaaDoor
open Go Go.RowKit

theorem RoRes.after {X : Nat → Prop} {w w0 w' : World} {rb : Nat} {s : ByteArray} {x : Except (Nat × Nat) (RSt × List Brk)} {e : Ending} (hk : KX X w w0) (h : RoRes X w0 rb s x e w') : RoRes X w rb s x e w' := by
  cases x with
  | ok y => exact ⟨h.1, h.2.1, hk.trans h.2.2⟩
  | error f => exact ⟨h.1, hk.trans h.2⟩

def openF (s : ByteArray) (r : RSt) (bs : List Brk) : Except (Nat × Nat) (RSt × List Brk) := if cls (pk s r.pos) = 4 then pushF s 1 none r bs else pushF s 2 none r bs

set_option maxRecDepth 100000 in
set_option maxHeartbeats 3200000 in
theorem opening_any (X : Nat → Prop) (w : World) (rb : Nat) (s : ByteArray) (r : RSt) (bs : List Brk) (h : RO X w rb s r bs) (hs : s.size ≤ 65536) (hi : RI s r) (hp : r.pos < s.size) (hp2 : cls (pk s r.pos) ≠ 4 → r.pos + 2 ≤ s.size) (hn : r.out.length < 4000000) (hbs : bs.length ≤ 64) (htb : Tab w) (hx0 : X 0) :
    Calls Tryd.prog 30 #[.pointer (some ⟨rb, 0, none⟩)] w (RoRes X w rb s (openF s r bs)) := by
  have HKD := Lib.hid (fun n => (KX.refl X w).drewN n)
  have C1 : ∀ n, Calls Tryd.prog 48 #[.pointer (some ⟨rb, 0, none⟩), .int .i64 1, .int .i64 (-1)] (w.drewN n) (RoRes X (w.drewN n) rb s (pushF s 1 none r bs)) :=
    fun n => push_any X (w.drewN n) rb s r bs 1 none (h.keep (drewN_below (Below.refl _ _) n)) hs hi (by omega) hn hbs
  have C2 : cls (pk s r.pos) ≠ 4 → ∀ n, Calls Tryd.prog 48 #[.pointer (some ⟨rb, 0, none⟩), .int .i64 2, .int .i64 (-1)] (w.drewN n) (RoRes X (w.drewN n) rb s (pushF s 2 none r bs)) :=
    fun hc n => push_any X (w.drewN n) rb s r bs 2 none (h.keep (drewN_below (Below.refl _ _) n)) hs hi (hp2 hc) hn hbs
  obtain ⟨vn, hr, h3, h5⟩ := h
  obtain ⟨vo, b1, b2, b4, ao⟩ := hr.bl
  have d0 : w.cell? ⟨rb, 0, none⟩ = some (.string s) := b1.cell 0
  have d1 : w.cell? ⟨rb, 1, none⟩ = some (.int .i64 r.pos) := b1.cell 1
  have P0 := Lib.hid (peek0 rb s r.pos w hs (by omega) d0 d1)
  have CC := Lib.hid (fun n => classOf_any (pk s r.pos) (w.drewN n) (fun i hi => htb i hi))
  unfold openF
  have hl := cls_lt (pk s r.pos)
  clear hr h3 h5 b1 b2 b4 ao d0 d1 htb hp2 hi
  generalize pk s r.pos = b at *
  by_cases h4 : cls b = 4
  · rw [if_pos h4]
    rw [h4] at CC
    have CP := Lib.hid C1
    clear C1 C2 h4
    cases hx : pushF s 1 none r bs with
    | error f =>
      rw [hx] at CP
      clear hx
      go_enter Tryd.func30, Tryd.ntmps30
      go_wp2_with fail
      refine (P0.out).mono ?_
      rintro e w4 ⟨rfl, n1, rfl⟩
      go_simp
      go_wp2_with fail
      refine (CC.out _).mono ?_
      rintro e w4 ⟨rfl, rfl⟩
      go_simp
      go_wp2_with fail
      refine (CP.out _).mono ?_
      rintro e w6 ⟨rfl, k6⟩
      exact ⟨rfl, rfl, (HKD.out _).trans k6⟩
    | ok y =>
      rw [hx] at CP
      clear hx
      go_enter Tryd.func30, Tryd.ntmps30
      go_wp2_with fail
      refine (P0.out).mono ?_
      rintro e w4 ⟨rfl, n1, rfl⟩
      go_simp
      go_wp2_with fail
      refine (CC.out _).mono ?_
      rintro e w4 ⟨rfl, rfl⟩
      go_simp
      go_wp2_with fail
      refine (CP.out _).mono ?_
      rintro e w6 ⟨rfl, h6, k6⟩
      have H6 := Lib.hid h6
      have K6 := Lib.hid ((HKD.out _).trans k6)
      clear h6 k6
      go_simp
      go_wp2_with fail
      go_end0
      exact ⟨rfl, H6.out, K6.out⟩
  · rw [if_neg h4]
    have CP := Lib.hid (C2 h4)
    have q1 : ((cls b : Int) != 4) = true := by simp; omega
    have q2 : ((cls b : Int) == 4) = false := by simp; omega
    generalize cls b = m at *
    clear C1 C2 h4
    cases hx : pushF s 2 none r bs with
    | error f =>
      rw [hx] at CP
      clear hx
      go_enter Tryd.func30, Tryd.ntmps30
      go_wp2_with fail
      refine (P0.out).mono ?_
      rintro e w4 ⟨rfl, n1, rfl⟩
      go_simp
      go_wp2_with fail
      refine (CC.out _).mono ?_
      rintro e w4 ⟨rfl, rfl⟩
      go_simp
      go_wp2_with fail
      refine (CP.out _).mono ?_
      rintro e w6 ⟨rfl, k6⟩
      exact ⟨rfl, rfl, (HKD.out _).trans k6⟩
    | ok y =>
      rw [hx] at CP
      clear hx
      go_enter Tryd.func30, Tryd.ntmps30
      go_wp2_with fail
      refine (P0.out).mono ?_
      rintro e w4 ⟨rfl, n1, rfl⟩
      go_simp
      go_wp2_with fail
      refine (CC.out _).mono ?_
      rintro e w4 ⟨rfl, rfl⟩
      go_simp
      go_wp2_with fail
      refine (CP.out _).mono ?_
      rintro e w6 ⟨rfl, h6, k6⟩
      have H6 := Lib.hid h6
      have K6 := Lib.hid ((HKD.out _).trans k6)
      clear h6 k6
      go_simp
      go_wp2_with fail
      go_end0
      exact ⟨rfl, H6.out, K6.out⟩
end Go.Proofs.YtpgcklpcohcchaaDoor
namespace Go.Proofs.YtpgcklpcohcchaaDoor
open Go Go.RowKit

def wordEnd (s : ByteArray) (k : Nat) (tx : ByteArray) (r : RSt) (bs : List Brk) : Except (Nat × Nat) (RSt × List Brk) := match wkF tx with
  | none => .error (r.pos, 18)
  | some kd => if kd = 0 ∧ pk s k = 34 then partsF s r.pos bs (s.size + 1) (addF s 8 tx r.pos { r with pos := k + 1 }) else .ok (addF s kd tx r.pos { r with pos := k }, bs)
def wordF (s : ByteArray) (r : RSt) (bs : List Brk) : Except (Nat × Nat) (RSt × List Brk) :=
  wordEnd s (wordTo s (s.size - r.pos) r.pos) (s.extract r.pos (wordTo s (s.size - r.pos) r.pos)) r bs

set_option maxRecDepth 100000 in
set_option maxHeartbeats 3200000 in
theorem word_any (X : Nat → Prop) (w : World) (rb : Nat) (s : ByteArray) (r : RSt) (bs : List Brk) (h : RO X w rb s r bs) (hs : s.size ≤ 65536) (hi : RI s r) (hn : r.out.length ≤ 2 * r.pos) (hbs : bs.length ≤ 64) (htb : Tab w) (hx0 : X 0) :
    Calls Tryd.prog 27 #[.pointer (some ⟨rb, 0, none⟩)] w (RoRes X w rb s (wordF s r bs)) := by
  have hrb : rb ≠ 0 := fun e => (h.lt 0 hx0).2 e.symm
  have h0 : 0 < w.heap.size := (h.lt 0 hx0).1
  obtain ⟨vn, hr, h3, h5⟩ := h
  obtain ⟨vo, h1, h2, h4, ao⟩ := hr.bl
  have HI := Lib.hid hi
  have c1 : w.cell? ⟨rb, 1, none⟩ = some (.int .i64 r.pos) := h1.cell 1
  have H2 := Lib.hid h2
  have H4 := Lib.hid h4
  have HO := Lib.hid h3
  have HX := Lib.hid h5
  have HA := Lib.hid ao
  have HN := Lib.hid hn
  have hip := hi.pos
  have hit := hi.told
  have hrp : (r.pos : Int) ≤ 65536 := by omega
  have CS := Lib.hid (skipWord_any rb s r.pos (r.fs vo vn) w hs hip h1 htb hrb h0)
  have HTB := Lib.hid htb
  have HX0 := Lib.hid hx0
  have hle := wordTo_le s (s.size - r.pos) r.pos hip
  have htxs := extract_le s r.pos (wordTo s (s.size - r.pos) r.pos) hip
  unfold wordF
  clear hr h1 h2 h3 h4 h5 ao hn htb hx0 hi
  generalize wordTo s (s.size - r.pos) r.pos = k at *
  generalize s.extract r.pos k = tx at *
  unfold wordEnd
  have WK := Lib.hid (fun w1 => wordKind_any w1 tx r.pos)
  cases hk : wkF tx with
  | none =>
    rw [hk] at WK
    clear hk
    simp only
    go_enter Tryd.func27, Tryd.ntmps27
    go_wp2_with fail
    refine (CS.out).mono ?_
    rintro e w2 ⟨rfl, hB2, hO2⟩
    have HO2 := Lib.hid hO2
    clear hB2 hO2
    go_simp
    go_wp2_with fail
    refine (WK.out _).mono ?_
    rintro e w3 ⟨rfl, rfl⟩
    exact ⟨rfl, rfl, (KX.og H4.out HO2.out).mono fun _ h => .inl h⟩
  | some kd =>
    rw [hk] at WK
    simp only
    have hkd := wkF_le hk
    clear hk
    have hkb : (k : Int) ≤ 65536 := by omega
    by_cases h34 : kd = 0 ∧ pk s k = 34
    · rw [if_pos h34]
      obtain ⟨rfl, hq⟩ := h34
      have hlt := pk_ne (s := s) (a := k) (by rw [hq]; decide)
      have hri : RI s (addF s 8 tx r.pos { r with pos := k + 1 }) := HI.out.add hit (by omega) hlt htxs (by omega)
      have hln : (addF s 8 tx r.pos { r with pos := k + 1 }).out.length + 1 ≤ 2 * (addF s 8 tx r.pos { r with pos := k + 1 }).pos := by
        have := HN.out
        simp [addF]
        omega
      have CA := Lib.hid (fun W hR => add_any (XO X vn) W rb s { r with pos := k + 1 } vn 8 tx r.pos hR hs hip hit HI.out.line HI.out.start (by have := HN.out; simp only; omega))
      generalize addF s 8 tx r.pos { r with pos := k + 1 } = r2 at *
      have HRI := Lib.hid hri
      have HLN := Lib.hid hln
      have CP := Lib.hid (fun W hR hT => parts_any X W rb s r2 bs r.pos hR hs HRI.out HLN.out hbs hT HX0.out)
      have E1 := Lib.hid (show (k : Int) + 1 = ((k + 1 : Nat) : Int) by omega)
      have P0 := Lib.hid (fun w1 d0 d1 => peek0 rb s k w1 hs (by omega) d0 d1)
      rw [hq] at P0
      clear hkd hri hln hq
      generalize partsF s r.pos bs (s.size + 1) r2 = x at *
      cases x with
      | error f =>
        go_enter Tryd.func27, Tryd.ntmps27
        go_wp2_with fail
        refine (CS.out).mono ?_
        rintro e w2 ⟨rfl, hB2, hO2⟩
        have HB2 := Lib.hid hB2
        have HO2 := Lib.hid hO2
        clear hB2 hO2
        go_simp
        go_wp2_with fail
        refine (WK.out _).mono ?_
        rintro e w3 ⟨rfl, rfl⟩
        go_simp
        go_wp2_with fail
        refine (P0.out _ (HB2.out.cell 0) (HB2.out.cell 1)).mono ?_
        rintro e w3 ⟨rfl, n1, rfl⟩
        have d1 : w2.cell? ⟨rb, 1, none⟩ = some (.int .i64 k) := HB2.out.cell 1
        have f1 : ∀ n, (w2.drewN n).frozen? ⟨rb, 1, none⟩ = false := fun n => HB2.out.froz 1
        go_simp
        go_wp2_with fail
        rw [E1.out]
        obtain ⟨m1, m2⟩ := RR.moved (X := XO X vn) (r := r) (a := k + 1) H2.out H4.out HA.out ((HB2.out.drewN n1).set 1 (.int .i64 ((k + 1 : Nat) : Int))) ((HO2.out.drewN n1).set 1 _)
        refine (CA.out _ m1).mono ?_
        rintro e w4 ⟨rfl, h4, k4⟩
        have hro := RO.step HO.out HX.out h4 (m2.trans k4)
        have HRO := Lib.hid hro
        clear h4 k4 m1 m2 hro
        go_simp
        go_wp2_with fail
        refine (CP.out _ HRO.out.1 (HTB.out.kx HRO.out.2 HX0.out)).mono ?_
        rintro e w6 ⟨rfl, k6⟩
        exact ⟨rfl, rfl, HRO.out.2.trans k6⟩
      | ok y =>
        go_enter Tryd.func27, Tryd.ntmps27
        go_wp2_with fail
        refine (CS.out).mono ?_
        rintro e w2 ⟨rfl, hB2, hO2⟩
        have HB2 := Lib.hid hB2
        have HO2 := Lib.hid hO2
        clear hB2 hO2
        go_simp
        go_wp2_with fail
        refine (WK.out _).mono ?_
        rintro e w3 ⟨rfl, rfl⟩
        go_simp
        go_wp2_with fail
        refine (P0.out _ (HB2.out.cell 0) (HB2.out.cell 1)).mono ?_
        rintro e w3 ⟨rfl, n1, rfl⟩
        have d1 : w2.cell? ⟨rb, 1, none⟩ = some (.int .i64 k) := HB2.out.cell 1
        have f1 : ∀ n, (w2.drewN n).frozen? ⟨rb, 1, none⟩ = false := fun n => HB2.out.froz 1
        go_simp
        go_wp2_with fail
        rw [E1.out]
        obtain ⟨m1, m2⟩ := RR.moved (X := XO X vn) (r := r) (a := k + 1) H2.out H4.out HA.out ((HB2.out.drewN n1).set 1 (.int .i64 ((k + 1 : Nat) : Int))) ((HO2.out.drewN n1).set 1 _)
        refine (CA.out _ m1).mono ?_
        rintro e w4 ⟨rfl, h4, k4⟩
        have hro := RO.step HO.out HX.out h4 (m2.trans k4)
        have HRO := Lib.hid hro
        clear h4 k4 m1 m2 hro
        go_simp
        go_wp2_with fail
        refine (CP.out _ HRO.out.1 (HTB.out.kx HRO.out.2 HX0.out)).mono ?_
        rintro e w6 ⟨rfl, h6, k6⟩
        have H6 := Lib.hid h6
        have K6 := Lib.hid (HRO.out.2.trans k6)
        clear h6 k6
        go_simp
        go_wp2_with fail
        go_end0
        exact ⟨rfl, H6.out, K6.out⟩
    · rw [if_neg h34]
      have CA := Lib.hid (fun W hR => add_any (XO X vn) W rb s { r with pos := k } vn kd tx r.pos hR hs hip hit HI.out.line HI.out.start (by have := HN.out; simp only; omega))
      generalize addF s kd tx r.pos { r with pos := k } = r2 at *
      by_cases hk0 : kd = 0
      · subst hk0
        have P0 := Lib.hid (fun w1 d0 d1 => peek0 rb s k w1 hs (by omega) d0 d1)
        have q34 : ¬ pk s k = 34 := fun e => h34 ⟨rfl, e⟩
        generalize pk s k = b at *
        have q := u8eq b 34 (by decide) q34
        clear h34 q34 hkd
        go_enter Tryd.func27, Tryd.ntmps27
        go_wp2_with fail
        refine (CS.out).mono ?_
        rintro e w2 ⟨rfl, hB2, hO2⟩
        have HB2 := Lib.hid hB2
        have HO2 := Lib.hid hO2
        clear hB2 hO2
        go_simp
        go_wp2_with fail
        refine (WK.out _).mono ?_
        rintro e w3 ⟨rfl, rfl⟩
        go_simp
        go_wp2_with fail
        refine (P0.out _ (HB2.out.cell 0) (HB2.out.cell 1)).mono ?_
        rintro e w3 ⟨rfl, n1, rfl⟩
        go_simp
        go_wp2_with fail
        obtain ⟨m1, m2⟩ := RR.moved (X := XO X vn) (r := r) (a := k) H2.out H4.out HA.out (HB2.out.drewN n1) (HO2.out.drewN n1)
        refine (CA.out _ m1).mono ?_
        rintro e w4 ⟨rfl, h4, k4⟩
        have hro := RO.step HO.out HX.out h4 (m2.trans k4)
        have HRO := Lib.hid hro
        clear h4 k4 m1 m2 hro
        go_simp
        go_wp2_with fail
        go_end0
        exact ⟨rfl, HRO.out.1, HRO.out.2⟩
      · have q : ((kd : Int) == 0) = false := by simp; omega
        clear h34 hk0 hkd
        go_enter Tryd.func27, Tryd.ntmps27
        go_wp2_with fail
        refine (CS.out).mono ?_
        rintro e w2 ⟨rfl, hB2, hO2⟩
        have HB2 := Lib.hid hB2
        have HO2 := Lib.hid hO2
        clear hB2 hO2
        go_simp
        go_wp2_with fail
        refine (WK.out _).mono ?_
        rintro e w3 ⟨rfl, rfl⟩
        go_simp
        go_wp2_with fail
        obtain ⟨m1, m2⟩ := RR.moved (X := XO X vn) (r := r) (a := k) H2.out H4.out HA.out HB2.out HO2.out
        refine (CA.out _ m1).mono ?_
        rintro e w4 ⟨rfl, h4, k4⟩
        have hro := RO.step HO.out HX.out h4 (m2.trans k4)
        have HRO := Lib.hid hro
        clear h4 k4 m1 m2 hro
        go_simp
        go_wp2_with fail
        go_end0
        exact ⟨rfl, HRO.out.1, HRO.out.2⟩
end Go.Proofs.YtpgcklpcohcchaaDoor
