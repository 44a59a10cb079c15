/- The reader of tokens: strings and characters. The reader of tokens: a character. -/
import Derived.Test.YtpgcklpcohcchaaDoorS4
namespace Go.Proofs.YtpgcklpcohcchaaDoor
open Go Go.RowKit

theorem charsF_end {s : ByteArray} {lit tok : Nat} {a b : UInt8} : ∀ (f k : Nat) (l : List UInt8) {l' : List UInt8} {k' : Nat}, s.size < k + f → k ≤ s.size → charsF s lit tok a b f k l = .ok (l', k') → pk s k' = a ∨ pk s k' = b := by
  intro f
  induction f with
  | zero => intro k l l' k' hf hk; omega
  | succ f ih =>
    intro k l l' k' hf hk h
    unfold charsF at h
    split at h
    · rename_i hab
      injection h with h; injection h with h1 h2
      subst h1 h2
      exact hab
    · split at h
      · cases h
      · rename_i c k1 hn
        have e1 := nextF_le hn
        split at h
        · split at h
          · cases h
          · rename_i v k2 he
            have e2 := escF_le he
            exact ih k2 _ (by omega) e2.1 h
        · exact ih k1 _ (by omega) e1.1 h

/-- The characters of a literal, with what is known of their end. -/
theorem charsF_in {s : ByteArray} {lit tok p : Nat} {a b : UInt8} {o : List UInt8} {k : Nat} (ha : a ≠ 0) (hb : b ≠ 0) (hp : p ≤ s.size) (h : charsF s lit tok a b (s.size + 1) p [] = .ok (o, k)) : k < s.size ∧ p ≤ k ∧ o.length ≤ s.size ∧ (pk s k = a ∨ pk s k = b) := by
  have h1 := charsF_le _ _ _ hp h
  have h2 := charsF_end _ _ _ (by omega) hp h
  have h3 : pk s k ≠ 0 := by rcases h2 with e | e <;> rw [e] <;> assumption
  have := pk_ne h3
  simp at h1
  exact ⟨by omega, h1.2.1, by omega, h2⟩

def strF (s : ByteArray) (r : RSt) : Except (Nat × Nat) RSt := match charsF s r.pos r.pos 34 34 (s.size + 1) (r.pos + 1) [] with
  | .error x => .error (x, 27)
  | .ok (o, k) => .ok (addF s 7 ⟨o.toArray⟩ r.pos { r with pos := k + 1 })

/-- The reader's block behind a change of its place. -/
theorem RR.bl {X : Nat → Prop} {w : World} {rb : Nat} {s : ByteArray} {r : RSt} {vn : Value} (h : RR X w rb s r vn) : ∃ vo, Bl w rb 42 (.string s :: .int .i64 r.pos :: r.fs vo vn) ∧ w.ownsRow 0 32 5 vo r.out.length (tcs r.out) ∧ (∀ b, X b → b < w.heap.size ∧ b ≠ rb ∧ vo.ownBlock ≠ some b) ∧ vo.ownBlock ≠ some rb := by
  obtain ⟨vo, h1, h2, h4⟩ := h
  exact ⟨vo, h1, h2, h4, Bl.row_apart h2 h1 (by decide)⟩

set_option maxRecDepth 100000 in
set_option maxHeartbeats 1600000 in
theorem str_any (X : Nat → Prop) (w : World) (rb : Nat) (s : ByteArray) (r : RSt) (vn : Value) (h : RR X w rb s r vn) (hs : s.size ≤ 65536) (hi : RI s r) (hp : r.pos < s.size) (hn : r.out.length < 4000000) :
    Calls Tryd.prog 51 #[.pointer (some ⟨rb, 0, none⟩)] w (RdRes X w rb s vn (strF s r)) := by
  obtain ⟨vo, h1, h2, h4, ao⟩ := h.bl
  obtain ⟨ip, it, il, is_, _⟩ := hi
  obtain ⟨rp, ro, rt, rl, rs⟩ := r
  simp only at hp ip it il is_ hn
  have c1 : w.cell? ⟨rb, 1, none⟩ = some (.int .i64 rp) := h1.cell 1
  have f1 : ∀ n, (w.drewN n).frozen? ⟨rb, 1, none⟩ = false := fun n => h1.froz 1
  have f1' : w.frozen? ⟨rb, 1, none⟩ = false := h1.froz 1
  have hB1 : Bl (w.setCell ⟨rb, 1, none⟩ (.int .i64 ((rp + 1 : Nat) : Int))) rb 42 (.string s :: .int .i64 ((rp + 1 : Nat) : Int) :: (⟨rp, ro, rt, rl, rs⟩ : RSt).fs vo vn) := h1.set 1 _
  have HB1 := Lib.hid hB1
  have HO1 := Lib.hid ((Og.refl rb w).set 1 (.int .i64 ((rp + 1 : Nat) : Int)))
  have H2 := Lib.hid h2
  have H4 := Lib.hid h4
  have HA := Lib.hid ao
  have HT := Lib.hid (show rt ≤ rp ∧ rl ≤ rt ∧ rs ≤ rt ∧ ro.length < 4000000 from ⟨it, il, is_, hn⟩)
  have e1 : (rp : Int) + 1 = ((rp + 1 : Nat) : Int) := by omega
  have hrp : (rp : Int) ≤ 65536 := by omega
  have HC := Lib.hid (fun w1 hB => chars_any rb s rp rp 34 34 (rp + 1) ((⟨rp, ro, rt, rl, rs⟩ : RSt).fs vo vn) w1 hs (by omega) hB)
  unfold strF
  simp only
  clear h h1 h2 h4 ao hB1 it il is_ hn
  cases hc : charsF s rp rp 34 34 (s.size + 1) (rp + 1) [] with
  | error x =>
    rw [hc] at HC
    clear hc
    simp only
    have E1 := Lib.hid e1
    clear e1
    go_enter Tryd.func51, Tryd.ntmps51
    go_wp2_with fail
    rw [E1.out]
    refine (HC.out _ HB1.out).mono ?_
    rintro e w2 ⟨rfl, hO⟩
    have hO2 := HO1.out.trans hO
    exact ⟨rfl, rfl, ⟨hO2.os, hO2.tape, hO2.output, hO2.size, fun b hb => hO2.block b (H4.out b hb).1 (by intro e; injection e with e; exact (H4.out b hb).2.1 e)⟩⟩
  | ok y =>
    obtain ⟨o, k⟩ := y
    have hk := charsF_in (by decide) (by decide) (by omega) hc
    rw [hc] at HC
    clear hc
    simp only
    have hkb : (k : Int) ≤ 65536 := by omega
    have hk1 := hk.1
    have hk2 := hk.2.1
    have E1 := Lib.hid e1
    have E2 := Lib.hid (show (k : Int) + 1 = ((k + 1 : Nat) : Int) by omega)
    clear e1 hk
    go_enter Tryd.func51, Tryd.ntmps51
    go_wp2_with fail
    rw [E1.out]
    refine (HC.out _ HB1.out).mono ?_
    rintro e w2 ⟨rfl, hB2, hO2⟩
    have d1 : w2.cell? ⟨rb, 1, none⟩ = some (.int .i64 k) := hB2.cell 1
    have g1 : w2.frozen? ⟨rb, 1, none⟩ = false := hB2.froz 1
    have HB2 := Lib.hid hB2
    have HO2 := Lib.hid (HO1.out.trans hO2)
    clear hB2 hO2
    go_simp
    go_wp2_with fail
    rw [E2.out]
    obtain ⟨r1, r2⟩ := RR.moved (X := X) (r := ⟨rp, ro, rt, rl, rs⟩) (a := k + 1) H2.out H4.out HA.out (HB2.out.set 1 (.int .i64 ((k + 1 : Nat) : Int))) (HO2.out.set 1 _)
    refine (add_any X _ rb s ⟨k + 1, ro, rt, rl, rs⟩ vn 7 ⟨o.toArray⟩ rp r1 hs (by omega) HT.out.1 HT.out.2.1 HT.out.2.2.1 HT.out.2.2.2).mono ?_
    rintro e w3 ⟨rfl, h3, k3⟩
    have H3 := Lib.hid h3
    have K3 := Lib.hid (r2.trans k3)
    clear h3 k3 r1 r2
    go_simp
    go_wp2_with fail
    go_end0
    exact ⟨rfl, H3.out, K3.out⟩
end Go.Proofs.YtpgcklpcohcchaaDoor
namespace Go.Proofs.YtpgcklpcohcchaaDoor
open Go Go.RowKit

def charF (s : ByteArray) (r : RSt) : Except (Nat × Nat) RSt := match charsF s r.pos r.pos 39 39 (s.size + 1) (r.pos + 1) [] with
  | .error x => .error (x, 27)
  | .ok (o, k) => if o.length = 1 then .ok (addF s 6 ⟨o.toArray⟩ r.pos { r with pos := k + 1 }) else .error (r.pos, 27)

set_option maxRecDepth 100000 in
set_option maxHeartbeats 1600000 in
theorem char_any (X : Nat → Prop) (w : World) (rb : Nat) (s : ByteArray) (r : RSt) (vn : Value) (h : RR X w rb s r vn) (hs : s.size ≤ 65536) (hi : RI s r) (hp : r.pos < s.size) (hn : r.out.length < 4000000) :
    Calls Tryd.prog 52 #[.pointer (some ⟨rb, 0, none⟩)] w (RdRes X w rb s vn (charF s r)) := by
  obtain ⟨vo, h1, h2, h4, ao⟩ := h.bl
  obtain ⟨ip, it, il, is_, _⟩ := hi
  obtain ⟨rp, ro, rt, rl, rs⟩ := r
  simp only at hp ip it il is_ hn
  have c1 : w.cell? ⟨rb, 1, none⟩ = some (.int .i64 rp) := h1.cell 1
  have f1 : ∀ n, (w.drewN n).frozen? ⟨rb, 1, none⟩ = false := fun n => h1.froz 1
  have f1' : w.frozen? ⟨rb, 1, none⟩ = false := h1.froz 1
  have hB1 : Bl (w.setCell ⟨rb, 1, none⟩ (.int .i64 ((rp + 1 : Nat) : Int))) rb 42 (.string s :: .int .i64 ((rp + 1 : Nat) : Int) :: (⟨rp, ro, rt, rl, rs⟩ : RSt).fs vo vn) := h1.set 1 _
  have HB1 := Lib.hid hB1
  have HO1 := Lib.hid ((Og.refl rb w).set 1 (.int .i64 ((rp + 1 : Nat) : Int)))
  have H2 := Lib.hid h2
  have H4 := Lib.hid h4
  have HA := Lib.hid ao
  have HT := Lib.hid (show rt ≤ rp ∧ rl ≤ rt ∧ rs ≤ rt ∧ ro.length < 4000000 from ⟨it, il, is_, hn⟩)
  have e1 : (rp : Int) + 1 = ((rp + 1 : Nat) : Int) := by omega
  have hrp : (rp : Int) ≤ 65536 := by omega
  have HC := Lib.hid (fun w1 hB => chars_any rb s rp rp 39 39 (rp + 1) ((⟨rp, ro, rt, rl, rs⟩ : RSt).fs vo vn) w1 hs (by omega) hB)
  unfold charF
  simp only
  clear h h1 h2 h4 ao hB1 it il is_ hn
  cases hc : charsF s rp rp 39 39 (s.size + 1) (rp + 1) [] with
  | error x =>
    rw [hc] at HC
    clear hc
    simp only
    have E1 := Lib.hid e1
    clear e1
    go_enter Tryd.func52, Tryd.ntmps52
    go_wp2_with fail
    rw [E1.out]
    refine (HC.out _ HB1.out).mono ?_
    rintro e w2 ⟨rfl, hO⟩
    have hO2 := HO1.out.trans hO
    exact ⟨rfl, rfl, ⟨hO2.os, hO2.tape, hO2.output, hO2.size, fun b hb => hO2.block b (H4.out b hb).1 (by intro e; injection e with e; exact (H4.out b hb).2.1 e)⟩⟩
  | ok y =>
    obtain ⟨o, k⟩ := y
    have hk := charsF_in (by decide) (by decide) (by omega) hc
    rw [hc] at HC
    clear hc
    simp only
    have hkb : (k : Int) ≤ 65536 := by omega
    have hk1 := hk.1
    have hk2 := hk.2.1
    by_cases hol : o.length = 1
    · rw [if_pos hol]
      have q : (o.length : Int) = 1 := by omega
      have q2 : ((⟨o.toArray⟩ : ByteArray).size : Int) = 1 := by simpa [ByteArray.size] using q
      have q3 : ((⟨o.toArray⟩ : ByteArray).size : Nat) = 1 := by simpa [ByteArray.size] using hol
      have E1 := Lib.hid e1
      have E2 := Lib.hid (show (k : Int) + 1 = ((k + 1 : Nat) : Int) by omega)
      clear e1 hk
      go_enter Tryd.func52, Tryd.ntmps52
      go_wp2_with fail
      rw [E1.out]
      refine (HC.out _ HB1.out).mono ?_
      rintro e w2 ⟨rfl, hB2, hO2⟩
      have d1 : w2.cell? ⟨rb, 1, none⟩ = some (.int .i64 k) := hB2.cell 1
      have g1 : w2.frozen? ⟨rb, 1, none⟩ = false := hB2.froz 1
      have HB2 := Lib.hid hB2
      have HO2 := Lib.hid (HO1.out.trans hO2)
      clear hB2 hO2
      go_simp
      go_wp2_with fail
      rw [E2.out]
      obtain ⟨r1, r2⟩ := RR.moved (X := X) (r := ⟨rp, ro, rt, rl, rs⟩) (a := k + 1) H2.out H4.out HA.out (HB2.out.set 1 (.int .i64 ((k + 1 : Nat) : Int))) (HO2.out.set 1 _)
      refine (add_any X _ rb s ⟨k + 1, ro, rt, rl, rs⟩ vn 6 ⟨o.toArray⟩ rp r1 hs (by omega) HT.out.1 HT.out.2.1 HT.out.2.2.1 HT.out.2.2.2).mono ?_
      rintro e w3 ⟨rfl, h3, k3⟩
      have H3 := Lib.hid h3
      have K3 := Lib.hid (r2.trans k3)
      clear h3 k3 r1 r2
      go_simp
      go_wp2_with fail
      go_end0
      exact ⟨rfl, H3.out, K3.out⟩
    · rw [if_neg hol]
      have E1 := Lib.hid e1
      have q : ¬ (o.length : Int) = 1 := by omega
      have q2 : ((o.length : Int) == 1) = false := by simpa using q
      have q3 : ((o.length : Int) != 1) = true := by simpa using q
      clear e1 hk
      go_enter Tryd.func52, Tryd.ntmps52
      go_wp2_with fail
      rw [E1.out]
      refine (HC.out _ HB1.out).mono ?_
      rintro e w2 ⟨rfl, hB2, hO2⟩
      have HO2 := Lib.hid (HO1.out.trans hO2)
      clear hB2 hO2
      go_simp
      go_wp2_with fail
      refine (fail_any _ _ _).mono ?_
      rintro e w' ⟨rfl, rfl⟩
      exact ⟨rfl, rfl, ⟨HO2.out.os, HO2.out.tape, HO2.out.output, HO2.out.size, fun b hb => HO2.out.block b (H4.out b hb).1 (by intro e; injection e with e; exact (H4.out b hb).2.1 e)⟩⟩
end Go.Proofs.YtpgcklpcohcchaaDoor
