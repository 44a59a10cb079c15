/- The reader of tokens: a name in an interpolated string. -/
import Derived.Test.YtpgcklpcohcchaaDoorS7
namespace Go.Proofs.YtpgcklpcohcchaaDoor
open Go Go.RowKit

/-- The word from an offset on: what becomes of it as a token behind the offset dollar. -/
def varEnd (s : ByteArray) (dollar a k : Nat) (r : RSt) : Except (Nat × Nat) RSt := match wkF (s.extract a k) with
  | none => .error (a, 18)
  | some kd => if kd = 3 then .error (dollar, 27) else .ok (addF s kd (s.extract a k) a { r with pos := k })
def varF (s : ByteArray) (r : RSt) : Except (Nat × Nat) RSt :=
  if cls (pk s (r.pos + 1)) = 1 then varEnd s r.pos (r.pos + 1) (wordTo s (s.size - (r.pos + 1)) (r.pos + 1)) r else .error (r.pos, 27)

theorem cls_pk_lt1 {s : ByteArray} {a : Nat} (h : cls (pk s a) = 1) : a < s.size := by
  apply Classical.byContradiction
  intro hn
  rw [pk_ge hn] at h
  revert h
  decide +kernel

theorem wkF_le {tx : ByteArray} {k : Nat} (h : wkF tx = some k) : k = 0 ∨ k = 1 ∨ k = 3 := by
  unfold wkF at h
  split at h
  · cases h
  · split at h
    · injection h with h; omega
    · split at h <;> (injection h with h; omega)

theorem KX.og {X : Nat → Prop} {w w' : World} {rb : Nat} {vo : Value} (h4 : ∀ b, X b → b < w.heap.size ∧ b ≠ rb ∧ vo.ownBlock ≠ some b) (hO : Og rb w w') : KX X w w' :=
  ⟨hO.os, hO.tape, hO.output, hO.size, fun b hb => hO.block b (h4 b hb).1 (by intro e; injection e with e; exact (h4 b hb).2.1 e)⟩

set_option maxRecDepth 100000 in
set_option maxHeartbeats 3200000 in
theorem variable_any (X : Nat → Prop) (w : World) (rb : Nat) (s : ByteArray) (r : RSt) (vn : Value) (h : RR X w rb s r vn) (hs : s.size ≤ 65536) (hi : RI s r) (hp : r.pos < s.size) (hn : r.out.length < 4000000)
    (htb : Tab w) (hr : rb ≠ 0) (h0 : 0 < w.heap.size) :
    Calls Tryd.prog 69 #[.pointer (some ⟨rb, 0, none⟩)] w (RdRes X w rb s vn (varF s r)) := by
  obtain ⟨vo, h1, h2, h4, ao⟩ := h.bl
  obtain ⟨ip, it, il, is_, _⟩ := hi
  obtain ⟨rp, ro, rt, rl, rs⟩ := r
  simp only at hp ip it il is_ hn
  have c0 : w.cell? ⟨rb, 0, none⟩ = some (.string s) := h1.cell 0
  have c1 : w.cell? ⟨rb, 1, none⟩ = some (.int .i64 rp) := h1.cell 1
  have f1 : ∀ n, (w.drewN n).frozen? ⟨rb, 1, none⟩ = false := fun n => h1.froz 1
  have C1 := Lib.hid (peek1 rb s rp w hs (by omega) c0 c1)
  have CC := Lib.hid (fun n => classOf_any (pk s (rp + 1)) (w.drewN n) (htb.bl ((Og.refl rb w).drewN n) hr h0))
  have H1 := Lib.hid h1
  have H2 := Lib.hid h2
  have H4 := Lib.hid h4
  have HA := Lib.hid ao
  have HTB := Lib.hid htb
  have HR := Lib.hid hr
  have HZ := Lib.hid h0
  have HT := Lib.hid (show rt ≤ rp ∧ rl ≤ rt ∧ rs ≤ rt ∧ ro.length < 4000000 from ⟨it, il, is_, hn⟩)
  have E1 := Lib.hid (show (rp : Int) + 1 = ((rp + 1 : Nat) : Int) by omega)
  have hrp : (rp : Int) ≤ 65536 := by omega
  unfold varF
  simp only
  generalize pk s (rp + 1) = b at *
  clear h h1 h2 h4 ao htb hr h0 it il is_ hn
  by_cases hc : cls b = 1
  · rw [if_pos hc]
    rw [hc] at CC
    clear hc
    have hle := wordTo_le s (s.size - (rp + 1)) (rp + 1) (by omega)
    have CS := Lib.hid (fun w1 hB hT h0 => skipWord_any rb s (rp + 1) ((⟨rp, ro, rt, rl, rs⟩ : RSt).fs vo vn) w1 hs (by omega) hB hT HR.out h0)
    generalize wordTo s (s.size - (rp + 1)) (rp + 1) = k at *
    obtain ⟨tx, htx⟩ : ∃ tx, s.extract (rp + 1) k = tx := ⟨_, rfl⟩
    rw [htx] at CS
    unfold varEnd
    rw [htx]
    have WK := Lib.hid (fun w1 => wordKind_any w1 tx (rp + 1))
    clear htx
    cases hk : wkF tx with
    | none =>
      rw [hk] at WK
      clear hk
      simp only
      go_enter Tryd.func69, Tryd.ntmps69
      go_wp2_with fail
      refine (C1.out).mono ?_
      rintro e w1 ⟨rfl, n1, rfl⟩
      go_simp
      go_wp2_with fail
      refine (CC.out _).mono ?_
      rintro e w1 ⟨rfl, rfl⟩
      go_simp
      go_wp2_with fail
      rw [E1.out]
      have hO1 := ((Og.refl rb w).drewN n1).set 1 (.int .i64 ((rp + 1 : Nat) : Int))
      have HO1 := Lib.hid hO1
      have hB1 := (H1.out.drewN n1).set 1 (.int .i64 ((rp + 1 : Nat) : Int))
      have hT1 := HTB.out.bl hO1 HR.out HZ.out
      refine (CS.out _ hB1 hT1 (Nat.lt_of_lt_of_le HZ.out hO1.size)).mono ?_
      clear hO1 hB1 hT1
      rintro e w2 ⟨rfl, hB2, hO2⟩
      have HO2 := Lib.hid (HO1.out.trans hO2)
      clear hB2 hO2
      go_simp
      go_wp2_with fail
      refine (WK.out _).mono ?_
      rintro e w3 ⟨rfl, rfl⟩
      exact ⟨rfl, rfl, KX.og H4.out HO2.out⟩
    | some kd =>
      rw [hk] at WK
      simp only
      have hkd := wkF_le hk
      clear hk
      by_cases h3 : kd = 3
      · rw [if_pos h3]
        subst h3
        go_enter Tryd.func69, Tryd.ntmps69
        go_wp2_with fail
        refine (C1.out).mono ?_
        rintro e w1 ⟨rfl, n1, rfl⟩
        go_simp
        go_wp2_with fail
        refine (CC.out _).mono ?_
        rintro e w1 ⟨rfl, rfl⟩
        go_simp
        go_wp2_with fail
        rw [E1.out]
        have hO1 := ((Og.refl rb w).drewN n1).set 1 (.int .i64 ((rp + 1 : Nat) : Int))
        have HO1 := Lib.hid hO1
        have hB1 := (H1.out.drewN n1).set 1 (.int .i64 ((rp + 1 : Nat) : Int))
        have hT1 := HTB.out.bl hO1 HR.out HZ.out
        refine (CS.out _ hB1 hT1 (Nat.lt_of_lt_of_le HZ.out hO1.size)).mono ?_
        clear hO1 hB1 hT1
        rintro e w2 ⟨rfl, hB2, hO2⟩
        have HO2 := Lib.hid (HO1.out.trans hO2)
        clear hB2 hO2
        go_simp
        go_wp2_with fail
        refine (WK.out _).mono ?_
        rintro e w3 ⟨rfl, rfl⟩
        go_simp
        go_wp2_with fail
        refine (fail_any _ _ _).mono ?_
        rintro e w' ⟨rfl, rfl⟩
        exact ⟨rfl, rfl, KX.og H4.out HO2.out⟩
      · rw [if_neg h3]
        have q3 : ((kd : Int) == 3) = false := by simp; omega
        have HK := Lib.hid hkd
        have HLE := Lib.hid hle
        clear h3 hkd hle
        go_enter Tryd.func69, Tryd.ntmps69
        go_wp2_with fail
        refine (C1.out).mono ?_
        rintro e w1 ⟨rfl, n1, rfl⟩
        go_simp
        go_wp2_with fail
        refine (CC.out _).mono ?_
        rintro e w1 ⟨rfl, rfl⟩
        go_simp
        go_wp2_with fail
        rw [E1.out]
        have hO1 := ((Og.refl rb w).drewN n1).set 1 (.int .i64 ((rp + 1 : Nat) : Int))
        have HO1 := Lib.hid hO1
        have hB1 := (H1.out.drewN n1).set 1 (.int .i64 ((rp + 1 : Nat) : Int))
        have hT1 := HTB.out.bl hO1 HR.out HZ.out
        refine (CS.out _ hB1 hT1 (Nat.lt_of_lt_of_le HZ.out hO1.size)).mono ?_
        clear hO1 hB1 hT1
        rintro e w2 ⟨rfl, hB2, hO2⟩
        have HB2 := Lib.hid hB2
        have HO2 := Lib.hid (HO1.out.trans hO2)
        clear hB2 hO2
        go_simp
        go_wp2_with fail
        refine (WK.out _).mono ?_
        rintro e w3 ⟨rfl, rfl⟩
        go_simp
        go_wp2_with fail
        obtain ⟨r1, r2⟩ := RR.moved (X := X) (r := ⟨rp, ro, rt, rl, rs⟩) (a := k) H2.out H4.out HA.out HB2.out HO2.out
        refine (add_any X _ rb s ⟨k, ro, rt, rl, rs⟩ vn kd tx (rp + 1) r1 hs (by omega) (by have := HT.out.1; simp only; omega) HT.out.2.1 HT.out.2.2.1 HT.out.2.2.2).mono ?_
        rintro e w4 ⟨rfl, h3, k3⟩
        have H3 := Lib.hid h3
        have K3 := Lib.hid (r2.trans k3)
        clear h3 k3 r1 r2
        go_simp
        go_wp2_with fail
        go_end0
        exact ⟨rfl, H3.out, K3.out⟩
  · rw [if_neg hc]
    have hl := cls_lt b
    have q1 : ((cls b : Int) == 1) = false := by simp; omega
    have q2 : ((cls b : Int) != 1) = true := by simp; omega
    generalize cls b = m at *
    clear hc
    go_enter Tryd.func69, Tryd.ntmps69
    go_wp2_with fail
    refine (C1.out).mono ?_
    rintro e w1 ⟨rfl, n1, rfl⟩
    go_simp
    go_wp2_with fail
    refine (CC.out _).mono ?_
    rintro e w1 ⟨rfl, rfl⟩
    go_simp
    go_wp2_with fail
    refine (fail_any _ _ _).mono ?_
    rintro e w' ⟨rfl, rfl⟩
    exact ⟨rfl, rfl, KX.og H4.out ((Og.refl rb w).drewN n1)⟩
end Go.Proofs.YtpgcklpcohcchaaDoor
