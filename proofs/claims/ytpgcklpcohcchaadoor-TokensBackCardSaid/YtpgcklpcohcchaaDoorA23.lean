/- Layout of a list whose tokens are in order. -/
import Derived.Test.YtpgcklpcohcchaaDoorA22
import Derived.Test.YtpgcklpcohcchaaDoorA17n
import Derived.BigQuiet
import Derived.Deep.QuietTactic
namespace Go.Proofs.YtpgcklpcohcchaaDoor
open Go Go.RowKit

/-- What Layout leaves. -/
def LayRes (X : Nat → Prop) (w : World) (x : Except (Nat × Nat) (List Tok)) (e : Ending) (w' : World) : Prop :=
  match x with
  | .error f => e = .returned (.tuple #[.slice none 0 0, .agg #[.int .i64 f.1, .int .i64 f.2]]) ∧ KX X w w'
  | .ok out => ∃ vo, e = .returned (.tuple #[vo, .agg #[.int .i64 0, .int .i64 0]]) ∧ w'.ownsRow 0 32 5 vo out.length (tcs out) ∧ KX X w w' ∧ ∀ b, X b → vo.ownBlock ≠ some b

theorem lay_finish {X : Nat → Prop} {W : World} {p q n : Nat} {v x : Value} {xs : List Value} (hp : Bl W p 23 [x]) (hq : Bl W q 26 [.int .i64 0, .int .i64 0]) (hpq : p ≠ q) (hr : W.ownsRow 0 32 5 v n xs) (h1 : v.ownBlock ≠ some p) (h2 : v.ownBlock ≠ some q)
    (hX : ∀ b, X b → b ≠ p ∧ b ≠ q ∧ b < W.heap.size) :
    Bl (((W.setCell ⟨p, 0, none⟩ v).setCell ⟨q, 0, none⟩ (.int .i64 0)).setCell ⟨q, 1, none⟩ (.int .i64 0)) p 23 [v] ∧
    Bl (((W.setCell ⟨p, 0, none⟩ v).setCell ⟨q, 0, none⟩ (.int .i64 0)).setCell ⟨q, 1, none⟩ (.int .i64 0)) q 26 [.int .i64 0, .int .i64 0] ∧
    ∀ w', Below (((W.setCell ⟨p, 0, none⟩ v).setCell ⟨q, 0, none⟩ (.int .i64 0)).setCell ⟨q, 1, none⟩ (.int .i64 0)).heap.size (((W.setCell ⟨p, 0, none⟩ v).setCell ⟨q, 0, none⟩ (.int .i64 0)).setCell ⟨q, 1, none⟩ (.int .i64 0)) w' →
      w'.ownsRow 0 32 5 v n xs ∧ KX X W w' := by
  have g1 : Og p W (W.setCell ⟨p, 0, none⟩ v) := (Og.refl p W).set 0 _
  have g2 : Og q (W.setCell ⟨p, 0, none⟩ v) (((W.setCell ⟨p, 0, none⟩ v).setCell ⟨q, 0, none⟩ (.int .i64 0)).setCell ⟨q, 1, none⟩ (.int .i64 0)) := ((Og.refl q _).set 0 _).set 1 _
  have k1 : KX X W (((W.setCell ⟨p, 0, none⟩ v).setCell ⟨q, 0, none⟩ (.int .i64 0)).setCell ⟨q, 1, none⟩ (.int .i64 0)) :=
    (((KX.refl X W).set (fun hb => (hX _ hb).1 rfl) _).set (fun hb => (hX _ hb).2.1 rfl) _).set (fun hb => (hX _ hb).2.1 rfl) _
  refine ⟨((hp.set 0 v).far hpq _).far hpq _, ((hq.far hpq.symm v).set 0 _).set 1 _, fun w' h => ⟨row_keep (g2.row (g1.row hr h1) h2) h, k1.trans (KX.below h (fun k hk => ?_))⟩⟩
  have := (hX k hk).2.2
  have := k1.size
  omega

theorem lay_start {X : Nat → Prop} {w2 : World} {lv : Value} {p q : Nat} (hX : ∀ b, X b → b < w2.heap.size) (hp : p < w2.heap.size) (hq : q < w2.heap.size) :
    LR (fun b => X b ∨ b = p ∨ b = q) (w2.alloc (.cells #[lv, .slice none 0 0, .slice none 0 0, .int .i64 0] 72)) w2.heap.size lv ⟨[], [], 0⟩ := by
  refine ⟨.slice none 0 0, .slice none 0 0, Bl.new w2 72 [lv, .slice none 0 0, .slice none 0 0, .int .i64 0], World.ownsRow_nil _ _ _ _, World.ownsRow_nil _ _ _ _, fun b hb => ?_⟩
  have hlt : b < w2.heap.size := by
    rcases hb with hb | rfl | rfl
    · exact hX b hb
    · exact hp
    · exact hq
  exact ⟨by simp; omega, by omega, by simp [Value.ownBlock], by simp [Value.ownBlock]⟩

set_option maxRecDepth 100000 in
set_option maxHeartbeats 12800000 in
theorem layout_run (X : Nat → Prop) (w : World) (lv : Value) (ts : List Tok) (hl : LL X w lv ts) (hX : ∀ b, X b → b < w.heap.size) (hn : ts.length ≤ 20000) (hc : chkF ts = none)
    (hsz : ∀ (i : Nat) (t : Tok), ts[i]? = some t → t.pos ≤ 1000000 ∧ t.line ≤ 1000000 ∧ t.text.size ≤ 1000000) (hord : ∀ (j : Nat) (u t : Tok), ts[j]? = some u → ts[j + 1]? = some t → u.pos ≤ t.pos) :
    Calls Tryd.prog 21 #[lv] w (LayRes X w (layF ts)) := by
  have hlay : layF ts = match runF ts ts.length 0 ⟨[], [], 0⟩ with
    | .error e => .error e
    | .ok s => match endF ts s with
      | .error e => .error e
      | .ok s => .ok s.out := by unfold layF; rw [hc]; rfl
  have hb0 := ((Below.refl w.heap.size w).alloc (Nat.le_refl _) (.cells #[.slice none 0 0] 23)).alloc (by simp) (.cells #[.int .i64 0, .int .i64 0] 26)
  have ck := check_any X _ lv ts (hl.below hb0) (by omega)
  rw [hc] at ck
  replace ck : Calls Tryd.prog 38 #[lv] ((w.alloc (.cells #[.slice none 0 0] 23)).alloc (.cells #[.int .i64 0, .int .i64 0] 26)) (fun e w' => e = .returned (.tuple #[]) ∧ Below ((w.alloc (.cells #[.slice none 0 0] 23)).alloc (.cells #[.int .i64 0, .int .i64 0] 26)).heap.size ((w.alloc (.cells #[.slice none 0 0] 23)).alloc (.cells #[.int .i64 0, .int .i64 0] 26)) w') := ck
  have CK := Lib.hid ck
  have hmf : ∀ (fn : Fn) (first cap : Array Value) (w : World), (Instr.makeFunc fn first cap).run Tryd.prog w = .ok (.func fn first cap) w := fun _ _ _ _ => rfl
  obtain ⟨va, vc, hlv⟩ := row_len' hl.1
  subst hlv
  have HL := Lib.hid hl
  have HX := Lib.hid hX
  have HN := Lib.hid hn
  have HSZ := Lib.hid hsz
  have HORD := Lib.hid hord
  have HLAY := Lib.hid hlay
  clear hl hX hn hc ck hb0 hsz hord hlay
  generalize hlen : ts.length = n at *
  have HLEN := Lib.hid hlen
  clear hlen
  go_enter_defers Tryd.func21, Tryd.ntmps21
  go_wp2_with fail
  refine CK.out.mono ?_
  rintro e w2 ⟨rfl, hB⟩
  have hp : Bl w2 w.heap.size 23 [.slice none 0 0] := ((Bl.new w 23 [.slice none 0 0]).alloc _).below hB (by simp; omega)
  have hq : Bl w2 (w.heap.size + 1) 26 [.int .i64 0, .int .i64 0] := by
    have := Bl.new (w.alloc (.cells #[.slice none 0 0] 23)) 26 [.int .i64 0, .int .i64 0]
    exact Bl.below (by simpa using this) hB (by simp)
  have hb0 := ((Below.refl w.heap.size w).alloc (Nat.le_refl _) (.cells #[.slice none 0 0] 23)).alloc (by simp) (.cells #[.int .i64 0, .int .i64 0] 26)
  have hs := hb0.size
  have hs2 := hB.size
  have hX2 : ∀ b, X b → b < w2.heap.size := fun b hb => by have := HX.out b hb; omega
  have HK2 := Lib.hid ((KX.below hb0 HX.out).trans (KX.below hB (fun k hk => by have := HX.out k hk; omega)))
  have HLR := Lib.hid (lay_start (lv := .slice va n vc) hX2 hp.lt hq.lt)
  have HP := Lib.hid (hp.alloc (.cells #[.slice va n vc, .slice none 0 0, .slice none 0 0, .int .i64 0] 72))
  have HQ := Lib.hid (hq.alloc (.cells #[.slice va n vc, .slice none 0 0, .slice none 0 0, .int .i64 0] 72))
  have HK3 := Lib.hid (KX.below ((Below.refl w2.heap.size w2).alloc (Nat.le_refl _) (.cells #[.slice va n vc, .slice none 0 0, .slice none 0 0, .int .i64 0] 72)) hX2)
  have hpq : w.heap.size ≠ w.heap.size + 1 := by omega
  have HPQ := Lib.hid hpq
  have HXP := Lib.hid (fun (b : Nat) (hb : X b) => (show b ≠ w.heap.size ∧ b ≠ w.heap.size + 1 by have := HX.out b hb; omega))
  clear hp hq hb0 hs hs2 hX2 hpq hB CK
  go_wp2_with fail
  generalize w2.alloc (.cells #[.slice va n vc, .slice none 0 0, .slice none 0 0, .int .i64 0] 72) = W3 at *
  generalize w2.heap.size = yb at *
  generalize w.heap.size + 1 = q at *
  generalize w.heap.size = p at *
  go_loopg [15] n (fun gh s15 wr => ∃ (k : Nat) (s1 : LS), k + gh = n ∧ s15 = .int .i64 k ∧ LR (fun b => X b ∨ b = p ∨ b = q) wr yb (.slice va n vc) s1 ∧ KX (fun b => X b ∨ b = p ∨ b = q) W3 wr ∧ runF ts gh k s1 = runF ts n 0 ⟨[], [], 0⟩ ∧ (k = 0 → s1 = ⟨[], [], 0⟩) ∧ (0 < k → Inv s1 (5 * k + 1)))
  case atStart => exact ⟨0, _, by omega, rfl, HLR.out, KX.refl _ _, rfl, fun _ => rfl, fun h => absurd h (by omega)⟩
  case round =>
    obtain ⟨k, s1, hk, rfl, hL, hK, hR, hz, hv⟩ := hrel
    have HL1 := Lib.hid hL
    have HK1 := Lib.hid hK
    have HR1 := Lib.hid hR
    have HZ := Lib.hid hz
    have HV := Lib.hid hv
    have hLL : LL (fun b => X b ∨ b = p ∨ b = q) wr (.slice va n vc) ts := (HL.out.kx ((HK2.out.trans HK3.out).trans (hK.mono (fun _ h => .inl h)))).mono (fun _ h => .inl h)
    have HLL := Lib.hid hLL
    have c3 : wr.cell? ⟨yb, 3, none⟩ = some (.int .i64 s1.first) := by
      obtain ⟨vo, vr, h1, _⟩ := hL
      exact h1.cell 3
    have f3 : ∀ o : Obj, (wr.alloc o).frozen? ⟨yb, 3, none⟩ = false := by
      obtain ⟨vo, vr, h1, _⟩ := hL
      exact fun o => (h1.alloc o).froz 3
    have c3' := cell_alloc1 c3
    have ny := World.new_ne wr _ c3
    clear hL hK hR hz hv hLL
    by_cases hlt : k < n
    · have hkn : k < ts.length := by have := HLEN.out; omega
      obtain ⟨t, ht⟩ : ∃ t, ts[k]? = some t := ⟨ts[k], List.getElem?_eq_getElem hkn⟩
      have HT := Lib.hid ht
      obtain ⟨g, cap, hlv, hg, k0, k1, k2, k3, k4⟩ := HLL.out.tok' HLEN.out ht
      simp only [Value.slice.injEq, true_and] at hlv
      obtain ⟨rfl, rfl⟩ := hlv
      obtain ⟨tk, tx, ta, tl, tc⟩ := t
      simp only at k0 k1 k2 k3 k4
      obtain ⟨gh', rfl⟩ : ∃ gh', gk = gh' + 1 := ⟨gk - 1, by omega⟩
      have HKN := Lib.hid hk
      cases k with
      | zero =>
        have hs0 := HZ.out rfl
        subst hs0
        have hq3 : (0 : Int) < (n : Int) := by omega
        simp at k0 k1 k2 k3 k4
        clear ht hkn hk hlt
        have hA := (HL1.out.keep ((Below.refl wr.heap.size wr).alloc (Nat.le_refl _) (.cells #[.int .i64 tk, .string tx, .int .i64 ta, .int .i64 tl, .int .i64 tc] 32))).first tc
        have hKA := KX.below ((Below.refl wr.heap.size wr).alloc (Nat.le_refl _) (.cells #[.int .i64 tk, .string tx, .int .i64 ta, .int .i64 tl, .int .i64 tc] 32)) HL1.out.lt
        have co := open_ok (fun b => X b ∨ b = p ∨ b = q) _ yb _ _ ⟨⟨#[]⟩, tc, 0⟩ hA.1 (by show [].length < 64; simp)
        simp only [Reg.cs] at co
        have CO := Lib.hid co
        have HKA := Lib.hid (hKA.trans hA.2)
        have HINV : Hid (Inv ⟨[], [⟨⟨#[]⟩, tc, 0⟩], tc⟩ (5 * 0 + 4)) := ⟨⟨[], _, rfl, (by decide +kernel : (⟨#[]⟩ : ByteArray).toList = [])⟩, by simp, by simp⟩
        clear hA hKA co
        go_wp2_with fail
        refine CO.out.mono ?_
        rintro e W4 ⟨rfl, hL4, hK4⟩
        have hLT := hL4
        have hKT := HKA.out.trans hK4
        have ct := token_any (fun b => X b ∨ b = p ∨ b = q) W4 yb (.slice (some ⟨g, 0, none⟩) n vc) (⟨[], [⟨⟨#[]⟩, tc, 0⟩], tc⟩) ts 0 ⟨tk, tx, ta, tl, tc⟩ (5 * (0) + 4) hLT (HLL.out.kx hKT) HT.out (by have := HN.out; have := HLEN.out; omega) HINV.out (by have := HKN.out; have := HN.out; omega)
        have HKT := Lib.hid hKT
        have hstep : stepF ts 0 ⟨tk, tx, ta, tl, tc⟩ (⟨[], [], 0⟩ : LS) = tokF 0 ⟨tk, tx, ta, tl, tc⟩ (⟨[], [⟨⟨#[]⟩, tc, 0⟩], tc⟩) := rfl
        cases htf : tokF 0 ⟨tk, tx, ta, tl, tc⟩ (⟨[], [⟨⟨#[]⟩, tc, 0⟩], tc⟩) with
        | error f =>
          rw [htf] at ct
          replace ct : Calls Tryd.prog 41 #[.pointer (some ⟨yb, 0, none⟩), .int .i64 (0 : Nat)] (W4) (fun e w' => e = .panicked (fv f.1 f.2) ∧ KX (fun b => X b ∨ b = p ∨ b = q) (W4) w') := ct
          have CT := Lib.hid ct
          have hv0 : layF ts = .error f := by
            rw [HLAY.out, ← HR1.out]; unfold runF; rw [HT.out]; simp only [hstep, htf]
          have HV0 := Lib.hid hv0
          clear ct hLT hKT hstep htf hv0
          go_wp2_with (go_at_call 41; refine CT.out.mono ?_; rintro e W5 ⟨rfl, hK5⟩)
          have hkw := HKT.out.trans hK5
          have hka := HK1.out.trans hkw
          refine door_panic (by rfl) (by rfl) (hka.bl (.inr (.inl rfl)) HP.out) (hka.bl (.inr (.inr rfl)) HQ.out) HPQ.out (fun w' h => ?_)
          rw [HV0.out]
          refine ⟨rfl, ((HK2.out.trans HK3.out).trans (hka.mono (fun _ h => .inl h))).trans (h X (fun b hb => ⟨?_, (HXP.out b hb).1, (HXP.out b hb).2⟩))⟩
          have l1 := HL1.out.lt b (.inl hb)
          have l2 := hkw.size
          omega
        | ok s2 =>
          rw [htf] at ct
          replace ct : Calls Tryd.prog 41 #[.pointer (some ⟨yb, 0, none⟩), .int .i64 (0 : Nat)] (W4) (fun e w' => e = .returned (.tuple #[]) ∧ LR (fun b => X b ∨ b = p ∨ b = q) w' yb (.slice (some ⟨g, 0, none⟩) n vc) s2 ∧ KX (fun b => X b ∨ b = p ∨ b = q) (W4) w') := ct
          have CT := Lib.hid ct
          have hrun : runF ts (gh' + 1) 0 (⟨[], [], 0⟩ : LS) = runF ts gh' (0 + 1) s2 := by
            conv => lhs; unfold runF
            rw [HT.out]; simp only [hstep, htf]
          have HRUN := Lib.hid (hrun.symm.trans HR1.out)
          have HI2 := Lib.hid (tokF_inv HINV.out htf)
          clear ct hLT hKT hstep htf hrun
          go_wp2_with (go_at_call 41; refine CT.out.mono ?_; rintro e W5 ⟨rfl, hL5, hK5⟩)
          go_roundg gh'
          case rel => exact ⟨0 + 1, s2, by have := HKN.out; omega, by have := HKN.out; have := HN.out; go_num, hL5, HK1.out.trans (HKT.out.trans hK5), HRUN.out, fun h => absurd h (by omega), fun _ => by have h := HI2.out; exact ⟨h.bot, h.few, by have := h.sum; omega⟩⟩
          case measure => omega
      | succ j =>
        obtain ⟨u, hu⟩ : ∃ u, ts[j]? = some u := ⟨ts[j]'(by omega), List.getElem?_eq_getElem (by omega)⟩
        obtain ⟨g', cap', hlv', _, m0, m1, m2, m3, m4⟩ := HLL.out.tok' HLEN.out hu
        simp only [Value.slice.injEq, true_and, Option.some.injEq, Addr.mk.injEq, and_true] at hlv'
        obtain ⟨rfl, rfl⟩ := hlv'
        have HU := Lib.hid hu
        obtain ⟨uk, ux, ua, ul, uc⟩ := u
        simp only at m0 m1 m2 m3 m4
        have hn0 := HN.out
        have q4 : IntKind.i64.wrap ((j : Int) + 1 - 1) = (j : Int) := by rw [IntKind.wrap_i64]; omega
        have q4' : IntKind.i64.wrap (j : Int) = (j : Int) := by rw [IntKind.wrap_i64]; omega
        have q5 : (0 : Int) ≤ (j : Int) := by omega
        have q6 : (j : Int) < (n : Int) := by omega
        have q7 : (j : Int) + 1 < (n : Int) := by omega
        have q8 : (0 : Int) ≤ (j : Int) + 1 := by omega
        have bn := Bl.new wr 32 [.int .i64 tk, .string tx, .int .i64 ta, .int .i64 tl, .int .i64 tc]
        have b3 : (wr.alloc (.cells #[.int .i64 tk, .string tx, .int .i64 ta, .int .i64 tl, .int .i64 tc] 32)).cell? ⟨wr.heap.size, 3, none⟩ = some (.int .i64 tl) := bn.cell 3
        have b4 : (wr.alloc (.cells #[.int .i64 tk, .string tx, .int .i64 ta, .int .i64 tl, .int .i64 tc] 32)).cell? ⟨wr.heap.size, 4, none⟩ = some (.int .i64 tc) := bn.cell 4
        have e3 := cell_alloc1 m3 (.cells #[.int .i64 tk, .string tx, .int .i64 ta, .int .i64 tl, .int .i64 tc] 32)
        have HA := Lib.hid (fun m => show LR (fun b => X b ∨ b = p ∨ b = q) ((wr.alloc (.cells #[.int .i64 tk, .string tx, .int .i64 ta, .int .i64 tl, .int .i64 tc] 32)).drewN m) yb (.slice (some ⟨g, 0, none⟩) n vc) s1 ∧ KX (fun b => X b ∨ b = p ∨ b = q) wr ((wr.alloc (.cells #[.int .i64 tk, .string tx, .int .i64 ta, .int .i64 tl, .int .i64 tc] 32)).drewN m) from
          ⟨HL1.out.keep (drewN_below ((Below.refl wr.heap.size wr).alloc (Nat.le_refl _) (.cells #[.int .i64 tk, .string tx, .int .i64 ta, .int .i64 tl, .int .i64 tc] 32)) m), KX.below (drewN_below ((Below.refl wr.heap.size wr).alloc (Nat.le_refl _) (.cells #[.int .i64 tk, .string tx, .int .i64 ta, .int .i64 tl, .int .i64 tc] 32)) m) HL1.out.lt⟩)
        have HIV := Lib.hid (HV.out (by omega))
        have HPN := Lib.hid (show ∀ n', ts[j + 1 + 1]? = some n' → ta ≤ n'.pos ∧ n'.pos ≤ 1000000 ∧ tx.size ≤ 1000000 from fun n' h => ⟨HORD.out _ _ _ HT.out h, (HSZ.out _ _ h).1, (HSZ.out _ _ HT.out).2.2⟩)
        clear hu ht hkn hk hlt bn
        by_cases hll : ul < tl
        · have hlq : (ul : Int) < (tl : Int) := by omega
          go_wp2_with fail
          go_quiet (fail)
          go_wp2_with fail
          have hA := (HA.out nq).1.first tc
          have hKA := (HA.out nq).2.trans hA.2
          have cl := line_any (fun b => X b ∨ b = p ∨ b = q) _ yb (.slice (some ⟨g, 0, none⟩) n vc) { s1 with first := tc } ts j ⟨uk, ux, ua, ul, uc⟩ ⟨tk, tx, ta, tl, tc⟩ hA.1 (HLL.out.kx hKA) HU.out HT.out (by have := HN.out; have := HLEN.out; omega) (by have := HIV.out.sum; have := HKN.out; have := HN.out; show s1.out.length + s1.regs.length < _; omega) HIV.out.bot.ne HIV.out.few HPN.out
          have HKA := Lib.hid hKA
          generalize ((wr.alloc (.cells #[.int .i64 tk, .string tx, .int .i64 ta, .int .i64 tl, .int .i64 tc] 32)).drewN nq).setCell ⟨yb, 3, none⟩ (.int .i64 (tc : Nat)) = W4 at *
          have hKA4 : KX (fun b => X b ∨ b = p ∨ b = q) wr W4 := HKA.out
          cases hlf : lineF ts (j + 1) ⟨uk, ux, ua, ul, uc⟩ ⟨tk, tx, ta, tl, tc⟩ { s1 with first := tc } with
          | error f =>
            rw [hlf] at cl
            replace cl : Calls Tryd.prog 40 #[.pointer (some ⟨yb, 0, none⟩), .int .i64 ((j : Int) + 1)] W4 (fun e w' => e = .panicked (fv f.1 f.2) ∧ KX (fun b => X b ∨ b = p ∨ b = q) W4 w') := cl
            have CL := Lib.hid cl
            have hstep : stepF ts (j + 1) ⟨tk, tx, ta, tl, tc⟩ s1 = .error f := by show (match ts[j]? with | none => _ | some u => _) = _; rw [HU.out]; simp only [hll, if_true, hlf]
            have hv0 : layF ts = .error f := by
              rw [HLAY.out, ← HR1.out]; unfold runF; rw [HT.out]; simp only [hstep]
            have HV0 := Lib.hid hv0
            have HKT := Lib.hid hKA4
            clear cl hA hKA hlf hstep hv0 hKA4
            refine CL.out.mono ?_
            rintro e W5 ⟨rfl, hK5⟩
            go_simp
            have hkw := HKT.out.trans hK5
            have hka := HK1.out.trans hkw
            refine door_panic (by rfl) (by rfl) (hka.bl (.inr (.inl rfl)) HP.out) (hka.bl (.inr (.inr rfl)) HQ.out) HPQ.out (fun w' h => ?_)
            rw [HV0.out]
            refine ⟨rfl, ((HK2.out.trans HK3.out).trans (hka.mono (fun _ h => .inl h))).trans (h X (fun b hb => ⟨?_, (HXP.out b hb).1, (HXP.out b hb).2⟩))⟩
            have l1 := HL1.out.lt b (.inl hb)
            have l2 := hkw.size
            omega
          | ok s3 =>
            rw [hlf] at cl
            replace cl : Calls Tryd.prog 40 #[.pointer (some ⟨yb, 0, none⟩), .int .i64 ((j : Int) + 1)] W4 (fun e w' => e = .returned (.tuple #[]) ∧ LR (fun b => X b ∨ b = p ∨ b = q) w' yb (.slice (some ⟨g, 0, none⟩) n vc) s3 ∧ KX (fun b => X b ∨ b = p ∨ b = q) W4 w') := cl
            have CL := Lib.hid cl
            have HINV := Lib.hid (show Inv s3 (5 * (j + 1) + 4) from lineF_inv (s := { s1 with first := tc }) (n := 5 * (j + 1) + 1) ⟨HIV.out.bot, HIV.out.few, HIV.out.sum⟩ hlf)
            have HKT0 := Lib.hid hKA4
            clear cl hA hKA hKA4
            refine CL.out.mono ?_
            rintro e W5 ⟨rfl, hL5, hK5⟩
            go_simp
            have hLT := hL5
            have hKT := HKT0.out.trans hK5
            have ct := token_any (fun b => X b ∨ b = p ∨ b = q) W5 yb (.slice (some ⟨g, 0, none⟩) n vc) (s3) ts (j + 1) ⟨tk, tx, ta, tl, tc⟩ (5 * ((j + 1)) + 4) hLT (HLL.out.kx hKT) HT.out (by have := HN.out; have := HLEN.out; omega) HINV.out (by have := HKN.out; have := HN.out; omega)
            have HKT := Lib.hid hKT
            have hstep : stepF ts (j + 1) ⟨tk, tx, ta, tl, tc⟩ s1 = tokF (j + 1) ⟨tk, tx, ta, tl, tc⟩ (s3) := by show (match ts[j]? with | none => _ | some u => _) = _; rw [HU.out]; simp only [hll, if_true, hlf]
            cases htf : tokF (j + 1) ⟨tk, tx, ta, tl, tc⟩ (s3) with
            | error f =>
              rw [htf] at ct
              replace ct : Calls Tryd.prog 41 #[.pointer (some ⟨yb, 0, none⟩), .int .i64 ((j : Int) + 1)] (W5) (fun e w' => e = .panicked (fv f.1 f.2) ∧ KX (fun b => X b ∨ b = p ∨ b = q) (W5) w') := ct
              have CT := Lib.hid ct
              have hv0 : layF ts = .error f := by
                rw [HLAY.out, ← HR1.out]; unfold runF; rw [HT.out]; simp only [hstep, htf]
              have HV0 := Lib.hid hv0
              clear ct hLT hKT hstep htf hv0
              go_wp2_with (go_at_call 41; refine CT.out.mono ?_; rintro e W5 ⟨rfl, hK5⟩)
              have hkw := HKT.out.trans hK5
              have hka := HK1.out.trans hkw
              refine door_panic (by rfl) (by rfl) (hka.bl (.inr (.inl rfl)) HP.out) (hka.bl (.inr (.inr rfl)) HQ.out) HPQ.out (fun w' h => ?_)
              rw [HV0.out]
              refine ⟨rfl, ((HK2.out.trans HK3.out).trans (hka.mono (fun _ h => .inl h))).trans (h X (fun b hb => ⟨?_, (HXP.out b hb).1, (HXP.out b hb).2⟩))⟩
              have l1 := HL1.out.lt b (.inl hb)
              have l2 := hkw.size
              omega
            | ok s2 =>
              rw [htf] at ct
              replace ct : Calls Tryd.prog 41 #[.pointer (some ⟨yb, 0, none⟩), .int .i64 ((j : Int) + 1)] (W5) (fun e w' => e = .returned (.tuple #[]) ∧ LR (fun b => X b ∨ b = p ∨ b = q) w' yb (.slice (some ⟨g, 0, none⟩) n vc) s2 ∧ KX (fun b => X b ∨ b = p ∨ b = q) (W5) w') := ct
              have CT := Lib.hid ct
              have hrun : runF ts (gh' + 1) (j + 1) s1 = runF ts gh' ((j + 1) + 1) s2 := by
                conv => lhs; unfold runF
                rw [HT.out]; simp only [hstep, htf]
              have HRUN := Lib.hid (hrun.symm.trans HR1.out)
              have HI2 := Lib.hid (tokF_inv HINV.out htf)
              clear ct hLT hKT hstep htf hrun
              go_wp2_with (go_at_call 41; refine CT.out.mono ?_; rintro e W5 ⟨rfl, hL5, hK5⟩)
              go_roundg gh'
              case rel => exact ⟨(j + 1) + 1, s2, by have := HKN.out; omega, by have := HKN.out; have := HN.out; go_num, hL5, HK1.out.trans (HKT.out.trans hK5), HRUN.out, fun h => absurd h (by omega), fun _ => by have h := HI2.out; exact ⟨h.bot, h.few, by have := h.sum; omega⟩⟩
              case measure => omega
        · have hlq : ¬ (ul : Int) < (tl : Int) := by omega
          have HINV : Hid (Inv s1 (5 * (j + 1) + 4)) := ⟨HIV.out.bot, HIV.out.few, by have := HIV.out.sum; omega⟩
          go_wp2_with fail
          go_quiet (fail)
          go_wp2_with fail
          have hA := HA.out nq
          have hL4 := hA.1
          have hK4 := hA.2
          generalize (wr.alloc (.cells #[.int .i64 tk, .string tx, .int .i64 ta, .int .i64 tl, .int .i64 tc] 32)).drewN nq = W4 at *
          have hLT := hL4
          have hKT := hK4
          have ct := token_any (fun b => X b ∨ b = p ∨ b = q) W4 yb (.slice (some ⟨g, 0, none⟩) n vc) (s1) ts (j + 1) ⟨tk, tx, ta, tl, tc⟩ (5 * ((j + 1)) + 4) hLT (HLL.out.kx hKT) HT.out (by have := HN.out; have := HLEN.out; omega) HINV.out (by have := HKN.out; have := HN.out; omega)
          have HKT := Lib.hid hKT
          have hstep : stepF ts (j + 1) ⟨tk, tx, ta, tl, tc⟩ s1 = tokF (j + 1) ⟨tk, tx, ta, tl, tc⟩ (s1) := by show (match ts[j]? with | none => _ | some u => _) = _; rw [HU.out]; simp only [hll, if_false]
          cases htf : tokF (j + 1) ⟨tk, tx, ta, tl, tc⟩ (s1) with
          | error f =>
            rw [htf] at ct
            replace ct : Calls Tryd.prog 41 #[.pointer (some ⟨yb, 0, none⟩), .int .i64 ((j : Int) + 1)] (W4) (fun e w' => e = .panicked (fv f.1 f.2) ∧ KX (fun b => X b ∨ b = p ∨ b = q) (W4) w') := ct
            have CT := Lib.hid ct
            have hv0 : layF ts = .error f := by
              rw [HLAY.out, ← HR1.out]; unfold runF; rw [HT.out]; simp only [hstep, htf]
            have HV0 := Lib.hid hv0
            clear ct hLT hKT hstep htf hv0
            go_wp2_with (go_at_call 41; refine CT.out.mono ?_; rintro e W5 ⟨rfl, hK5⟩)
            have hkw := HKT.out.trans hK5
            have hka := HK1.out.trans hkw
            refine door_panic (by rfl) (by rfl) (hka.bl (.inr (.inl rfl)) HP.out) (hka.bl (.inr (.inr rfl)) HQ.out) HPQ.out (fun w' h => ?_)
            rw [HV0.out]
            refine ⟨rfl, ((HK2.out.trans HK3.out).trans (hka.mono (fun _ h => .inl h))).trans (h X (fun b hb => ⟨?_, (HXP.out b hb).1, (HXP.out b hb).2⟩))⟩
            have l1 := HL1.out.lt b (.inl hb)
            have l2 := hkw.size
            omega
          | ok s2 =>
            rw [htf] at ct
            replace ct : Calls Tryd.prog 41 #[.pointer (some ⟨yb, 0, none⟩), .int .i64 ((j : Int) + 1)] (W4) (fun e w' => e = .returned (.tuple #[]) ∧ LR (fun b => X b ∨ b = p ∨ b = q) w' yb (.slice (some ⟨g, 0, none⟩) n vc) s2 ∧ KX (fun b => X b ∨ b = p ∨ b = q) (W4) w') := ct
            have CT := Lib.hid ct
            have hrun : runF ts (gh' + 1) (j + 1) s1 = runF ts gh' ((j + 1) + 1) s2 := by
              conv => lhs; unfold runF
              rw [HT.out]; simp only [hstep, htf]
            have HRUN := Lib.hid (hrun.symm.trans HR1.out)
            have HI2 := Lib.hid (tokF_inv HINV.out htf)
            clear ct hLT hKT hstep htf hrun
            go_wp2_with (go_at_call 41; refine CT.out.mono ?_; rintro e W5 ⟨rfl, hL5, hK5⟩)
            go_roundg gh'
            case rel => exact ⟨(j + 1) + 1, s2, by have := HKN.out; omega, by have := HKN.out; have := HN.out; go_num, hL5, HK1.out.trans (HKT.out.trans hK5), HRUN.out, fun h => absurd h (by omega), fun _ => by have h := HI2.out; exact ⟨h.bot, h.few, by have := h.sum; omega⟩⟩
            case measure => omega
    · have hkn : k = n := by omega
      have hgk : gk = 0 := by omega
      subst hkn
      subst hgk
      clear hk hlt
      have ce : Calls Tryd.prog 42 #[.pointer (some ⟨yb, 0, none⟩)] wr (Res (fun b => X b ∨ b = p ∨ b = q) wr yb (.slice va k vc) (endF ts s1)) := by
        cases hla : ts.getLast? with
        | none =>
          have hnil : ts = [] := List.getLast?_eq_none_iff.1 hla
          subst hnil
          have hs0 := HZ.out (by have := HLEN.out; simp at this; omega)
          subst hs0
          exact end_nil _ _ _ _ _ HL1.out HLL.out
        | some l =>
          have hne : 0 < k := by
            have := HLEN.out
            cases ts with
            | nil => simp at hla
            | cons a b => simp at this; omega
          have hv := HV.out hne
          have hlm : ts[k - 1]? = some l := by
            rw [List.getLast?_eq_getElem?, HLEN.out] at hla; exact hla
          have hsz := HSZ.out _ _ hlm
          exact end_any (fun b => X b ∨ b = p ∨ b = q) wr yb (.slice va k vc) s1 ts l HL1.out HLL.out hla (by have := HN.out; have := HLEN.out; omega) (by have := hv.sum; have := HN.out; omega) hv.bot.ne hsz.1 hsz.2.1
      cases he : endF ts s1 with
      | error f =>
        rw [he] at ce
        have CE := Lib.hid ce
        have hv0 : layF ts = .error f := by
          rw [HLAY.out, ← HR1.out]; unfold runF; simp only [he]
        have HV0 := Lib.hid hv0
        clear ce hv0 he
        go_wp2_with (go_at_call 42; refine CE.out.mono ?_; rintro e W5 ⟨rfl, hK5⟩)
        have hkw := hK5
        have hka := HK1.out.trans hkw
        refine door_panic (by rfl) (by rfl) (hka.bl (.inr (.inl rfl)) HP.out) (hka.bl (.inr (.inr rfl)) HQ.out) HPQ.out (fun w' h => ?_)
        rw [HV0.out]
        refine ⟨rfl, ((HK2.out.trans HK3.out).trans (hka.mono (fun _ h => .inl h))).trans (h X (fun b hb => ⟨?_, (HXP.out b hb).1, (HXP.out b hb).2⟩))⟩
        have l1 := HL1.out.lt b (.inl hb)
        have l2 := hkw.size
        omega
      | ok s2 =>
        rw [he] at ce
        have CE := Lib.hid ce
        have hv0 : layF ts = .ok s2.out := by
          rw [HLAY.out, ← HR1.out]; unfold runF; simp only [he]
        have HV0 := Lib.hid hv0
        clear ce hv0 he
        go_wp2_with fail
        refine CE.out.mono ?_
        rintro e W5 ⟨rfl, hL5, hK5⟩
        have hpB := (HK1.out.trans hK5).bl (.inr (.inl rfl)) HP.out
        have hqB := (HK1.out.trans hK5).bl (.inr (.inr rfl)) HQ.out
        have HL5 := Lib.hid hL5
        have HK5 := Lib.hid hK5
        obtain ⟨vo, vr, h1, h2, h3, h4⟩ := hL5
        obtain ⟨oa, oc, rfl⟩ := row_len h2
        have c1 : W5.cell? ⟨yb, 1, none⟩ = some (.slice oa s2.out.length oc) := h1.cell 1
        have d0 : W5.cell? ⟨p, 0, none⟩ = some (.slice none 0 0) := hpB.cell 0
        have f0 := hpB.froz 0
        have d1 : W5.cell? ⟨q, 0, none⟩ = some (.int .i64 0) := hqB.cell 0
        have f1 := hqB.froz 0
        have d2 : W5.cell? ⟨q, 1, none⟩ = some (.int .i64 0) := hqB.cell 1
        have f2 := hqB.froz 1
        have hpq := HPQ.out
        have HPB := Lib.hid hpB
        have HQB := Lib.hid hqB
        have H2 := Lib.hid h2
        have H4 := Lib.hid h4
        clear h1 h2 h3 h4 hpB hqB hK5
        go_wp2_with fail
        have hfin := lay_finish (X := X) (v := .slice oa s2.out.length oc) HPB.out HQB.out HPQ.out H2.out (H4.out p (.inr (.inl rfl))).2.2.1 (H4.out q (.inr (.inr rfl))).2.2.1 (fun b hb => ⟨(HXP.out b hb).1, (HXP.out b hb).2, (H4.out b (.inl hb)).1⟩)
        have HFIN := Lib.hid hfin
        refine door_ret (by rfl) (by rfl) (v := .slice oa s2.out.length oc) hfin.1 hfin.2.1 (fun w' h => ?_)
        rw [HV0.out]
        obtain ⟨f1, f2⟩ := HFIN.out.2.2 w' h
        exact ⟨_, rfl, f1, ((HK2.out.trans HK3.out).trans ((HK1.out.trans HK5.out).mono (fun _ h => .inl h))).trans f2, fun b hb => (H4.out b (.inl hb)).2.2.1⟩
end Go.Proofs.YtpgcklpcohcchaaDoor
