/- FindClass. -/
import Derived.Test.YtkjjieloncdjhaaGreatDoorF12
namespace Go.Proofs.YtkjjieloncdjhaaGreatDoor
open Go Go.RowKit

def hitF (ow : Int) (nm : ByteArray) (ob : Bool) (x : ClC) : Bool := decide (x.ow = ow) && (decide (x.nm = nm) && (decide (x.kd = 2) == ob))

/-- r is the first index of n at which f holds, or -1. -/
def IdxSpec (f : Nat → Bool) (n : Nat) (r : Int) : Prop := (∃ k : Nat, k < n ∧ f k = true ∧ (∀ j, j < k → f j = false) ∧ r = k) ∨ ((∀ j, j < n → f j = false) ∧ r = -1)
theorem IdxSpec.unique {f : Nat → Bool} {n : Nat} {r s : Int} (h : IdxSpec f n r) (h' : IdxSpec f n s) : r = s := by
  rcases h with ⟨k, hk, fk, mk, rfl⟩ | ⟨hn, rfl⟩
  · rcases h' with ⟨j, hj, fj, mj, rfl⟩ | ⟨hn, rfl⟩
    · rcases Nat.lt_trichotomy k j with h | h | h
      · rw [mj k h] at fk; cases fk
      · rw [h]
      · rw [mk j h] at fj; cases fj
    · rw [hn k hk] at fk; cases fk
  · rcases h' with ⟨j, hj, fj, _, rfl⟩ | ⟨_, rfl⟩
    · rw [hn j hj] at fj; cases fj
    · rfl

theorem ClAt.below {w w' : World} {L B : Nat} {a : Option Addr} {i b o : Nat} {x : ClC} (h : ClAt w L a i b o x) (hB : Below B w w') (hb : b < B) : ClAt w' L a i b o x :=
  ⟨h.ad, h.ne, Nat.lt_of_lt_of_le h.lt hB.size, (hB.cell (p := ⟨b, _, none⟩) hb).trans h.k0, (hB.cell (p := ⟨b, _, none⟩) hb).trans h.k1, (hB.cell (p := ⟨b, _, none⟩) hb).trans h.k2, (hB.cell (p := ⟨b, _, none⟩) hb).trans h.k3, (hB.cell (p := ⟨b, _, none⟩) hb).trans h.k4, (hB.cell (p := ⟨b, _, none⟩) hb).trans h.k5, (hB.cell (p := ⟨b, _, none⟩) hb).trans h.k6, (hB.cell (p := ⟨b, _, none⟩) hb).trans h.k7, (hB.cell (p := ⟨b, _, none⟩) hb).trans h.k8, (hB.cell (p := ⟨b, _, none⟩) hb).trans h.k9, (hB.cell (p := ⟨b, _, none⟩) hb).trans h.k10, (hB.cell (p := ⟨b, _, none⟩) hb).trans h.k11, (hB.cell (p := ⟨b, _, none⟩) hb).trans h.k12⟩

set_option maxRecDepth 100000 in
set_option maxHeartbeats 4000000 in
theorem clos_find (p q r : Nat) (ow : Int) (nm : ByteArray) (ob : Bool) (x : ClC) (W : World) (hp : Bl W p 3 [.int .i64 ow]) (hq : Bl W q 9 [.string nm]) (hr : Bl W r 4 [.bool ob]) :
    Calls Tryz.prog 42 #[.agg #[.string x.nm, .int .i64 x.kd, .int .i64 x.fl, .int .i64 x.ow, .slice x.tp.a x.tp.l x.tp.c, .slice x.pr.a x.pr.l x.pr.c, .slice x.pa.a x.pa.l x.pa.c, .slice x.fi.a x.fi.l x.fi.c, .slice x.me.a x.me.l x.me.c, .slice x.ty.a x.ty.l x.ty.c, .slice x.su.a x.su.l x.su.c, .slice x.it.a x.it.l x.it.c, .int .i64 x.at'], ptr p, ptr q, ptr r] W fun e W' => e = .returned (.bool (hitF ow nm ob x)) ∧ Below W.heap.size W W' := by
  have cp : W.cell? ⟨p, 0, none⟩ = some (.int .i64 ow) := hp.cell 0
  have cq : W.cell? ⟨q, 0, none⟩ = some (.string nm) := hq.cell 0
  have cr : W.cell? ⟨r, 0, none⟩ = some (.bool ob) := hr.cell 0
  have lp := hp.lt
  have lq := hq.lt
  have lr := hr.lt
  have HB := Lib.hid (fun o : Obj => (Below.refl W.heap.size W).alloc (Nat.le_refl _) o)
  clear hp hq hr
  unfold hitF
  by_cases ho : x.ow = ow
  · by_cases hn : x.nm = nm
    · have hd : (decide (x.ow = ow) && (decide (x.nm = nm) && (decide (x.kd = 2) == ob))) = (decide (x.kd = 2) == ob) := by simp [ho, hn]
      rw [hd]; clear hd
      subst ho
      subst hn
      by_cases hk : x.kd = 2
      · have e1 : (x.kd == 2) = true := by simp [hk]
        have hd : (decide (x.kd = 2) == ob) = ob := by simp [hk]
        rw [hd]; clear hd
        cases ob
        · go_enter Tryz.func42, Tryz.ntmps42
          go_wp2_with fail
          go_ret
          exact ⟨rfl, HB.out _⟩
        · go_enter Tryz.func42, Tryz.ntmps42
          go_wp2_with fail
          go_ret
          exact ⟨rfl, HB.out _⟩
      · have e1 : (x.kd == 2) = false := by simp [hk]
        have hd : (decide (x.kd = 2) == ob) = !ob := by simp [hk]
        rw [hd]; clear hd
        cases ob
        · go_enter Tryz.func42, Tryz.ntmps42
          go_wp2_with fail
          go_ret
          exact ⟨rfl, HB.out _⟩
        · go_enter Tryz.func42, Tryz.ntmps42
          go_wp2_with fail
          go_ret
          exact ⟨rfl, HB.out _⟩
    · have hd : (decide (x.ow = ow) && (decide (x.nm = nm) && (decide (x.kd = 2) == ob))) = false := by simp [hn]
      rw [hd]; clear hd
      subst ho
      have g2 : ¬ x.nm.toList = nm.toList := fun e => hn (ByteArray.ext (by
        rw [ByteArray.toList_eq, ByteArray.toList_eq] at e
        exact Array.toList_inj.1 e))
      have g3 : ¬ x.nm.data = nm.data := fun e => hn (ByteArray.ext e)
      go_enter Tryz.func42, Tryz.ntmps42
      go_wp2_with fail
      go_ret
      exact ⟨rfl, HB.out _⟩
  · have hd : (decide (x.ow = ow) && (decide (x.nm = nm) && (decide (x.kd = 2) == ob))) = false := by simp [ho]
    rw [hd]; clear hd
    have g1 : (x.ow == ow) = false := by simp [ho]
    go_enter Tryz.func42, Tryz.ntmps42
    go_wp2_with fail
    go_ret
    exact ⟨rfl, HB.out _⟩

set_option maxRecDepth 100000 in
set_option maxHeartbeats 2000000 in
theorem idx_find (p q r L : Nat) (ow : Int) (nm : ByteArray) (ob : Bool) (xs : Nat → ClC) (a : Option Addr) (n c : Nat) (w : World) (hn : n ≤ 9223372036854775807) (hp : Bl w p 3 [.int .i64 ow]) (hq : Bl w q 9 [.string nm]) (hr : Bl w r 4 [.bool ob])
    (hx : ∀ i, i < n → ∃ b o, ClAt w L a i b o (xs i)) :
    Calls Tryz.prog 41 #[.slice a n c, .func (.func 42) #[] #[ptr p, ptr q, ptr r]] w fun e W' => (∃ z : Int, e = .returned (.int .i64 z) ∧ IdxSpec (fun i => hitF ow nm ob (xs i)) n z) ∧ Below w.heap.size w W' := by
  have HX := Lib.hid hx
  have HP := Lib.hid hp
  have HQ := Lib.hid hq
  have HR := Lib.hid hr
  clear hx hp hq hr
  go_enter Tryz.func41, Tryz.ntmps41
  go_wp2_with fail
  go_loopw [8] (fun i wr => ∃ k : Nat, k ≤ n ∧ i = .int .i64 k ∧ (∀ j, j < k → hitF ow nm ob (xs j) = false) ∧ Below w.heap.size w wr) (fun i _ => n - (intOf i).toNat)
  case atStart => exact ⟨0, by omega, rfl, fun j hj => absurd hj (by omega), Below.refl _ _⟩
  case round =>
    obtain ⟨k, hk, rfl, hno, hB⟩ := hrel
    have HN := Lib.hid hno
    have HB := Lib.hid hB
    clear hno hB
    by_cases hlt : k < n
    · obtain ⟨b, o, hA⟩ := HX.out k hlt
      obtain ⟨rfl, ne, lt, k0, k1, k2, k3, k4, k5, k6, k7, k8, k9, k10, k11, k12⟩ := hA.below HB.out hA.lt
      have HC := Lib.hid (clos_find p q r ow nm ob (xs k) wr (HP.out.below HB.out HP.out.lt) (HQ.out.below HB.out HQ.out.lt) (HR.out.below HB.out HR.out.lt))
      clear hA
      go_wp2_with fail
      refine HC.out.mono ?_
      rintro e w1 ⟨rfl, hB1⟩
      have HB1 := Lib.hid (HB.out.trans (hB1.mono HB.out.size))
      clear hB1 HC
      cases hh : hitF ow nm ob (xs k)
      · have HH := Lib.hid hh
        clear hh
        go_wp2_with fail
        go_roundw
        case rel => exact ⟨k + 1, by omega, by go_num, fun j hj => by
          by_cases e : j = k
          · rw [e]; exact HH.out
          · exact HN.out j (by omega), HB1.out⟩
        case measure => simp [intOf]; omega
      · have HH := Lib.hid hh
        clear hh
        go_wp2_with fail
        go_ret
        exact ⟨⟨_, rfl, .inl ⟨k, hlt, HH.out, HN.out, rfl⟩⟩, HB1.out⟩
    · have hkn : k = n := by omega
      subst hkn
      go_wp2_with fail
      go_ret
      exact ⟨⟨_, rfl, .inr ⟨HN.out, rfl⟩⟩, HB.out⟩
end Go.Proofs.YtkjjieloncdjhaaGreatDoor
