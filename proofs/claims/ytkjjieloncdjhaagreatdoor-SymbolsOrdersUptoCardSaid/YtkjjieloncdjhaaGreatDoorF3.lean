/- Lists of types in memory, to a depth; IndexFunc over them. -/
import Derived.Test.YtkjjieloncdjhaaGreatDoorL8
namespace Go.Proofs.YtkjjieloncdjhaaGreatDoor
open Go Go.RowKit

/-- The element i of a list of types at this place. -/
structure TyAt (w : World) (L : Nat) (a : Option Addr) (i : Nat) (b o : Nat) (kd sy nu : Int) (nm : ByteArray) (a' : Option Addr) (n' c' : Nat) : Prop where
  ad : a = some ⟨b, o, none⟩
  ne : b ≠ L
  lt : b < w.heap.size
  k0 : w.cell? ⟨b, o + i * 5, none⟩ = some (.int .i64 kd)
  k1 : w.cell? ⟨b, o + i * 5 + 1, none⟩ = some (.int .i64 sy)
  k2 : w.cell? ⟨b, o + i * 5 + 2, none⟩ = some (.string nm)
  k3 : w.cell? ⟨b, o + i * 5 + 3, none⟩ = some (.int .i64 nu)
  k4 : w.cell? ⟨b, o + i * 5 + 4, none⟩ = some (.slice a' n' c')

/-- A list of n types lies there, to a depth, and not in block L. -/
def TyRow : Nat → Nat → World → Option Addr → Nat → Prop
  | 0, _, _, _, _ => True
  | d + 1, L, w, a, n => n ≤ 9223372036854775807 ∧ ∀ i, i < n → ∃ (b o : Nat) (kd sy nu : Int) (nm : ByteArray) (a' : Option Addr) (n' c' : Nat),
      TyAt w L a i b o kd sy nu nm a' n' c' ∧ nm.size ≤ 9223372036854775807 ∧ TyRow d L w a' n'

theorem TyAt.og {w w' : World} {L : Nat} {a : Option Addr} {i b o : Nat} {kd sy nu : Int} {nm : ByteArray} {a' : Option Addr} {n' c' : Nat} (h : TyAt w L a i b o kd sy nu nm a' n' c') (hg : Og L w w') : TyAt w' L a i b o kd sy nu nm a' n' c' :=
  ⟨h.ad, h.ne, Nat.lt_of_lt_of_le h.lt hg.size, (hg.cell h.lt h.ne).trans h.k0, (hg.cell h.lt h.ne).trans h.k1, (hg.cell h.lt h.ne).trans h.k2, (hg.cell h.lt h.ne).trans h.k3, (hg.cell h.lt h.ne).trans h.k4⟩

theorem TyRow.og {L : Nat} {w w' : World} (hg : Og L w w') : ∀ {d : Nat} {a : Option Addr} {n : Nat}, TyRow d L w a n → TyRow d L w' a n
  | 0, _, _, _ => trivial
  | d + 1, a, n, h => ⟨h.1, fun i hi => by
      obtain ⟨b, o, kd, sy, nu, nm, a', n', c', h1, h2, h3⟩ := h.2 i hi
      exact ⟨b, o, kd, sy, nu, nm, a', n', c', h1.og hg, h2, TyRow.og hg h3⟩⟩

abbrev ptr (b : Nat) : Value := .pointer (some ⟨b, 0, none⟩)
abbrev tyV (kd sy nu : Int) (nm : ByteArray) (a : Option Addr) (n c : Nat) : Value := .agg #[.int .i64 kd, .int .i64 sy, .string nm, .int .i64 nu, .slice a n c]

set_option maxHeartbeats 1000000 in
theorem idx_ty (p q L : Nat) (R : World → Prop) (a : Option Addr) (n c : Nat) (w : World) (hn : n ≤ 9223372036854775807) (h0 : R w)
    (hs : ∀ W i, R W → i < n → ∃ (b o : Nat) (kd sy nu : Int) (nm : ByteArray) (a' : Option Addr) (n' c' : Nat), TyAt W L a i b o kd sy nu nm a' n' c' ∧
      Calls Tryz.prog 69 #[tyV kd sy nu nm a' n' c', ptr p, ptr q] W fun e W' => (∃ r, e = .returned (.bool r)) ∧ R W') :
    Calls Tryz.prog 110 #[.slice a n c, .func (.func 69) #[] #[ptr p, ptr q]] w fun e W' => (∃ z : Int, e = .returned (.int .i64 z)) ∧ R W' := by
  have HS := Lib.hid hs
  have H0 := Lib.hid h0
  clear hs h0
  go_enter Tryz.func110, Tryz.ntmps110
  go_wp2_with fail
  go_loopw [8] (fun i wr => ∃ k : Nat, k ≤ n ∧ i = .int .i64 k ∧ R wr) (fun i _ => n - (intOf i).toNat)
  case atStart => exact ⟨0, by omega, rfl, H0.out⟩
  case round =>
    obtain ⟨k, hk, rfl, hR⟩ := hrel
    by_cases hlt : k < n
    · obtain ⟨b, o, kd, sy, nu, nm, a', n', c', ⟨rfl, ne, lt, k0, k1, k2, k3, k4⟩, hC⟩ := HS.out wr k hR hlt
      have HC := Lib.hid hC
      clear hC hR
      go_wp2_with fail
      refine HC.out.mono ?_
      rintro e w1 ⟨⟨r, rfl⟩, hR⟩
      cases r
      · go_wp2_with fail
        go_roundw
        case rel => exact ⟨k + 1, by omega, by go_num, hR⟩
        case measure => simp [intOf]; omega
      · go_wp2_with fail
        go_ret
        exact ⟨⟨_, rfl⟩, hR⟩
    · have hkn : k = n := by omega
      subst hkn
      have HR := Lib.hid hR
      clear hR
      go_wp2_with fail
      go_ret
      exact ⟨⟨_, rfl⟩, HR.out⟩
end Go.Proofs.YtkjjieloncdjhaaGreatDoor
namespace Go.Proofs.YtkjjieloncdjhaaGreatDoor
open Go Go.RowKit

/-- The counter of nodes. -/
def LB (L : Nat) (W : World) : Prop := ∃ z : Int, Bl W L 3 [.int .i64 z]

/-- What the closure of Types holds. -/
structure TI (L p q : Nat) (deep : Int) (W : World) : Prop where
  lb : LB L W
  bp : Bl W p 68 [ptr L]
  bq : Bl W q 3 [.int .i64 deep]
  np : p ≠ L
  nq : q ≠ L

def BoolEnd (e : Ending) : Prop := ∃ r : Bool, e = .returned (.bool r)

theorem TI.og {L p q : Nat} {deep : Int} {W W' : World} (h : TI L p q deep W) (hg : Og L W W') (hl : LB L W') : TI L p q deep W' :=
  ⟨hl, h.bp.grown hg (by intro e; injection e with e; exact h.np e), h.bq.grown hg (by intro e; injection e with e; exact h.nq e), h.np, h.nq⟩

set_option maxHeartbeats 4000000 in
theorem clos_ty (L p q : Nat) (deep : Int) (hd : deep ≤ 70) (h1 : 1 ≤ deep) (kd sy nu : Int) (nm : ByteArray) (a : Option Addr) (n c : Nat) (W : World) (hI : TI L p q deep W) (hnm : nm.size ≤ 9223372036854775807)
    (hT : ∀ W', Og L W W' → LB L W' → Calls Tryz.prog 36 #[.slice a n c, .int .i64 (deep + 1), ptr L] W' fun e W'' => BoolEnd e ∧ Og L W' W'' ∧ LB L W'') :
    Calls Tryz.prog 69 #[tyV kd sy nu nm a n c, ptr p, ptr q] W fun e W' => BoolEnd e ∧ Og L W W' ∧ TI L p q deep W' := by
  obtain ⟨z, hz⟩ := hI.lb
  have c0 := hz.cell 0
  have f0 := hz.froz 0
  have cp := hI.bp.cell 0
  have cq := hI.bq.cell 0
  have lL := hz.lt
  have lp := hI.bp.lt
  have lq := hI.bq.lt
  have np := hI.np
  have nq := hI.nq
  have HI := Lib.hid hI
  have HT := Lib.hid hT
  have HZ := Lib.hid hz
  clear hI hT hz
  go_enter Tryz.func69, Tryz.ntmps69
  go_upto_region 2 with fail
  generalize wrap64 (z - 1) = z1
  have hbx : Bl ((W.setCell ⟨L, 0, none⟩ (.int .i64 z1)).alloc (.cells #[.int .i64 kd, .int .i64 sy, .string nm, .int .i64 nu, .slice a n c] 59)) W.heap.size 59 [.int .i64 kd, .int .i64 sy, .string nm, .int .i64 nu, .slice a n c] := by
    have := Bl.new (W.setCell ⟨L, 0, none⟩ (.int .i64 z1)) 59 [.int .i64 kd, .int .i64 sy, .string nm, .int .i64 nu, .slice a n c]
    simpa using this
  have hl2 : Bl ((W.setCell ⟨L, 0, none⟩ (.int .i64 z1)).alloc (.cells #[.int .i64 kd, .int .i64 sy, .string nm, .int .i64 nu, .slice a n c] 59)) L 3 [.int .i64 z1] := (HZ.out.set 0 (.int .i64 z1)).alloc _
  have hog : Og L W ((W.setCell ⟨L, 0, none⟩ (.int .i64 z1)).alloc (.cells #[.int .i64 kd, .int .i64 sy, .string nm, .int .i64 nu, .slice a n c] 59)) := ((Og.refl L W).set 0 _).alloc _
  clear c0 f0 cp cq lL lp lq np nq
  generalize (W.setCell ⟨L, 0, none⟩ (.int .i64 z1)).alloc (.cells #[.int .i64 kd, .int .i64 sy, .string nm, .int .i64 nu, .slice a n c] 59) = W2 at *
  have I2 := Lib.hid (HI.out.og hog ⟨z1, hl2⟩)
  have HG := Lib.hid hog
  clear hog
  have c0 := hl2.cell 0
  have cp := I2.out.bp.cell 0
  have cq := I2.out.bq.cell 0
  have x2 := hbx.cell 2
  have x4 := hbx.cell 4
  clear hl2 hbx
  by_cases hz1 : z1 < 0
  · go_wp2_with fail
    go_ret
    exact ⟨⟨_, rfl⟩, HG.out, I2.out⟩
  · by_cases hnb : 100 < nm.size
    · have q : (100 : Int) < (nm.size : Int) := by omega
      go_wp2_with fail
      go_ret
      exact ⟨⟨_, rfl⟩, HG.out, I2.out⟩
    · have q : ¬ (100 : Int) < (nm.size : Int) := by omega
      go_wp2_with fail
      refine (HT.out W2 HG.out I2.out.lb).mono ?_
      rintro e w1 ⟨⟨r, rfl⟩, hg, hl⟩
      have I3 := Lib.hid (I2.out.og hg hl)
      have G3 := Lib.hid (HG.out.trans hg)
      clear hg hl
      cases r
      · go_wp2_with fail
        go_ret
        exact ⟨⟨_, rfl⟩, G3.out, I3.out⟩
      · go_wp2_with fail
        go_ret
        exact ⟨⟨_, rfl⟩, G3.out, I3.out⟩

set_option maxHeartbeats 1000000 in
theorem contains_ty (p q L : Nat) (R : World → Prop) (a : Option Addr) (n c : Nat) (w : World) (hn : n ≤ 9223372036854775807) (h0 : R w)
    (hs : ∀ W i, R W → i < n → ∃ (b o : Nat) (kd sy nu : Int) (nm : ByteArray) (a' : Option Addr) (n' c' : Nat), TyAt W L a i b o kd sy nu nm a' n' c' ∧
      Calls Tryz.prog 69 #[tyV kd sy nu nm a' n' c', ptr p, ptr q] W fun e W' => (∃ r, e = .returned (.bool r)) ∧ R W') :
    Calls Tryz.prog 68 #[.slice a n c, .func (.func 69) #[] #[ptr p, ptr q]] w fun e W' => BoolEnd e ∧ R W' := by
  have HX := Lib.hid (idx_ty p q L R a n c w hn h0 hs)
  clear hs h0
  go_enter Tryz.func68, Tryz.ntmps68
  go_wp2_with fail
  refine HX.out.mono ?_
  rintro e w1 ⟨⟨z, rfl⟩, hR⟩
  have HR := Lib.hid hR
  clear hR HX
  go_wp2_with fail
  go_ret
  exact ⟨⟨_, rfl⟩, HR.out⟩
end Go.Proofs.YtkjjieloncdjhaaGreatDoor
namespace Go.Proofs.YtkjjieloncdjhaaGreatDoor
open Go Go.RowKit

def TyPost (L : Nat) (W : World) (e : Ending) (W' : World) : Prop := BoolEnd e ∧ Og L W W' ∧ LB L W'

theorem LB.alloc {L : Nat} {W : World} (h : LB L W) (o : Obj) : LB L (W.alloc o) := h.elim fun z hz => ⟨z, hz.alloc o⟩
theorem LB.lt {L : Nat} {W : World} (h : LB L W) : L < W.heap.size := h.elim fun _ hz => hz.lt

set_option maxHeartbeats 4000000 in
theorem types_any : ∀ (d : Nat) (deep : Int) (L : Nat) (a : Option Addr) (n c : Nat) (W : World), deep + d = 71 → 1 ≤ deep → TyRow d L W a n → LB L W →
    Calls Tryz.prog 36 #[.slice a n c, .int .i64 deep, ptr L] W (TyPost L W)
  | 0, deep, L, a, n, c, W, hd, h1, hr, hl => by
    obtain rfl : deep = 71 := by omega
    have HL := Lib.hid hl
    clear hd h1 hr hl
    go_enter Tryz.func36, Tryz.ntmps36
    go_wp2_with fail
    go_ret
    exact ⟨⟨_, rfl⟩, ((Og.refl L W).alloc _).alloc _, (HL.out.alloc _).alloc _⟩
  | d + 1, deep, L, a, n, c, W, hd, h1, hr, hl => by
    have hdeep : deep ≤ 70 := by omega
    have HL := Lib.hid hl
    have HR := Lib.hid hr
    have HI := Lib.hid (fun (a' : Option Addr) (n' c' : Nat) (W' : World) (hr' : TyRow d L W' a' n') (hl' : LB L W') => types_any d (deep + 1) L a' n' c' W' (by omega) (by omega) hr' hl')
    have I0 : TI L (W.heap.size + 1) W.heap.size deep ((W.alloc (.cells #[.int .i64 deep] 3)).alloc (.cells #[ptr L] 68)) :=
      ⟨(hl.alloc _).alloc _, by simpa using Bl.new (W.alloc (.cells #[.int .i64 deep] 3)) 68 [ptr L], (Bl.new W 3 [.int .i64 deep]).alloc _, by have := hl.lt; omega, by have := hl.lt; omega⟩
    have O0 : Og L W ((W.alloc (.cells #[.int .i64 deep] 3)).alloc (.cells #[ptr L] 68)) := ((Og.refl L W).alloc _).alloc _
    have HC := Lib.hid (contains_ty (W.heap.size + 1) W.heap.size L (fun W' => Og L W W' ∧ TI L (W.heap.size + 1) W.heap.size deep W') a n c _ hr.1 ⟨O0, I0⟩ (fun W' i hR hi => by
      obtain ⟨b, o, kd, sy, nu, nm, a', n', c', hA, hnm, hr'⟩ := (TyRow.og hR.1 HR.out).2 i hi
      refine ⟨b, o, kd, sy, nu, nm, a', n', c', hA, (clos_ty L _ _ deep hdeep h1 kd sy nu nm a' n' c' W' hR.2 hnm (fun W2 hg hl2 => HI.out a' n' c' W2 (TyRow.og hg hr') hl2)).mono ?_⟩
      rintro e W2 ⟨he, hg, hI⟩
      exact ⟨he, hR.1.trans hg, hI⟩))
    have q0 := I0.bq.cell 0
    have HO := Lib.hid O0
    clear hd hr hl I0 O0 HI
    go_enter Tryz.func36, Tryz.ntmps36
    go_wp2_with fail
    refine HC.out.mono ?_
    rintro e W1 ⟨⟨r, rfl⟩, hg, hI⟩
    have HG := Lib.hid hg
    have HT := Lib.hid hI
    clear hg hI HC
    cases r
    · go_wp2_with fail
      go_ret
      exact ⟨⟨_, rfl⟩, HG.out, HT.out.lb⟩
    · go_wp2_with fail
      go_ret
      exact ⟨⟨_, rfl⟩, HG.out, HT.out.lb⟩
end Go.Proofs.YtkjjieloncdjhaaGreatDoor
