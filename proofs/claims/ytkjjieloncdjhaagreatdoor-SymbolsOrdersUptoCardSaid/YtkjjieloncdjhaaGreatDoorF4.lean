/- Locals: whether a list of locals is small. -/
import Derived.Test.YtkjjieloncdjhaaGreatDoorF3
namespace Go.Proofs.YtkjjieloncdjhaaGreatDoor
open Go Go.RowKit

/-- The element i of a list of locals at this place. -/
structure LoAt (w : World) (L : Nat) (a : Option Addr) (i : Nat) (b o : Nat) (fl kd sy nu : Int) (nm tn : ByteArray) (a' : Option Addr) (n' c' : Nat) : Prop where
  ad : a = some ⟨b, o, none⟩
  ne : b ≠ L
  lt : b < w.heap.size
  k0 : w.cell? ⟨b, o + i * 7, none⟩ = some (.string nm)
  k1 : w.cell? ⟨b, o + i * 7 + 1, none⟩ = some (.int .i64 fl)
  k2 : w.cell? ⟨b, o + i * 7 + 2, none⟩ = some (.int .i64 kd)
  k3 : w.cell? ⟨b, o + i * 7 + 3, none⟩ = some (.int .i64 sy)
  k4 : w.cell? ⟨b, o + i * 7 + 4, none⟩ = some (.string tn)
  k5 : w.cell? ⟨b, o + i * 7 + 5, none⟩ = some (.int .i64 nu)
  k6 : w.cell? ⟨b, o + i * 7 + 6, none⟩ = some (.slice a' n' c')

def LoRow (L : Nat) (w : World) (a : Option Addr) (n : Nat) : Prop := n ≤ 9223372036854775807 ∧ ∀ i, i < n → ∃ (b o : Nat) (fl kd sy nu : Int) (nm tn : ByteArray) (a' : Option Addr) (n' c' : Nat),
      LoAt w L a i b o fl kd sy nu nm tn a' n' c' ∧ nm.size ≤ 9223372036854775807 ∧ tn.size ≤ 9223372036854775807 ∧ TyRow 69 L w a' n'

theorem LoAt.og {w w' : World} {L : Nat} {a : Option Addr} {i b o : Nat} {fl kd sy nu : Int} {nm tn : ByteArray} {a' : Option Addr} {n' c' : Nat} (h : LoAt w L a i b o fl kd sy nu nm tn a' n' c') (hg : Og L w w') : LoAt w' L a i b o fl kd sy nu nm tn a' n' c' :=
  ⟨h.ad, h.ne, Nat.lt_of_lt_of_le h.lt hg.size, (hg.cell h.lt h.ne).trans h.k0, (hg.cell h.lt h.ne).trans h.k1, (hg.cell h.lt h.ne).trans h.k2, (hg.cell h.lt h.ne).trans h.k3, (hg.cell h.lt h.ne).trans h.k4, (hg.cell h.lt h.ne).trans h.k5, (hg.cell h.lt h.ne).trans h.k6⟩

theorem LoRow.og {L : Nat} {w w' : World} (hg : Og L w w') {a : Option Addr} {n : Nat} (h : LoRow L w a n) : LoRow L w' a n := ⟨h.1, fun i hi => by
  obtain ⟨b, o, fl, kd, sy, nu, nm, tn, a', n', c', h1, h2, h3, h4⟩ := h.2 i hi
  exact ⟨b, o, fl, kd, sy, nu, nm, tn, a', n', c', h1.og hg, h2, h3, TyRow.og hg h4⟩⟩

abbrev loV (fl kd sy nu : Int) (nm tn : ByteArray) (a : Option Addr) (n c : Nat) : Value := .agg #[.string nm, .int .i64 fl, .int .i64 kd, .int .i64 sy, .string tn, .int .i64 nu, .slice a n c]

/-- One type in a new block is a list of types. -/
theorem TyRow.one {d L : Nat} {w : World} {kd sy nu : Int} {tn : ByteArray} {a : Option Addr} {n c : Nat} (hl : LB L w) (ht : tn.size ≤ 9223372036854775807) (hr : TyRow d L w a n) :
    TyRow (d + 1) L (w.alloc (.cells #[.int .i64 kd, .int .i64 sy, .string tn, .int .i64 nu, .slice a n c] 59)) (some ⟨w.heap.size, 0, none⟩) 1 := by
  refine ⟨by omega, fun i hi => ?_⟩
  obtain rfl : i = 0 := by omega
  have hb := Bl.new w 59 [.int .i64 kd, .int .i64 sy, .string tn, .int .i64 nu, .slice a n c]
  refine ⟨w.heap.size, 0, kd, sy, nu, tn, a, n, c, ⟨rfl, by have := hl.lt; omega, by simp, hb.cell 0, hb.cell 1, hb.cell 2, hb.cell 3, hb.cell 4⟩, ht, TyRow.og ((Og.refl L w).alloc _) hr⟩

theorem types_one {L s : Nat} {w : World} {kd sy nu : Int} {tn : ByteArray} {a : Option Addr} {n c : Nat} (hs : w.heap.size = s) (hl : LB L w) (ht : tn.size ≤ 9223372036854775807) (hr : TyRow 69 L w a n) :
    Calls Tryz.prog 36 #[.slice (some ⟨s, 0, none⟩) 1 1, .int .i64 1, ptr L] (w.alloc (.cells #[.int .i64 kd, .int .i64 sy, .string tn, .int .i64 nu, .slice a n c] 59)) (TyPost L (w.alloc (.cells #[.int .i64 kd, .int .i64 sy, .string tn, .int .i64 nu, .slice a n c] 59))) := by
  subst hs
  have h := TyRow.one (kd := kd) (sy := sy) (nu := nu) (c := c) hl ht hr
  generalize hd : 69 + 1 = d at h
  exact types_any d 1 L _ 1 1 _ (by omega) (by omega) h (hl.alloc _)

/-- What the closure of Locals holds. -/
structure LI (L p : Nat) (W : World) : Prop where
  lb : LB L W
  bp : Bl W p 68 [ptr L]
  np : p ≠ L
theorem LI.og {L p : Nat} {W W' : World} (h : LI L p W) (hg : Og L W W') (hl : LB L W') : LI L p W' :=
  ⟨hl, h.bp.grown hg (by intro e; injection e with e; exact h.np e), h.np⟩

set_option maxRecDepth 100000 in
set_option maxHeartbeats 4000000 in
theorem clos_lo (L p : Nat) (fl kd sy nu : Int) (nm tn : ByteArray) (a : Option Addr) (n c : Nat) (W : World) (hI : LI L p W) (hnm : nm.size ≤ 9223372036854775807) (htn : tn.size ≤ 9223372036854775807) (hr : TyRow 69 L W a n) :
    Calls Tryz.prog 73 #[loV fl kd sy nu nm tn a n c, ptr p] W fun e W' => BoolEnd e ∧ Og L W W' ∧ LI L p W' := by
  have HI := Lib.hid hI
  have HR := Lib.hid hr
  have HN := Lib.hid htn
  have cp := hI.bp.cell 0
  have lp := hI.bp.lt
  have np := hI.np
  clear hI hr htn
  have O1 := Lib.hid ((Og.refl L W).alloc (.cells #[.string nm, .int .i64 fl, .int .i64 kd, .int .i64 sy, .string tn, .int .i64 nu, .slice a n c] 129))
  have I1 := Lib.hid (HI.out.og O1.out (LB.alloc HI.out.lb _))
  have HT := Lib.hid (types_one (s := W.heap.size + 1) (by simp) (kd := kd) (sy := sy) (nu := nu) (tn := tn) (c := c) I1.out.lb HN.out (TyRow.og O1.out HR.out))
  by_cases hnb : 100 < nm.size
  · have q : (100 : Int) < (nm.size : Int) := by omega
    go_enter Tryz.func73, Tryz.ntmps73
    go_wp2_with fail
    go_ret
    exact ⟨⟨_, rfl⟩, O1.out, I1.out⟩
  · have q : ¬ (100 : Int) < (nm.size : Int) := by omega
    go_enter Tryz.func73, Tryz.ntmps73
    go_wp2_with fail
    refine HT.out.mono ?_
    rintro e w1 ⟨⟨r, rfl⟩, hg, hl⟩
    have G3 := Lib.hid ((O1.out.alloc (.cells #[.int .i64 kd, .int .i64 sy, .string tn, .int .i64 nu, .slice a n c] 59)).trans hg)
    have I3 := Lib.hid ((I1.out.og ((Og.refl L _).alloc (.cells #[.int .i64 kd, .int .i64 sy, .string tn, .int .i64 nu, .slice a n c] 59)) (LB.alloc I1.out.lb _)).og hg hl)
    clear hg hl
    cases r
    · go_wp2_with fail
      go_ret
      exact ⟨⟨_, rfl⟩, G3.out, I3.out⟩
    · go_wp2_with fail
      go_ret
      exact ⟨⟨_, rfl⟩, G3.out, I3.out⟩

set_option maxHeartbeats 1000000 in
theorem idx_lo (p L : Nat) (R : World → Prop) (a : Option Addr) (n c : Nat) (w : World) (hn : n ≤ 9223372036854775807) (h0 : R w)
    (hs : ∀ W i, R W → i < n → ∃ (b o : Nat) (fl kd sy nu : Int) (nm tn : ByteArray) (a' : Option Addr) (n' c' : Nat), LoAt W L a i b o fl kd sy nu nm tn a' n' c' ∧
      Calls Tryz.prog 73 #[loV fl kd sy nu nm tn a' n' c', ptr p] W fun e W' => BoolEnd e ∧ R W') :
    Calls Tryz.prog 112 #[.slice a n c, .func (.func 73) #[] #[ptr p]] w fun e W' => (∃ z : Int, e = .returned (.int .i64 z)) ∧ R W' := by
  have HS := Lib.hid hs
  have H0 := Lib.hid h0
  clear hs h0
  go_enter Tryz.func112, Tryz.ntmps112
  go_wp2_with fail
  go_loopw [8] (fun i wr => ∃ k : Nat, k ≤ n ∧ i = .int .i64 k ∧ R wr) (fun i _ => n - (intOf i).toNat)
  case atStart => exact ⟨0, by omega, rfl, H0.out⟩
  case round =>
    obtain ⟨k, hk, rfl, hR⟩ := hrel
    by_cases hlt : k < n
    · obtain ⟨b, o, fl, kd, sy, nu, nm, tn, a', n', c', ⟨rfl, ne, lt, k0, k1, k2, k3, k4, k5, k6⟩, hC⟩ := HS.out wr k hR hlt
      have HC := Lib.hid hC
      clear hC hR
      go_wp2_with fail
      refine HC.out.mono ?_
      rintro e w1 ⟨⟨r, rfl⟩, hR⟩
      cases r
      · go_wp2_with fail
        go_roundw
        case rel => exact ⟨k + 1, by omega, by go_num, hR⟩
        case measure => simp [intOf]; omega
      · go_wp2_with fail
        go_ret
        exact ⟨⟨_, rfl⟩, hR⟩
    · have hkn : k = n := by omega
      subst hkn
      have HR := Lib.hid hR
      clear hR
      go_wp2_with fail
      go_ret
      exact ⟨⟨_, rfl⟩, HR.out⟩

set_option maxHeartbeats 1000000 in
theorem contains_lo (p L : Nat) (R : World → Prop) (a : Option Addr) (n c : Nat) (w : World) (hn : n ≤ 9223372036854775807) (h0 : R w)
    (hs : ∀ W i, R W → i < n → ∃ (b o : Nat) (fl kd sy nu : Int) (nm tn : ByteArray) (a' : Option Addr) (n' c' : Nat), LoAt W L a i b o fl kd sy nu nm tn a' n' c' ∧
      Calls Tryz.prog 73 #[loV fl kd sy nu nm tn a' n' c', ptr p] W fun e W' => BoolEnd e ∧ R W') :
    Calls Tryz.prog 72 #[.slice a n c, .func (.func 73) #[] #[ptr p]] w fun e W' => BoolEnd e ∧ R W' := by
  have HX := Lib.hid (idx_lo p L R a n c w hn h0 hs)
  clear hs h0
  go_enter Tryz.func72, Tryz.ntmps72
  go_wp2_with fail
  refine HX.out.mono ?_
  rintro e w1 ⟨⟨z, rfl⟩, hR⟩
  have HR := Lib.hid hR
  clear hR HX
  go_wp2_with fail
  go_ret
  exact ⟨⟨_, rfl⟩, HR.out⟩

set_option maxHeartbeats 4000000 in
theorem locals_any (L : Nat) (a : Option Addr) (n c : Nat) (W : World) (hr : LoRow L W a n) (hl : LB L W) :
    Calls Tryz.prog 38 #[.slice a n c, ptr L] W (TyPost L W) := by
  have HL := Lib.hid hl
  have HR := Lib.hid hr
  have hn := hr.1
  have I0 : LI L W.heap.size (W.alloc (.cells #[ptr L] 68)) := ⟨hl.alloc _, Bl.new W 68 [ptr L], by have := hl.lt; omega⟩
  have O0 : Og L W (W.alloc (.cells #[ptr L] 68)) := (Og.refl L W).alloc _
  have HC := Lib.hid (contains_lo W.heap.size L (fun W' => Og L W W' ∧ LI L W.heap.size W') a n c _ hr.1 ⟨O0, I0⟩ (fun W' i hR hi => by
    obtain ⟨b, o, fl, kd, sy, nu, nm, tn, a', n', c', hA, hnm, htn, hr'⟩ := (LoRow.og hR.1 HR.out).2 i hi
    refine ⟨b, o, fl, kd, sy, nu, nm, tn, a', n', c', hA, (clos_lo L _ fl kd sy nu nm tn a' n' c' W' hR.2 hnm htn hr').mono ?_⟩
    rintro e W2 ⟨he, hg, hI⟩
    exact ⟨he, hR.1.trans hg, hI⟩))
  have HO := Lib.hid (And.intro O0 I0)
  clear hr hl I0 O0
  by_cases hbig : n ≤ 220
  · have q : (n : Int) ≤ 220 := by omega
    go_enter Tryz.func38, Tryz.ntmps38
    go_wp2_with fail
    refine HC.out.mono ?_
    rintro e W1 ⟨⟨r, rfl⟩, hg, hI⟩
    have HG := Lib.hid hg
    have HT := Lib.hid hI
    clear hg hI HC
    cases r
    · go_wp2_with fail
      go_ret
      exact ⟨⟨_, rfl⟩, HG.out, HT.out.lb⟩
    · go_wp2_with fail
      go_ret
      exact ⟨⟨_, rfl⟩, HG.out, HT.out.lb⟩
  · have q : ¬ (n : Int) ≤ 220 := by omega
    go_enter Tryz.func38, Tryz.ntmps38
    go_wp2_with fail
    go_ret
    exact ⟨⟨_, rfl⟩, HO.out.1, HO.out.2.lb⟩
end Go.Proofs.YtkjjieloncdjhaaGreatDoor
