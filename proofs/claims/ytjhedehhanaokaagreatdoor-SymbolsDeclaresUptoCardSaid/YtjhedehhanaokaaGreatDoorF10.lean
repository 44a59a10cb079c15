/- Type members: whether their types are small. -/
import Derived.Test.YtjhedehhanaokaaGreatDoorF9
namespace Go.Proofs.YtjhedehhanaokaaGreatDoor
open Go Go.RowKit

/-- A type's own cells. -/
structure T5 where
  k : Int
  s : Int
  n : ByteArray
  u : Int
  a : Option Addr
  l : Nat
  c : Nat
abbrev T5.cells (t : T5) : List Value := [.int .i64 t.k, .int .i64 t.s, .string t.n, .int .i64 t.u, .slice t.a t.l t.c]
structure T5.Ok (t : T5) (L : Nat) (w : World) : Prop where
  n : t.n.size ≤ 9223372036854775807
  r : TyRow 69 L w t.a t.l
theorem T5.Ok.og {t : T5} {L : Nat} {w w' : World} (h : t.Ok L w) (hg : Og L w w') : t.Ok L w' := ⟨h.n, TyRow.og hg h.r⟩

/-- Two types in a new block are a list of types. -/
theorem types_two {L s : Nat} {w : World} {t u : T5} (hs : w.heap.size = s) (hl : LB L w) (ht : t.Ok L w) (hu : u.Ok L w) :
    Calls Tryz.prog 36 #[.slice (some ⟨s, 0, none⟩) 2 2, .int .i64 1, ptr L] (w.alloc (.cells #[.int .i64 t.k, .int .i64 t.s, .string t.n, .int .i64 t.u, .slice t.a t.l t.c, .int .i64 u.k, .int .i64 u.s, .string u.n, .int .i64 u.u, .slice u.a u.l u.c] 59)) (TyPost L (w.alloc (.cells #[.int .i64 t.k, .int .i64 t.s, .string t.n, .int .i64 t.u, .slice t.a t.l t.c, .int .i64 u.k, .int .i64 u.s, .string u.n, .int .i64 u.u, .slice u.a u.l u.c] 59))) := by
  subst hs
  have hb := Bl.new w 59 [.int .i64 t.k, .int .i64 t.s, .string t.n, .int .i64 t.u, .slice t.a t.l t.c, .int .i64 u.k, .int .i64 u.s, .string u.n, .int .i64 u.u, .slice u.a u.l u.c]
  have hog : Og L w (w.alloc (.cells #[.int .i64 t.k, .int .i64 t.s, .string t.n, .int .i64 t.u, .slice t.a t.l t.c, .int .i64 u.k, .int .i64 u.s, .string u.n, .int .i64 u.u, .slice u.a u.l u.c] 59)) := (Og.refl L w).alloc _
  have hne : w.heap.size ≠ L := by have := hl.lt; omega
  have h : TyRow (69 + 1) L (w.alloc (.cells #[.int .i64 t.k, .int .i64 t.s, .string t.n, .int .i64 t.u, .slice t.a t.l t.c, .int .i64 u.k, .int .i64 u.s, .string u.n, .int .i64 u.u, .slice u.a u.l u.c] 59)) (some ⟨w.heap.size, 0, none⟩) 2 := by
    refine ⟨by omega, fun i hi => ?_⟩
    match i, hi with
    | 0, _ => exact ⟨w.heap.size, 0, t.k, t.s, t.u, t.n, t.a, t.l, t.c, ⟨rfl, hne, by simp, hb.cell 0, hb.cell 1, hb.cell 2, hb.cell 3, hb.cell 4⟩, ht.n, TyRow.og hog ht.r⟩
    | 1, _ => exact ⟨w.heap.size, 0, u.k, u.s, u.u, u.n, u.a, u.l, u.c, ⟨rfl, hne, by simp, hb.cell 5, hb.cell 6, hb.cell 7, hb.cell 8, hb.cell 9⟩, hu.n, TyRow.og hog hu.r⟩
  generalize hd : 69 + 1 = d at h
  exact types_any d 1 L _ 2 2 _ (by omega) (by omega) h (hl.alloc _)

theorem types_one5 {L s : Nat} {w : World} {t : T5} (hs : w.heap.size = s) (hl : LB L w) (ht : t.Ok L w) :
    Calls Tryz.prog 36 #[.slice (some ⟨s, 0, none⟩) 1 1, .int .i64 1, ptr L] (w.alloc (.cells #[.int .i64 t.k, .int .i64 t.s, .string t.n, .int .i64 t.u, .slice t.a t.l t.c] 59)) (TyPost L (w.alloc (.cells #[.int .i64 t.k, .int .i64 t.s, .string t.n, .int .i64 t.u, .slice t.a t.l t.c] 59))) :=
  types_one hs hl ht.n ht.r

theorem types_70 {L n c : Nat} {a : Option Addr} {w : World} (h : TyRow (69 + 1) L w a n) (hl : LB L w) : Calls Tryz.prog 36 #[.slice a n c, .int .i64 1, ptr L] w (TyPost L w) := by
  generalize hd : 69 + 1 = d at h
  exact types_any d 1 L a n c _ (by omega) (by omega) h hl

/-- The element i of a list of type members at this place. -/
structure TmAt (w : World) (L : Nat) (a : Option Addr) (i : Nat) (b o : Nat) (nm : ByteArray) (ow ar : Int) (t u : T5) : Prop where
  ad : a = some ⟨b, o, none⟩
  ne : b ≠ L
  lt : b < w.heap.size
  k0 : w.cell? ⟨b, o + i * 13, none⟩ = some (.string nm)
  k1 : w.cell? ⟨b, o + i * 13 + 1, none⟩ = some (.int .i64 ow)
  k2 : w.cell? ⟨b, o + i * 13 + 2, none⟩ = some (.int .i64 ar)
  k3 : w.cell? ⟨b, o + i * 13 + 3, none⟩ = some (.int .i64 t.k)
  k4 : w.cell? ⟨b, o + i * 13 + 4, none⟩ = some (.int .i64 t.s)
  k5 : w.cell? ⟨b, o + i * 13 + 5, none⟩ = some (.string t.n)
  k6 : w.cell? ⟨b, o + i * 13 + 6, none⟩ = some (.int .i64 t.u)
  k7 : w.cell? ⟨b, o + i * 13 + 7, none⟩ = some (.slice t.a t.l t.c)
  k8 : w.cell? ⟨b, o + i * 13 + 8, none⟩ = some (.int .i64 u.k)
  k9 : w.cell? ⟨b, o + i * 13 + 9, none⟩ = some (.int .i64 u.s)
  k10 : w.cell? ⟨b, o + i * 13 + 10, none⟩ = some (.string u.n)
  k11 : w.cell? ⟨b, o + i * 13 + 11, none⟩ = some (.int .i64 u.u)
  k12 : w.cell? ⟨b, o + i * 13 + 12, none⟩ = some (.slice u.a u.l u.c)
theorem TmAt.og {w w' : World} {L : Nat} {a : Option Addr} {i b o : Nat} {nm : ByteArray} {ow ar : Int} {t u : T5} (h : TmAt w L a i b o nm ow ar t u) (hg : Og L w w') : TmAt w' L a i b o nm ow ar t u :=
  ⟨h.ad, h.ne, Nat.lt_of_lt_of_le h.lt hg.size, (hg.cell h.lt h.ne).trans h.k0, (hg.cell h.lt h.ne).trans h.k1, (hg.cell h.lt h.ne).trans h.k2, (hg.cell h.lt h.ne).trans h.k3, (hg.cell h.lt h.ne).trans h.k4, (hg.cell h.lt h.ne).trans h.k5,
    (hg.cell h.lt h.ne).trans h.k6, (hg.cell h.lt h.ne).trans h.k7, (hg.cell h.lt h.ne).trans h.k8, (hg.cell h.lt h.ne).trans h.k9, (hg.cell h.lt h.ne).trans h.k10, (hg.cell h.lt h.ne).trans h.k11, (hg.cell h.lt h.ne).trans h.k12⟩
def TmRow (L : Nat) (w : World) (a : Option Addr) (n : Nat) : Prop := n ≤ 9223372036854775807 ∧ ∀ i, i < n → ∃ (b o : Nat) (nm : ByteArray) (ow ar : Int) (t u : T5),
      TmAt w L a i b o nm ow ar t u ∧ nm.size ≤ 9223372036854775807 ∧ t.Ok L w ∧ u.Ok L w
theorem TmRow.og {L : Nat} {w w' : World} (hg : Og L w w') {a : Option Addr} {n : Nat} (h : TmRow L w a n) : TmRow L w' a n := ⟨h.1, fun i hi => by
  obtain ⟨b, o, nm, ow, ar, t, u, h1, h2, h3, h4⟩ := h.2 i hi
  exact ⟨b, o, nm, ow, ar, t, u, h1.og hg, h2, h3.og hg, h4.og hg⟩⟩

abbrev tmV (nm : ByteArray) (ow ar : Int) (t u : T5) : Value := .agg #[.string nm, .int .i64 ow, .int .i64 ar, .int .i64 t.k, .int .i64 t.s, .string t.n, .int .i64 t.u, .slice t.a t.l t.c, .int .i64 u.k, .int .i64 u.s, .string u.n, .int .i64 u.u, .slice u.a u.l u.c]

set_option maxRecDepth 100000 in
set_option maxHeartbeats 4000000 in
theorem clos_tm (L : Nat) (nm : ByteArray) (ow ar : Int) (t u : T5) (W : World) (hl : LB L W) (hnm : nm.size ≤ 9223372036854775807) (ht : t.Ok L W) (hu : u.Ok L W) :
    Calls Tryz.prog 40 #[tmV nm ow ar t u, ptr L] W (TyPost L W) := by
  have HL := Lib.hid hl
  have O1 := Lib.hid ((Og.refl L W).alloc (.cells #[.string nm, .int .i64 ow, .int .i64 ar, .int .i64 t.k, .int .i64 t.s, .string t.n, .int .i64 t.u, .slice t.a t.l t.c, .int .i64 u.k, .int .i64 u.s, .string u.n, .int .i64 u.u, .slice u.a u.l u.c] 79))
  have L1 := Lib.hid (LB.alloc HL.out (.cells #[.string nm, .int .i64 ow, .int .i64 ar, .int .i64 t.k, .int .i64 t.s, .string t.n, .int .i64 t.u, .slice t.a t.l t.c, .int .i64 u.k, .int .i64 u.s, .string u.n, .int .i64 u.u, .slice u.a u.l u.c] 79))
  have HT := Lib.hid (types_two (s := W.heap.size + 1) (by simp) L1.out (ht.og O1.out) (hu.og O1.out))
  clear hl ht hu
  by_cases hnb : 100 < nm.size
  · have q : (100 : Int) < (nm.size : Int) := by omega
    go_enter Tryz.func40, Tryz.ntmps40
    go_wp2_with fail
    go_ret
    exact ⟨⟨_, rfl⟩, O1.out, L1.out⟩
  · have q : ¬ (100 : Int) < (nm.size : Int) := by omega
    go_enter Tryz.func40, Tryz.ntmps40
    go_wp2_with fail
    refine HT.out.mono ?_
    rintro e w1 ⟨⟨r, rfl⟩, hg, hl⟩
    have G3 := Lib.hid ((O1.out.alloc (.cells #[.int .i64 t.k, .int .i64 t.s, .string t.n, .int .i64 t.u, .slice t.a t.l t.c, .int .i64 u.k, .int .i64 u.s, .string u.n, .int .i64 u.u, .slice u.a u.l u.c] 59)).trans hg)
    have L3 := Lib.hid hl
    clear hg hl
    cases r
    · go_wp2_with fail
      go_ret
      exact ⟨⟨_, rfl⟩, G3.out, L3.out⟩
    · go_wp2_with fail
      go_ret
      exact ⟨⟨_, rfl⟩, G3.out, L3.out⟩

set_option maxHeartbeats 1000000 in
theorem idx_tm (L : Nat) (a : Option Addr) (n c : Nat) (w : World) (h0 : TmRow L w a n) (hl : LB L w) :
    Calls Tryz.prog 74 #[.slice a n c, .func (.func 40) #[] #[ptr L]] w fun e W' => (∃ z : Int, e = .returned (.int .i64 z)) ∧ Og L w W' ∧ LB L W' := by
  have H0 := Lib.hid h0
  have HL := Lib.hid hl
  have hn := h0.1
  clear h0 hl
  go_enter Tryz.func74, Tryz.ntmps74
  go_wp2_with fail
  go_loopw [8] (fun i wr => ∃ k : Nat, k ≤ n ∧ i = .int .i64 k ∧ Og L w wr ∧ LB L wr) (fun i _ => n - (intOf i).toNat)
  case atStart => exact ⟨0, by omega, rfl, Og.refl L w, HL.out⟩
  case round =>
    obtain ⟨k, hk, rfl, hg, hL⟩ := hrel
    have HG := Lib.hid hg
    have HR := Lib.hid hL
    clear hg hL
    by_cases hlt : k < n
    · obtain ⟨b, o, nm, ow, ar, t, u, ⟨rfl, ne, lt, k0, k1, k2, k3, k4, k5, k6, k7, k8, k9, k10, k11, k12⟩, hnm, ht, hu⟩ := (TmRow.og HG.out H0.out).2 k hlt
      have HC := Lib.hid (clos_tm L nm ow ar t u wr HR.out hnm ht hu)
      clear ht hu
      go_wp2_with fail
      refine HC.out.mono ?_
      rintro e w1 ⟨⟨r, rfl⟩, hg, hL⟩
      have HG1 := Lib.hid (HG.out.trans hg)
      have HR1 := Lib.hid hL
      clear hg hL
      cases r
      · go_wp2_with fail
        go_roundw
        case rel => exact ⟨k + 1, by omega, by go_num, HG1.out, HR1.out⟩
        case measure => simp [intOf]; omega
      · go_wp2_with fail
        go_ret
        exact ⟨⟨_, rfl⟩, HG1.out, HR1.out⟩
    · have hkn : k = n := by omega
      subst hkn
      go_wp2_with fail
      go_ret
      exact ⟨⟨_, rfl⟩, HG.out, HR.out⟩

set_option maxHeartbeats 1000000 in
theorem contains_tm (L : Nat) (a : Option Addr) (n c : Nat) (w : World) (h0 : TmRow L w a n) (hl : LB L w) :
    Calls Tryz.prog 39 #[.slice a n c, .func (.func 40) #[] #[ptr L]] w (TyPost L w) := by
  have HX := Lib.hid (idx_tm L a n c w h0 hl)
  clear h0 hl
  go_enter Tryz.func39, Tryz.ntmps39
  go_wp2_with fail
  refine HX.out.mono ?_
  rintro e w1 ⟨⟨z, rfl⟩, hR⟩
  have HR := Lib.hid hR
  clear hR HX
  go_wp2_with fail
  go_ret
  exact ⟨⟨_, rfl⟩, HR.out⟩
end Go.Proofs.YtjhedehhanaokaaGreatDoor
