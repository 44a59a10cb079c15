/- Trees: its contract. -/
import Derived.Test.YtkjjieloncdjhaaGreatDoorF6
namespace Go.Proofs.YtkjjieloncdjhaaGreatDoor
open Go Go.RowKit

set_option maxHeartbeats 4000000 in
theorem trees_any : ∀ (d : Nat) (deep : Int) (L : Nat) (a : Option Addr) (n c : Nat) (W : World), deep + d = 201 → 1 ≤ deep → TrRow 69 d L W a n → LB L W →
    Calls Tryz.prog 37 #[.slice a n c, .int .i64 deep, ptr L] W (TyPost L W)
  | 0, deep, L, a, n, c, W, hd, h1, hr, hl => by
    obtain rfl : deep = 201 := by omega
    have HL := Lib.hid hl
    clear hd h1 hr hl
    go_enter Tryz.func37, Tryz.ntmps37
    go_wp2_with fail
    go_ret
    exact ⟨⟨_, rfl⟩, ((Og.refl L W).alloc _).alloc _, (HL.out.alloc _).alloc _⟩
  | d + 1, deep, L, a, n, c, W, hd, h1, hr, hl => by
    have hdeep : deep ≤ 200 := by omega
    have HL := Lib.hid hl
    have HR := Lib.hid hr
    have HI := Lib.hid (fun (a' : Option Addr) (n' c' : Nat) (W' : World) (hr' : TrRow 69 d L W' a' n') (hl' : LB L W') => trees_any d (deep + 1) L a' n' c' W' (by omega) (by omega) hr' hl')
    have I0 : TI L (W.heap.size + 1) W.heap.size deep ((W.alloc (.cells #[.int .i64 deep] 3)).alloc (.cells #[ptr L] 68)) :=
      ⟨(hl.alloc _).alloc _, by simpa using Bl.new (W.alloc (.cells #[.int .i64 deep] 3)) 68 [ptr L], (Bl.new W 3 [.int .i64 deep]).alloc _, by have := hl.lt; omega, by have := hl.lt; omega⟩
    have O0 : Og L W ((W.alloc (.cells #[.int .i64 deep] 3)).alloc (.cells #[ptr L] 68)) := ((Og.refl L W).alloc _).alloc _
    have HC := Lib.hid (contains_tr (W.heap.size + 1) W.heap.size L (fun W' => Og L W W' ∧ TI L (W.heap.size + 1) W.heap.size deep W') a n c _ hr.1 ⟨O0, I0⟩ (fun W' i hR hi => by
      obtain ⟨b, o, x, hA, hok, hr'⟩ := (TrRow.og hR.1 HR.out).2 i hi
      refine ⟨b, o, x, hA, (clos_tr L _ _ deep hdeep h1 x W' hR.2 hok (fun W2 hg hl2 => HI.out x.ka x.kl x.kc W2 (TrRow.og hg hr') hl2)).mono ?_⟩
      rintro e W2 ⟨he, hg, hI⟩
      exact ⟨he, hR.1.trans hg, hI⟩))
    have q0 := I0.bq.cell 0
    have HO := Lib.hid O0
    clear hd hr hl I0 O0 HI
    go_enter Tryz.func37, Tryz.ntmps37
    go_wp2_with fail
    refine HC.out.mono ?_
    rintro e W1 ⟨⟨r, rfl⟩, hg, hI⟩
    have HG := Lib.hid hg
    have HT := Lib.hid hI
    clear hg hI HC
    cases r
    · go_wp2_with fail
      go_ret
      exact ⟨⟨_, rfl⟩, HG.out, HT.out.lb⟩
    · go_wp2_with fail
      go_ret
      exact ⟨⟨_, rfl⟩, HG.out, HT.out.lb⟩
end Go.Proofs.YtkjjieloncdjhaaGreatDoor
namespace Go.Proofs.YtkjjieloncdjhaaGreatDoor
open Go Go.RowKit

/-- A type's own cells. -/
structure T5 where
  k : Int
  s : Int
  n : ByteArray
  u : Int
  a : Option Addr
  l : Nat
  c : Nat
abbrev T5.cells (t : T5) : List Value := [.int .i64 t.k, .int .i64 t.s, .string t.n, .int .i64 t.u, .slice t.a t.l t.c]
structure T5.Ok (t : T5) (L : Nat) (w : World) : Prop where
  n : t.n.size ≤ 9223372036854775807
  r : TyRow 69 L w t.a t.l
theorem T5.Ok.og {t : T5} {L : Nat} {w w' : World} (h : t.Ok L w) (hg : Og L w w') : t.Ok L w' := ⟨h.n, TyRow.og hg h.r⟩

/-- Two types in a new block are a list of types. -/
theorem types_two {L s : Nat} {w : World} {t u : T5} (hs : w.heap.size = s) (hl : LB L w) (ht : t.Ok L w) (hu : u.Ok L w) :
    Calls Tryz.prog 36 #[.slice (some ⟨s, 0, none⟩) 2 2, .int .i64 1, ptr L] (w.alloc (.cells #[.int .i64 t.k, .int .i64 t.s, .string t.n, .int .i64 t.u, .slice t.a t.l t.c, .int .i64 u.k, .int .i64 u.s, .string u.n, .int .i64 u.u, .slice u.a u.l u.c] 59)) (TyPost L (w.alloc (.cells #[.int .i64 t.k, .int .i64 t.s, .string t.n, .int .i64 t.u, .slice t.a t.l t.c, .int .i64 u.k, .int .i64 u.s, .string u.n, .int .i64 u.u, .slice u.a u.l u.c] 59))) := by
  subst hs
  have hb := Bl.new w 59 [.int .i64 t.k, .int .i64 t.s, .string t.n, .int .i64 t.u, .slice t.a t.l t.c, .int .i64 u.k, .int .i64 u.s, .string u.n, .int .i64 u.u, .slice u.a u.l u.c]
  have hog : Og L w (w.alloc (.cells #[.int .i64 t.k, .int .i64 t.s, .string t.n, .int .i64 t.u, .slice t.a t.l t.c, .int .i64 u.k, .int .i64 u.s, .string u.n, .int .i64 u.u, .slice u.a u.l u.c] 59)) := (Og.refl L w).alloc _
  have hne : w.heap.size ≠ L := by have := hl.lt; omega
  have h : TyRow (69 + 1) L (w.alloc (.cells #[.int .i64 t.k, .int .i64 t.s, .string t.n, .int .i64 t.u, .slice t.a t.l t.c, .int .i64 u.k, .int .i64 u.s, .string u.n, .int .i64 u.u, .slice u.a u.l u.c] 59)) (some ⟨w.heap.size, 0, none⟩) 2 := by
    refine ⟨by omega, fun i hi => ?_⟩
    match i, hi with
    | 0, _ => exact ⟨w.heap.size, 0, t.k, t.s, t.u, t.n, t.a, t.l, t.c, ⟨rfl, hne, by simp, hb.cell 0, hb.cell 1, hb.cell 2, hb.cell 3, hb.cell 4⟩, ht.n, TyRow.og hog ht.r⟩
    | 1, _ => exact ⟨w.heap.size, 0, u.k, u.s, u.u, u.n, u.a, u.l, u.c, ⟨rfl, hne, by simp, hb.cell 5, hb.cell 6, hb.cell 7, hb.cell 8, hb.cell 9⟩, hu.n, TyRow.og hog hu.r⟩
  generalize hd : 69 + 1 = d at h
  exact types_any d 1 L _ 2 2 _ (by omega) (by omega) h (hl.alloc _)

theorem types_one5 {L s : Nat} {w : World} {t : T5} (hs : w.heap.size = s) (hl : LB L w) (ht : t.Ok L w) :
    Calls Tryz.prog 36 #[.slice (some ⟨s, 0, none⟩) 1 1, .int .i64 1, ptr L] (w.alloc (.cells #[.int .i64 t.k, .int .i64 t.s, .string t.n, .int .i64 t.u, .slice t.a t.l t.c] 59)) (TyPost L (w.alloc (.cells #[.int .i64 t.k, .int .i64 t.s, .string t.n, .int .i64 t.u, .slice t.a t.l t.c] 59))) :=
  types_one hs hl ht.n ht.r

theorem types_70 {L n c : Nat} {a : Option Addr} {w : World} (h : TyRow (69 + 1) L w a n) (hl : LB L w) : Calls Tryz.prog 36 #[.slice a n c, .int .i64 1, ptr L] w (TyPost L w) := by
  generalize hd : 69 + 1 = d at h
  exact types_any d 1 L a n c _ (by omega) (by omega) h hl

/-- The element i of a list of type members at this place. -/
structure TmAt (w : World) (L : Nat) (a : Option Addr) (i : Nat) (b o : Nat) (nm : ByteArray) (ow ar : Int) (t u : T5) : Prop where
  ad : a = some ⟨b, o, none⟩
  ne : b ≠ L
  lt : b < w.heap.size
  k0 : w.cell? ⟨b, o + i * 13, none⟩ = some (.string nm)
  k1 : w.cell? ⟨b, o + i * 13 + 1, none⟩ = some (.int .i64 ow)
  k2 : w.cell? ⟨b, o + i * 13 + 2, none⟩ = some (.int .i64 ar)
  k3 : w.cell? ⟨b, o + i * 13 + 3, none⟩ = some (.int .i64 t.k)
  k4 : w.cell? ⟨b, o + i * 13 + 4, none⟩ = some (.int .i64 t.s)
  k5 : w.cell? ⟨b, o + i * 13 + 5, none⟩ = some (.string t.n)
  k6 : w.cell? ⟨b, o + i * 13 + 6, none⟩ = some (.int .i64 t.u)
  k7 : w.cell? ⟨b, o + i * 13 + 7, none⟩ = some (.slice t.a t.l t.c)
  k8 : w.cell? ⟨b, o + i * 13 + 8, none⟩ = some (.int .i64 u.k)
  k9 : w.cell? ⟨b, o + i * 13 + 9, none⟩ = some (.int .i64 u.s)
  k10 : w.cell? ⟨b, o + i * 13 + 10, none⟩ = some (.string u.n)
  k11 : w.cell? ⟨b, o + i * 13 + 11, none⟩ = some (.int .i64 u.u)
  k12 : w.cell? ⟨b, o + i * 13 + 12, none⟩ = some (.slice u.a u.l u.c)
theorem TmAt.og {w w' : World} {L : Nat} {a : Option Addr} {i b o : Nat} {nm : ByteArray} {ow ar : Int} {t u : T5} (h : TmAt w L a i b o nm ow ar t u) (hg : Og L w w') : TmAt w' L a i b o nm ow ar t u :=
  ⟨h.ad, h.ne, Nat.lt_of_lt_of_le h.lt hg.size, (hg.cell h.lt h.ne).trans h.k0, (hg.cell h.lt h.ne).trans h.k1, (hg.cell h.lt h.ne).trans h.k2, (hg.cell h.lt h.ne).trans h.k3, (hg.cell h.lt h.ne).trans h.k4, (hg.cell h.lt h.ne).trans h.k5,
    (hg.cell h.lt h.ne).trans h.k6, (hg.cell h.lt h.ne).trans h.k7, (hg.cell h.lt h.ne).trans h.k8, (hg.cell h.lt h.ne).trans h.k9, (hg.cell h.lt h.ne).trans h.k10, (hg.cell h.lt h.ne).trans h.k11, (hg.cell h.lt h.ne).trans h.k12⟩
def TmRow (L : Nat) (w : World) (a : Option Addr) (n : Nat) : Prop := n ≤ 9223372036854775807 ∧ ∀ i, i < n → ∃ (b o : Nat) (nm : ByteArray) (ow ar : Int) (t u : T5),
      TmAt w L a i b o nm ow ar t u ∧ nm.size ≤ 9223372036854775807 ∧ t.Ok L w ∧ u.Ok L w
theorem TmRow.og {L : Nat} {w w' : World} (hg : Og L w w') {a : Option Addr} {n : Nat} (h : TmRow L w a n) : TmRow L w' a n := ⟨h.1, fun i hi => by
  obtain ⟨b, o, nm, ow, ar, t, u, h1, h2, h3, h4⟩ := h.2 i hi
  exact ⟨b, o, nm, ow, ar, t, u, h1.og hg, h2, h3.og hg, h4.og hg⟩⟩

abbrev tmV (nm : ByteArray) (ow ar : Int) (t u : T5) : Value := .agg #[.string nm, .int .i64 ow, .int .i64 ar, .int .i64 t.k, .int .i64 t.s, .string t.n, .int .i64 t.u, .slice t.a t.l t.c, .int .i64 u.k, .int .i64 u.s, .string u.n, .int .i64 u.u, .slice u.a u.l u.c]

set_option maxRecDepth 100000 in
set_option maxHeartbeats 4000000 in
theorem clos_tm (L : Nat) (nm : ByteArray) (ow ar : Int) (t u : T5) (W : World) (hl : LB L W) (hnm : nm.size ≤ 9223372036854775807) (ht : t.Ok L W) (hu : u.Ok L W) :
    Calls Tryz.prog 40 #[tmV nm ow ar t u, ptr L] W (TyPost L W) := by
  have HL := Lib.hid hl
  have O1 := Lib.hid ((Og.refl L W).alloc (.cells #[.string nm, .int .i64 ow, .int .i64 ar, .int .i64 t.k, .int .i64 t.s, .string t.n, .int .i64 t.u, .slice t.a t.l t.c, .int .i64 u.k, .int .i64 u.s, .string u.n, .int .i64 u.u, .slice u.a u.l u.c] 79))
  have L1 := Lib.hid (LB.alloc HL.out (.cells #[.string nm, .int .i64 ow, .int .i64 ar, .int .i64 t.k, .int .i64 t.s, .string t.n, .int .i64 t.u, .slice t.a t.l t.c, .int .i64 u.k, .int .i64 u.s, .string u.n, .int .i64 u.u, .slice u.a u.l u.c] 79))
  have HT := Lib.hid (types_two (s := W.heap.size + 1) (by simp) L1.out (ht.og O1.out) (hu.og O1.out))
  clear hl ht hu
  by_cases hnb : 100 < nm.size
  · have q : (100 : Int) < (nm.size : Int) := by omega
    go_enter Tryz.func40, Tryz.ntmps40
    go_wp2_with fail
    go_ret
    exact ⟨⟨_, rfl⟩, O1.out, L1.out⟩
  · have q : ¬ (100 : Int) < (nm.size : Int) := by omega
    go_enter Tryz.func40, Tryz.ntmps40
    go_wp2_with fail
    refine HT.out.mono ?_
    rintro e w1 ⟨⟨r, rfl⟩, hg, hl⟩
    have G3 := Lib.hid ((O1.out.alloc (.cells #[.int .i64 t.k, .int .i64 t.s, .string t.n, .int .i64 t.u, .slice t.a t.l t.c, .int .i64 u.k, .int .i64 u.s, .string u.n, .int .i64 u.u, .slice u.a u.l u.c] 59)).trans hg)
    have L3 := Lib.hid hl
    clear hg hl
    cases r
    · go_wp2_with fail
      go_ret
      exact ⟨⟨_, rfl⟩, G3.out, L3.out⟩
    · go_wp2_with fail
      go_ret
      exact ⟨⟨_, rfl⟩, G3.out, L3.out⟩

set_option maxHeartbeats 1000000 in
theorem idx_tm (L : Nat) (a : Option Addr) (n c : Nat) (w : World) (h0 : TmRow L w a n) (hl : LB L w) :
    Calls Tryz.prog 74 #[.slice a n c, .func (.func 40) #[] #[ptr L]] w fun e W' => (∃ z : Int, e = .returned (.int .i64 z)) ∧ Og L w W' ∧ LB L W' := by
  have H0 := Lib.hid h0
  have HL := Lib.hid hl
  have hn := h0.1
  clear h0 hl
  go_enter Tryz.func74, Tryz.ntmps74
  go_wp2_with fail
  go_loopw [8] (fun i wr => ∃ k : Nat, k ≤ n ∧ i = .int .i64 k ∧ Og L w wr ∧ LB L wr) (fun i _ => n - (intOf i).toNat)
  case atStart => exact ⟨0, by omega, rfl, Og.refl L w, HL.out⟩
  case round =>
    obtain ⟨k, hk, rfl, hg, hL⟩ := hrel
    have HG := Lib.hid hg
    have HR := Lib.hid hL
    clear hg hL
    by_cases hlt : k < n
    · obtain ⟨b, o, nm, ow, ar, t, u, ⟨rfl, ne, lt, k0, k1, k2, k3, k4, k5, k6, k7, k8, k9, k10, k11, k12⟩, hnm, ht, hu⟩ := (TmRow.og HG.out H0.out).2 k hlt
      have HC := Lib.hid (clos_tm L nm ow ar t u wr HR.out hnm ht hu)
      clear ht hu
      go_wp2_with fail
      refine HC.out.mono ?_
      rintro e w1 ⟨⟨r, rfl⟩, hg, hL⟩
      have HG1 := Lib.hid (HG.out.trans hg)
      have HR1 := Lib.hid hL
      clear hg hL
      cases r
      · go_wp2_with fail
        go_roundw
        case rel => exact ⟨k + 1, by omega, by go_num, HG1.out, HR1.out⟩
        case measure => simp [intOf]; omega
      · go_wp2_with fail
        go_ret
        exact ⟨⟨_, rfl⟩, HG1.out, HR1.out⟩
    · have hkn : k = n := by omega
      subst hkn
      go_wp2_with fail
      go_ret
      exact ⟨⟨_, rfl⟩, HG.out, HR.out⟩

set_option maxHeartbeats 1000000 in
theorem contains_tm (L : Nat) (a : Option Addr) (n c : Nat) (w : World) (h0 : TmRow L w a n) (hl : LB L w) :
    Calls Tryz.prog 39 #[.slice a n c, .func (.func 40) #[] #[ptr L]] w (TyPost L w) := by
  have HX := Lib.hid (idx_tm L a n c w h0 hl)
  clear h0 hl
  go_enter Tryz.func39, Tryz.ntmps39
  go_wp2_with fail
  refine HX.out.mono ?_
  rintro e w1 ⟨⟨z, rfl⟩, hR⟩
  have HR := Lib.hid hR
  clear hR HX
  go_wp2_with fail
  go_ret
  exact ⟨⟨_, rfl⟩, HR.out⟩
end Go.Proofs.YtkjjieloncdjhaaGreatDoor
namespace Go.Proofs.YtkjjieloncdjhaaGreatDoor
open Go Go.RowKit

/-- A slice's own words. -/
structure Sl where
  a : Option Addr
  l : Nat
  c : Nat
structure ClC where
  nm : ByteArray
  kd : Int
  fl : Int
  ow : Int
  tp : Sl
  pr : Sl
  pa : Sl
  fi : Sl
  me : Sl
  ty : Sl
  su : Sl
  it : Sl
  at' : Int
structure MeC where
  nm : ByteArray
  ow : Int
  fl : Int
  tp : Sl
  pa : Int
  lo : Sl
  re : T5
  bo : Option Addr
  at' : Int
structure FiC where
  nm : ByteArray
  ow : Int
  fl : Int
  ty : T5
  at' : Int
structure TpC where
  nm : ByteArray
  cl : Int
  me : Int
  va : Int
  ar : Int
  lo : T5
  hi : T5
abbrev ClC.cells (x : ClC) : List Value := [.string x.nm, .int .i64 x.kd, .int .i64 x.fl, .int .i64 x.ow, .slice x.tp.a x.tp.l x.tp.c, .slice x.pr.a x.pr.l x.pr.c, .slice x.pa.a x.pa.l x.pa.c, .slice x.fi.a x.fi.l x.fi.c, .slice x.me.a x.me.l x.me.c, .slice x.ty.a x.ty.l x.ty.c, .slice x.su.a x.su.l x.su.c, .slice x.it.a x.it.l x.it.c, .int .i64 x.at']
abbrev MeC.cells (x : MeC) : List Value := [.string x.nm, .int .i64 x.ow, .int .i64 x.fl, .slice x.tp.a x.tp.l x.tp.c, .int .i64 x.pa, .slice x.lo.a x.lo.l x.lo.c, .int .i64 x.re.k, .int .i64 x.re.s, .string x.re.n, .int .i64 x.re.u, .slice x.re.a x.re.l x.re.c, .pointer x.bo, .int .i64 x.at']
abbrev FiC.cells (x : FiC) : List Value := [.string x.nm, .int .i64 x.ow, .int .i64 x.fl, .int .i64 x.ty.k, .int .i64 x.ty.s, .string x.ty.n, .int .i64 x.ty.u, .slice x.ty.a x.ty.l x.ty.c, .int .i64 x.at']
abbrev TpC.cells (x : TpC) : List Value := [.string x.nm, .int .i64 x.cl, .int .i64 x.me, .int .i64 x.va, .int .i64 x.ar, .int .i64 x.lo.k, .int .i64 x.lo.s, .string x.lo.n, .int .i64 x.lo.u, .slice x.lo.a x.lo.l x.lo.c, .int .i64 x.hi.k, .int .i64 x.hi.s, .string x.hi.n, .int .i64 x.hi.u, .slice x.hi.a x.hi.l x.hi.c]
structure ClAt (w : World) (L : Nat) (a : Option Addr) (i : Nat) (b o : Nat) (x : ClC) : Prop where
  ad : a = some ⟨b, o, none⟩
  ne : b ≠ L
  lt : b < w.heap.size
  k0 : w.cell? ⟨b, o + i * 13, none⟩ = some (.string x.nm)
  k1 : w.cell? ⟨b, o + i * 13 + 1, none⟩ = some (.int .i64 x.kd)
  k2 : w.cell? ⟨b, o + i * 13 + 2, none⟩ = some (.int .i64 x.fl)
  k3 : w.cell? ⟨b, o + i * 13 + 3, none⟩ = some (.int .i64 x.ow)
  k4 : w.cell? ⟨b, o + i * 13 + 4, none⟩ = some (.slice x.tp.a x.tp.l x.tp.c)
  k5 : w.cell? ⟨b, o + i * 13 + 5, none⟩ = some (.slice x.pr.a x.pr.l x.pr.c)
  k6 : w.cell? ⟨b, o + i * 13 + 6, none⟩ = some (.slice x.pa.a x.pa.l x.pa.c)
  k7 : w.cell? ⟨b, o + i * 13 + 7, none⟩ = some (.slice x.fi.a x.fi.l x.fi.c)
  k8 : w.cell? ⟨b, o + i * 13 + 8, none⟩ = some (.slice x.me.a x.me.l x.me.c)
  k9 : w.cell? ⟨b, o + i * 13 + 9, none⟩ = some (.slice x.ty.a x.ty.l x.ty.c)
  k10 : w.cell? ⟨b, o + i * 13 + 10, none⟩ = some (.slice x.su.a x.su.l x.su.c)
  k11 : w.cell? ⟨b, o + i * 13 + 11, none⟩ = some (.slice x.it.a x.it.l x.it.c)
  k12 : w.cell? ⟨b, o + i * 13 + 12, none⟩ = some (.int .i64 x.at')
theorem ClAt.og {w w' : World} {L : Nat} {a : Option Addr} {i b o : Nat} {x : ClC} (h : ClAt w L a i b o x) (hg : Og L w w') : ClAt w' L a i b o x :=
  ⟨h.ad, h.ne, Nat.lt_of_lt_of_le h.lt hg.size, (hg.cell h.lt h.ne).trans h.k0, (hg.cell h.lt h.ne).trans h.k1, (hg.cell h.lt h.ne).trans h.k2, (hg.cell h.lt h.ne).trans h.k3, (hg.cell h.lt h.ne).trans h.k4, (hg.cell h.lt h.ne).trans h.k5, (hg.cell h.lt h.ne).trans h.k6, (hg.cell h.lt h.ne).trans h.k7, (hg.cell h.lt h.ne).trans h.k8, (hg.cell h.lt h.ne).trans h.k9, (hg.cell h.lt h.ne).trans h.k10, (hg.cell h.lt h.ne).trans h.k11, (hg.cell h.lt h.ne).trans h.k12⟩
structure MeAt (w : World) (L : Nat) (a : Option Addr) (i : Nat) (b o : Nat) (x : MeC) : Prop where
  ad : a = some ⟨b, o, none⟩
  ne : b ≠ L
  lt : b < w.heap.size
  k0 : w.cell? ⟨b, o + i * 13, none⟩ = some (.string x.nm)
  k1 : w.cell? ⟨b, o + i * 13 + 1, none⟩ = some (.int .i64 x.ow)
  k2 : w.cell? ⟨b, o + i * 13 + 2, none⟩ = some (.int .i64 x.fl)
  k3 : w.cell? ⟨b, o + i * 13 + 3, none⟩ = some (.slice x.tp.a x.tp.l x.tp.c)
  k4 : w.cell? ⟨b, o + i * 13 + 4, none⟩ = some (.int .i64 x.pa)
  k5 : w.cell? ⟨b, o + i * 13 + 5, none⟩ = some (.slice x.lo.a x.lo.l x.lo.c)
  k6 : w.cell? ⟨b, o + i * 13 + 6, none⟩ = some (.int .i64 x.re.k)
  k7 : w.cell? ⟨b, o + i * 13 + 7, none⟩ = some (.int .i64 x.re.s)
  k8 : w.cell? ⟨b, o + i * 13 + 8, none⟩ = some (.string x.re.n)
  k9 : w.cell? ⟨b, o + i * 13 + 9, none⟩ = some (.int .i64 x.re.u)
  k10 : w.cell? ⟨b, o + i * 13 + 10, none⟩ = some (.slice x.re.a x.re.l x.re.c)
  k11 : w.cell? ⟨b, o + i * 13 + 11, none⟩ = some (.pointer x.bo)
  k12 : w.cell? ⟨b, o + i * 13 + 12, none⟩ = some (.int .i64 x.at')
theorem MeAt.og {w w' : World} {L : Nat} {a : Option Addr} {i b o : Nat} {x : MeC} (h : MeAt w L a i b o x) (hg : Og L w w') : MeAt w' L a i b o x :=
  ⟨h.ad, h.ne, Nat.lt_of_lt_of_le h.lt hg.size, (hg.cell h.lt h.ne).trans h.k0, (hg.cell h.lt h.ne).trans h.k1, (hg.cell h.lt h.ne).trans h.k2, (hg.cell h.lt h.ne).trans h.k3, (hg.cell h.lt h.ne).trans h.k4, (hg.cell h.lt h.ne).trans h.k5, (hg.cell h.lt h.ne).trans h.k6, (hg.cell h.lt h.ne).trans h.k7, (hg.cell h.lt h.ne).trans h.k8, (hg.cell h.lt h.ne).trans h.k9, (hg.cell h.lt h.ne).trans h.k10, (hg.cell h.lt h.ne).trans h.k11, (hg.cell h.lt h.ne).trans h.k12⟩
structure FiAt (w : World) (L : Nat) (a : Option Addr) (i : Nat) (b o : Nat) (x : FiC) : Prop where
  ad : a = some ⟨b, o, none⟩
  ne : b ≠ L
  lt : b < w.heap.size
  k0 : w.cell? ⟨b, o + i * 9, none⟩ = some (.string x.nm)
  k1 : w.cell? ⟨b, o + i * 9 + 1, none⟩ = some (.int .i64 x.ow)
  k2 : w.cell? ⟨b, o + i * 9 + 2, none⟩ = some (.int .i64 x.fl)
  k3 : w.cell? ⟨b, o + i * 9 + 3, none⟩ = some (.int .i64 x.ty.k)
  k4 : w.cell? ⟨b, o + i * 9 + 4, none⟩ = some (.int .i64 x.ty.s)
  k5 : w.cell? ⟨b, o + i * 9 + 5, none⟩ = some (.string x.ty.n)
  k6 : w.cell? ⟨b, o + i * 9 + 6, none⟩ = some (.int .i64 x.ty.u)
  k7 : w.cell? ⟨b, o + i * 9 + 7, none⟩ = some (.slice x.ty.a x.ty.l x.ty.c)
  k8 : w.cell? ⟨b, o + i * 9 + 8, none⟩ = some (.int .i64 x.at')
theorem FiAt.og {w w' : World} {L : Nat} {a : Option Addr} {i b o : Nat} {x : FiC} (h : FiAt w L a i b o x) (hg : Og L w w') : FiAt w' L a i b o x :=
  ⟨h.ad, h.ne, Nat.lt_of_lt_of_le h.lt hg.size, (hg.cell h.lt h.ne).trans h.k0, (hg.cell h.lt h.ne).trans h.k1, (hg.cell h.lt h.ne).trans h.k2, (hg.cell h.lt h.ne).trans h.k3, (hg.cell h.lt h.ne).trans h.k4, (hg.cell h.lt h.ne).trans h.k5, (hg.cell h.lt h.ne).trans h.k6, (hg.cell h.lt h.ne).trans h.k7, (hg.cell h.lt h.ne).trans h.k8⟩
structure TpAt (w : World) (L : Nat) (a : Option Addr) (i : Nat) (b o : Nat) (x : TpC) : Prop where
  ad : a = some ⟨b, o, none⟩
  ne : b ≠ L
  lt : b < w.heap.size
  k0 : w.cell? ⟨b, o + i * 15, none⟩ = some (.string x.nm)
  k1 : w.cell? ⟨b, o + i * 15 + 1, none⟩ = some (.int .i64 x.cl)
  k2 : w.cell? ⟨b, o + i * 15 + 2, none⟩ = some (.int .i64 x.me)
  k3 : w.cell? ⟨b, o + i * 15 + 3, none⟩ = some (.int .i64 x.va)
  k4 : w.cell? ⟨b, o + i * 15 + 4, none⟩ = some (.int .i64 x.ar)
  k5 : w.cell? ⟨b, o + i * 15 + 5, none⟩ = some (.int .i64 x.lo.k)
  k6 : w.cell? ⟨b, o + i * 15 + 6, none⟩ = some (.int .i64 x.lo.s)
  k7 : w.cell? ⟨b, o + i * 15 + 7, none⟩ = some (.string x.lo.n)
  k8 : w.cell? ⟨b, o + i * 15 + 8, none⟩ = some (.int .i64 x.lo.u)
  k9 : w.cell? ⟨b, o + i * 15 + 9, none⟩ = some (.slice x.lo.a x.lo.l x.lo.c)
  k10 : w.cell? ⟨b, o + i * 15 + 10, none⟩ = some (.int .i64 x.hi.k)
  k11 : w.cell? ⟨b, o + i * 15 + 11, none⟩ = some (.int .i64 x.hi.s)
  k12 : w.cell? ⟨b, o + i * 15 + 12, none⟩ = some (.string x.hi.n)
  k13 : w.cell? ⟨b, o + i * 15 + 13, none⟩ = some (.int .i64 x.hi.u)
  k14 : w.cell? ⟨b, o + i * 15 + 14, none⟩ = some (.slice x.hi.a x.hi.l x.hi.c)
theorem TpAt.og {w w' : World} {L : Nat} {a : Option Addr} {i b o : Nat} {x : TpC} (h : TpAt w L a i b o x) (hg : Og L w w') : TpAt w' L a i b o x :=
  ⟨h.ad, h.ne, Nat.lt_of_lt_of_le h.lt hg.size, (hg.cell h.lt h.ne).trans h.k0, (hg.cell h.lt h.ne).trans h.k1, (hg.cell h.lt h.ne).trans h.k2, (hg.cell h.lt h.ne).trans h.k3, (hg.cell h.lt h.ne).trans h.k4, (hg.cell h.lt h.ne).trans h.k5, (hg.cell h.lt h.ne).trans h.k6, (hg.cell h.lt h.ne).trans h.k7, (hg.cell h.lt h.ne).trans h.k8, (hg.cell h.lt h.ne).trans h.k9, (hg.cell h.lt h.ne).trans h.k10, (hg.cell h.lt h.ne).trans h.k11, (hg.cell h.lt h.ne).trans h.k12, (hg.cell h.lt h.ne).trans h.k13, (hg.cell h.lt h.ne).trans h.k14⟩
/-- The tree behind a pointer. -/
structure BoAt (w : World) (L b o : Nat) (t : TrC) : Prop where
  ne : b ≠ L
  lt : b < w.heap.size
  k0 : w.cell? ⟨b, o, none⟩ = some (.int .i64 t.kd)
  k1 : w.cell? ⟨b, o + 1, none⟩ = some (.int .i64 t.sy)
  k2 : w.cell? ⟨b, o + 2, none⟩ = some (.int .i64 t.nu)
  k3 : w.cell? ⟨b, o + 3, none⟩ = some (.string t.tx)
  k4 : w.cell? ⟨b, o + 4, none⟩ = some (.int .i64 t.tk)
  k5 : w.cell? ⟨b, o + 5, none⟩ = some (.int .i64 t.ts)
  k6 : w.cell? ⟨b, o + 6, none⟩ = some (.string t.tn)
  k7 : w.cell? ⟨b, o + 7, none⟩ = some (.int .i64 t.tu)
  k8 : w.cell? ⟨b, o + 8, none⟩ = some (.slice t.ta t.tl t.tc)
  k9 : w.cell? ⟨b, o + 9, none⟩ = some (.slice t.la t.ll t.lc)
  k10 : w.cell? ⟨b, o + 10, none⟩ = some (.slice t.ka t.kl t.kc)
  k11 : w.cell? ⟨b, o + 11, none⟩ = some (.int .i64 t.at')
theorem BoAt.og {w w' : World} {L b o : Nat} {t : TrC} (h : BoAt w L b o t) (hg : Og L w w') : BoAt w' L b o t :=
  ⟨h.ne, Nat.lt_of_lt_of_le h.lt hg.size, (hg.cell h.lt h.ne).trans h.k0, (hg.cell h.lt h.ne).trans h.k1, (hg.cell h.lt h.ne).trans h.k2, (hg.cell h.lt h.ne).trans h.k3, (hg.cell h.lt h.ne).trans h.k4, (hg.cell h.lt h.ne).trans h.k5, (hg.cell h.lt h.ne).trans h.k6, (hg.cell h.lt h.ne).trans h.k7, (hg.cell h.lt h.ne).trans h.k8, (hg.cell h.lt h.ne).trans h.k9, (hg.cell h.lt h.ne).trans h.k10, (hg.cell h.lt h.ne).trans h.k11⟩
/-- A list of numbers lies there. -/
def NumRow (L : Nat) (w : World) (a : Option Addr) (n : Nat) : Prop := ∀ i, i < n → ∃ (b o : Nat) (z : Int), a = some ⟨b, o, none⟩ ∧ b ≠ L ∧ b < w.heap.size ∧ w.cell? ⟨b, o + i, none⟩ = some (.int .i64 z)
theorem NumRow.og {L : Nat} {w w' : World} (hg : Og L w w') {a : Option Addr} {n : Nat} (h : NumRow L w a n) : NumRow L w' a n := fun i hi => by
  obtain ⟨b, o, z, h1, h2, h3, h4⟩ := h i hi
  exact ⟨b, o, z, h1, h2, Nat.lt_of_lt_of_le h3 hg.size, (hg.cell h3 h2).trans h4⟩
structure ClOk (L : Nat) (w : World) (x : ClC) : Prop where
  nm : x.nm.size ≤ 9223372036854775807
  tp : x.tp.l ≤ 1048576
  pa : x.pa.l ≤ 1048576
  fi : x.fi.l ≤ 1048576
  me : x.me.l ≤ 1048576
  ty : x.ty.l ≤ 1048576
  pr : TyRow (69 + 1) L w x.pr.a x.pr.l
  su : TrRow 69 200 L w x.su.a x.su.l
  it : TrRow 69 200 L w x.it.a x.it.l
  prl : x.pr.l ≤ 1048576
  ntp : NumRow L w x.tp.a x.tp.l
  npa : NumRow L w x.pa.a x.pa.l
  nfi : NumRow L w x.fi.a x.fi.l
  nme : NumRow L w x.me.a x.me.l
  nty : NumRow L w x.ty.a x.ty.l
  prc : x.pr.l ≤ x.pr.c
theorem ClOk.og {L : Nat} {w w' : World} {x : ClC} (h : ClOk L w x) (hg : Og L w w') : ClOk L w' x := ⟨h.nm, h.tp, h.pa, h.fi, h.me, h.ty, TyRow.og hg h.pr, TrRow.og hg h.su, TrRow.og hg h.it, h.prl, h.ntp.og hg, h.npa.og hg, h.nfi.og hg, h.nme.og hg, h.nty.og hg, h.prc⟩
structure MeOk (L : Nat) (w : World) (x : MeC) : Prop where
  nm : x.nm.size ≤ 9223372036854775807
  tp : x.tp.l ≤ 9223372036854775807
  lo : LoRow L w x.lo.a x.lo.l
  re : x.re.Ok L w
  bo : x.bo = none ∨ ∃ (b o : Nat) (t : TrC), x.bo = some ⟨b, o, none⟩ ∧ BoAt w L b o t ∧ TrOk 69 L w t ∧ TrRow 69 199 L w t.ka t.kl
  tpl : x.tp.l ≤ 1048576
  lol : x.lo.l ≤ 1048576
  ntp : NumRow L w x.tp.a x.tp.l
  loc : x.lo.l ≤ x.lo.c
theorem MeOk.og {L : Nat} {w w' : World} {x : MeC} (h : MeOk L w x) (hg : Og L w w') : MeOk L w' x := ⟨h.nm, h.tp, LoRow.og hg h.lo, h.re.og hg, h.bo.imp id (fun ⟨b, o, t, h1, h2, h3, h4⟩ => ⟨b, o, t, h1, h2.og hg, h3.og hg, TrRow.og hg h4⟩), h.tpl, h.lol, h.ntp.og hg, h.loc⟩
structure FiOk (L : Nat) (w : World) (x : FiC) : Prop where
  nm : x.nm.size ≤ 9223372036854775807
  ty : x.ty.Ok L w
theorem FiOk.og {L : Nat} {w w' : World} {x : FiC} (h : FiOk L w x) (hg : Og L w w') : FiOk L w' x := ⟨h.nm, h.ty.og hg⟩
structure TpOk (L : Nat) (w : World) (x : TpC) : Prop where
  nm : x.nm.size ≤ 9223372036854775807
  lo : x.lo.Ok L w
  hi : x.hi.Ok L w
theorem TpOk.og {L : Nat} {w w' : World} {x : TpC} (h : TpOk L w x) (hg : Og L w w') : TpOk L w' x := ⟨h.nm, h.lo.og hg, h.hi.og hg⟩
def ClRow (L : Nat) (w : World) (a : Option Addr) (n : Nat) : Prop := n ≤ 9223372036854775807 ∧ ∀ i, i < n → ∃ (b o : Nat) (x : ClC), ClAt w L a i b o x ∧ ClOk L w x
theorem ClRow.og {L : Nat} {w w' : World} (hg : Og L w w') {a : Option Addr} {n : Nat} (h : ClRow L w a n) : ClRow L w' a n := ⟨h.1, fun i hi => by
  obtain ⟨b, o, x, h1, h2⟩ := h.2 i hi
  exact ⟨b, o, x, h1.og hg, h2.og hg⟩⟩
def MeRow (L : Nat) (w : World) (a : Option Addr) (n : Nat) : Prop := n ≤ 9223372036854775807 ∧ ∀ i, i < n → ∃ (b o : Nat) (x : MeC), MeAt w L a i b o x ∧ MeOk L w x
theorem MeRow.og {L : Nat} {w w' : World} (hg : Og L w w') {a : Option Addr} {n : Nat} (h : MeRow L w a n) : MeRow L w' a n := ⟨h.1, fun i hi => by
  obtain ⟨b, o, x, h1, h2⟩ := h.2 i hi
  exact ⟨b, o, x, h1.og hg, h2.og hg⟩⟩
def FiRow (L : Nat) (w : World) (a : Option Addr) (n : Nat) : Prop := n ≤ 9223372036854775807 ∧ ∀ i, i < n → ∃ (b o : Nat) (x : FiC), FiAt w L a i b o x ∧ FiOk L w x
theorem FiRow.og {L : Nat} {w w' : World} (hg : Og L w w') {a : Option Addr} {n : Nat} (h : FiRow L w a n) : FiRow L w' a n := ⟨h.1, fun i hi => by
  obtain ⟨b, o, x, h1, h2⟩ := h.2 i hi
  exact ⟨b, o, x, h1.og hg, h2.og hg⟩⟩
def TpRow (L : Nat) (w : World) (a : Option Addr) (n : Nat) : Prop := n ≤ 9223372036854775807 ∧ ∀ i, i < n → ∃ (b o : Nat) (x : TpC), TpAt w L a i b o x ∧ TpOk L w x
theorem TpRow.og {L : Nat} {w w' : World} (hg : Og L w w') {a : Option Addr} {n : Nat} (h : TpRow L w a n) : TpRow L w' a n := ⟨h.1, fun i hi => by
  obtain ⟨b, o, x, h1, h2⟩ := h.2 i hi
  exact ⟨b, o, x, h1.og hg, h2.og hg⟩⟩

theorem trees_200 {L n c : Nat} {a : Option Addr} {w : World} (h : TrRow 69 200 L w a n) (hl : LB L w) : Calls Tryz.prog 37 #[.slice a n c, .int .i64 1, ptr L] w (TyPost L w) :=
  trees_any 200 1 L a n c w (by omega) (by omega) h hl

theorem trees_one {L s : Nat} {w : World} {t : TrC} (hs : w.heap.size = s) (hl : LB L w) (hok : TrOk 69 L w t) (hk : TrRow 69 199 L w t.ka t.kl) :
    Calls Tryz.prog 37 #[.slice (some ⟨s, 0, none⟩) 1 1, .int .i64 1, ptr L] (w.alloc (.cells #[.int .i64 t.kd, .int .i64 t.sy, .int .i64 t.nu, .string t.tx, .int .i64 t.tk, .int .i64 t.ts, .string t.tn, .int .i64 t.tu, .slice t.ta t.tl t.tc, .slice t.la t.ll t.lc, .slice t.ka t.kl t.kc, .int .i64 t.at'] 72)) (TyPost L (w.alloc (.cells #[.int .i64 t.kd, .int .i64 t.sy, .int .i64 t.nu, .string t.tx, .int .i64 t.tk, .int .i64 t.ts, .string t.tn, .int .i64 t.tu, .slice t.ta t.tl t.tc, .slice t.la t.ll t.lc, .slice t.ka t.kl t.kc, .int .i64 t.at'] 72))) := by
  subst hs
  have hog : Og L w (w.alloc (.cells #[.int .i64 t.kd, .int .i64 t.sy, .int .i64 t.nu, .string t.tx, .int .i64 t.tk, .int .i64 t.ts, .string t.tn, .int .i64 t.tu, .slice t.ta t.tl t.tc, .slice t.la t.ll t.lc, .slice t.ka t.kl t.kc, .int .i64 t.at'] 72)) := (Og.refl L w).alloc _
  have hb : Bl (w.alloc (.cells #[.int .i64 t.kd, .int .i64 t.sy, .int .i64 t.nu, .string t.tx, .int .i64 t.tk, .int .i64 t.ts, .string t.tn, .int .i64 t.tu, .slice t.ta t.tl t.tc, .slice t.la t.ll t.lc, .slice t.ka t.kl t.kc, .int .i64 t.at'] 72)) w.heap.size 72 t.cells := Bl.new w 72 t.cells
  have h : TrRow 69 (199 + 1) L (w.alloc (.cells #[.int .i64 t.kd, .int .i64 t.sy, .int .i64 t.nu, .string t.tx, .int .i64 t.tk, .int .i64 t.ts, .string t.tn, .int .i64 t.tu, .slice t.ta t.tl t.tc, .slice t.la t.ll t.lc, .slice t.ka t.kl t.kc, .int .i64 t.at'] 72)) (some ⟨w.heap.size, 0, none⟩) 1 := by
    refine ⟨by omega, fun i hi => ?_⟩
    obtain rfl : i = 0 := by omega
    exact ⟨w.heap.size, 0, t, ⟨rfl, by have := hl.lt; omega, by simp, hb.cell 0, hb.cell 1, hb.cell 2, hb.cell 3, hb.cell 4, hb.cell 5, hb.cell 6, hb.cell 7, hb.cell 8, hb.cell 9, hb.cell 10, hb.cell 11⟩, hok.og hog, TrRow.og hog hk⟩
  generalize hd : 199 + 1 = d at h
  exact trees_any d 1 L _ 1 1 _ (by omega) (by omega) h (hl.alloc _)
end Go.Proofs.YtkjjieloncdjhaaGreatDoor
