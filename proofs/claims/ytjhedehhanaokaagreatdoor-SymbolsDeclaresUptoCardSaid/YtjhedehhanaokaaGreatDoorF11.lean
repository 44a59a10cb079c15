/- Classes, methods, fields, type parameters in memory. -/
import Derived.Test.YtjhedehhanaokaaGreatDoorF10
namespace Go.Proofs.YtjhedehhanaokaaGreatDoor
open Go Go.RowKit

/-- A slice's own words. -/
structure Sl where
  a : Option Addr
  l : Nat
  c : Nat
structure ClC where
  nm : ByteArray
  kd : Int
  fl : Int
  ow : Int
  tp : Sl
  pr : Sl
  pa : Sl
  fi : Sl
  me : Sl
  ty : Sl
  su : Sl
  it : Sl
  at' : Int
structure MeC where
  nm : ByteArray
  ow : Int
  fl : Int
  tp : Sl
  pa : Int
  lo : Sl
  re : T5
  bo : Option Addr
  at' : Int
structure FiC where
  nm : ByteArray
  ow : Int
  fl : Int
  ty : T5
  at' : Int
structure TpC where
  nm : ByteArray
  cl : Int
  me : Int
  va : Int
  ar : Int
  lo : T5
  hi : T5
abbrev ClC.cells (x : ClC) : List Value := [.string x.nm, .int .i64 x.kd, .int .i64 x.fl, .int .i64 x.ow, .slice x.tp.a x.tp.l x.tp.c, .slice x.pr.a x.pr.l x.pr.c, .slice x.pa.a x.pa.l x.pa.c, .slice x.fi.a x.fi.l x.fi.c, .slice x.me.a x.me.l x.me.c, .slice x.ty.a x.ty.l x.ty.c, .slice x.su.a x.su.l x.su.c, .slice x.it.a x.it.l x.it.c, .int .i64 x.at']
abbrev MeC.cells (x : MeC) : List Value := [.string x.nm, .int .i64 x.ow, .int .i64 x.fl, .slice x.tp.a x.tp.l x.tp.c, .int .i64 x.pa, .slice x.lo.a x.lo.l x.lo.c, .int .i64 x.re.k, .int .i64 x.re.s, .string x.re.n, .int .i64 x.re.u, .slice x.re.a x.re.l x.re.c, .pointer x.bo, .int .i64 x.at']
abbrev FiC.cells (x : FiC) : List Value := [.string x.nm, .int .i64 x.ow, .int .i64 x.fl, .int .i64 x.ty.k, .int .i64 x.ty.s, .string x.ty.n, .int .i64 x.ty.u, .slice x.ty.a x.ty.l x.ty.c, .int .i64 x.at']
abbrev TpC.cells (x : TpC) : List Value := [.string x.nm, .int .i64 x.cl, .int .i64 x.me, .int .i64 x.va, .int .i64 x.ar, .int .i64 x.lo.k, .int .i64 x.lo.s, .string x.lo.n, .int .i64 x.lo.u, .slice x.lo.a x.lo.l x.lo.c, .int .i64 x.hi.k, .int .i64 x.hi.s, .string x.hi.n, .int .i64 x.hi.u, .slice x.hi.a x.hi.l x.hi.c]
structure ClAt (w : World) (L : Nat) (a : Option Addr) (i : Nat) (b o : Nat) (x : ClC) : Prop where
  ad : a = some ⟨b, o, none⟩
  ne : b ≠ L
  lt : b < w.heap.size
  k0 : w.cell? ⟨b, o + i * 13, none⟩ = some (.string x.nm)
  k1 : w.cell? ⟨b, o + i * 13 + 1, none⟩ = some (.int .i64 x.kd)
  k2 : w.cell? ⟨b, o + i * 13 + 2, none⟩ = some (.int .i64 x.fl)
  k3 : w.cell? ⟨b, o + i * 13 + 3, none⟩ = some (.int .i64 x.ow)
  k4 : w.cell? ⟨b, o + i * 13 + 4, none⟩ = some (.slice x.tp.a x.tp.l x.tp.c)
  k5 : w.cell? ⟨b, o + i * 13 + 5, none⟩ = some (.slice x.pr.a x.pr.l x.pr.c)
  k6 : w.cell? ⟨b, o + i * 13 + 6, none⟩ = some (.slice x.pa.a x.pa.l x.pa.c)
  k7 : w.cell? ⟨b, o + i * 13 + 7, none⟩ = some (.slice x.fi.a x.fi.l x.fi.c)
  k8 : w.cell? ⟨b, o + i * 13 + 8, none⟩ = some (.slice x.me.a x.me.l x.me.c)
  k9 : w.cell? ⟨b, o + i * 13 + 9, none⟩ = some (.slice x.ty.a x.ty.l x.ty.c)
  k10 : w.cell? ⟨b, o + i * 13 + 10, none⟩ = some (.slice x.su.a x.su.l x.su.c)
  k11 : w.cell? ⟨b, o + i * 13 + 11, none⟩ = some (.slice x.it.a x.it.l x.it.c)
  k12 : w.cell? ⟨b, o + i * 13 + 12, none⟩ = some (.int .i64 x.at')
theorem ClAt.og {w w' : World} {L : Nat} {a : Option Addr} {i b o : Nat} {x : ClC} (h : ClAt w L a i b o x) (hg : Og L w w') : ClAt w' L a i b o x :=
  ⟨h.ad, h.ne, Nat.lt_of_lt_of_le h.lt hg.size, (hg.cell h.lt h.ne).trans h.k0, (hg.cell h.lt h.ne).trans h.k1, (hg.cell h.lt h.ne).trans h.k2, (hg.cell h.lt h.ne).trans h.k3, (hg.cell h.lt h.ne).trans h.k4, (hg.cell h.lt h.ne).trans h.k5, (hg.cell h.lt h.ne).trans h.k6, (hg.cell h.lt h.ne).trans h.k7, (hg.cell h.lt h.ne).trans h.k8, (hg.cell h.lt h.ne).trans h.k9, (hg.cell h.lt h.ne).trans h.k10, (hg.cell h.lt h.ne).trans h.k11, (hg.cell h.lt h.ne).trans h.k12⟩
structure MeAt (w : World) (L : Nat) (a : Option Addr) (i : Nat) (b o : Nat) (x : MeC) : Prop where
  ad : a = some ⟨b, o, none⟩
  ne : b ≠ L
  lt : b < w.heap.size
  k0 : w.cell? ⟨b, o + i * 13, none⟩ = some (.string x.nm)
  k1 : w.cell? ⟨b, o + i * 13 + 1, none⟩ = some (.int .i64 x.ow)
  k2 : w.cell? ⟨b, o + i * 13 + 2, none⟩ = some (.int .i64 x.fl)
  k3 : w.cell? ⟨b, o + i * 13 + 3, none⟩ = some (.slice x.tp.a x.tp.l x.tp.c)
  k4 : w.cell? ⟨b, o + i * 13 + 4, none⟩ = some (.int .i64 x.pa)
  k5 : w.cell? ⟨b, o + i * 13 + 5, none⟩ = some (.slice x.lo.a x.lo.l x.lo.c)
  k6 : w.cell? ⟨b, o + i * 13 + 6, none⟩ = some (.int .i64 x.re.k)
  k7 : w.cell? ⟨b, o + i * 13 + 7, none⟩ = some (.int .i64 x.re.s)
  k8 : w.cell? ⟨b, o + i * 13 + 8, none⟩ = some (.string x.re.n)
  k9 : w.cell? ⟨b, o + i * 13 + 9, none⟩ = some (.int .i64 x.re.u)
  k10 : w.cell? ⟨b, o + i * 13 + 10, none⟩ = some (.slice x.re.a x.re.l x.re.c)
  k11 : w.cell? ⟨b, o + i * 13 + 11, none⟩ = some (.pointer x.bo)
  k12 : w.cell? ⟨b, o + i * 13 + 12, none⟩ = some (.int .i64 x.at')
theorem MeAt.og {w w' : World} {L : Nat} {a : Option Addr} {i b o : Nat} {x : MeC} (h : MeAt w L a i b o x) (hg : Og L w w') : MeAt w' L a i b o x :=
  ⟨h.ad, h.ne, Nat.lt_of_lt_of_le h.lt hg.size, (hg.cell h.lt h.ne).trans h.k0, (hg.cell h.lt h.ne).trans h.k1, (hg.cell h.lt h.ne).trans h.k2, (hg.cell h.lt h.ne).trans h.k3, (hg.cell h.lt h.ne).trans h.k4, (hg.cell h.lt h.ne).trans h.k5, (hg.cell h.lt h.ne).trans h.k6, (hg.cell h.lt h.ne).trans h.k7, (hg.cell h.lt h.ne).trans h.k8, (hg.cell h.lt h.ne).trans h.k9, (hg.cell h.lt h.ne).trans h.k10, (hg.cell h.lt h.ne).trans h.k11, (hg.cell h.lt h.ne).trans h.k12⟩
structure FiAt (w : World) (L : Nat) (a : Option Addr) (i : Nat) (b o : Nat) (x : FiC) : Prop where
  ad : a = some ⟨b, o, none⟩
  ne : b ≠ L
  lt : b < w.heap.size
  k0 : w.cell? ⟨b, o + i * 9, none⟩ = some (.string x.nm)
  k1 : w.cell? ⟨b, o + i * 9 + 1, none⟩ = some (.int .i64 x.ow)
  k2 : w.cell? ⟨b, o + i * 9 + 2, none⟩ = some (.int .i64 x.fl)
  k3 : w.cell? ⟨b, o + i * 9 + 3, none⟩ = some (.int .i64 x.ty.k)
  k4 : w.cell? ⟨b, o + i * 9 + 4, none⟩ = some (.int .i64 x.ty.s)
  k5 : w.cell? ⟨b, o + i * 9 + 5, none⟩ = some (.string x.ty.n)
  k6 : w.cell? ⟨b, o + i * 9 + 6, none⟩ = some (.int .i64 x.ty.u)
  k7 : w.cell? ⟨b, o + i * 9 + 7, none⟩ = some (.slice x.ty.a x.ty.l x.ty.c)
  k8 : w.cell? ⟨b, o + i * 9 + 8, none⟩ = some (.int .i64 x.at')
theorem FiAt.og {w w' : World} {L : Nat} {a : Option Addr} {i b o : Nat} {x : FiC} (h : FiAt w L a i b o x) (hg : Og L w w') : FiAt w' L a i b o x :=
  ⟨h.ad, h.ne, Nat.lt_of_lt_of_le h.lt hg.size, (hg.cell h.lt h.ne).trans h.k0, (hg.cell h.lt h.ne).trans h.k1, (hg.cell h.lt h.ne).trans h.k2, (hg.cell h.lt h.ne).trans h.k3, (hg.cell h.lt h.ne).trans h.k4, (hg.cell h.lt h.ne).trans h.k5, (hg.cell h.lt h.ne).trans h.k6, (hg.cell h.lt h.ne).trans h.k7, (hg.cell h.lt h.ne).trans h.k8⟩
structure TpAt (w : World) (L : Nat) (a : Option Addr) (i : Nat) (b o : Nat) (x : TpC) : Prop where
  ad : a = some ⟨b, o, none⟩
  ne : b ≠ L
  lt : b < w.heap.size
  k0 : w.cell? ⟨b, o + i * 15, none⟩ = some (.string x.nm)
  k1 : w.cell? ⟨b, o + i * 15 + 1, none⟩ = some (.int .i64 x.cl)
  k2 : w.cell? ⟨b, o + i * 15 + 2, none⟩ = some (.int .i64 x.me)
  k3 : w.cell? ⟨b, o + i * 15 + 3, none⟩ = some (.int .i64 x.va)
  k4 : w.cell? ⟨b, o + i * 15 + 4, none⟩ = some (.int .i64 x.ar)
  k5 : w.cell? ⟨b, o + i * 15 + 5, none⟩ = some (.int .i64 x.lo.k)
  k6 : w.cell? ⟨b, o + i * 15 + 6, none⟩ = some (.int .i64 x.lo.s)
  k7 : w.cell? ⟨b, o + i * 15 + 7, none⟩ = some (.string x.lo.n)
  k8 : w.cell? ⟨b, o + i * 15 + 8, none⟩ = some (.int .i64 x.lo.u)
  k9 : w.cell? ⟨b, o + i * 15 + 9, none⟩ = some (.slice x.lo.a x.lo.l x.lo.c)
  k10 : w.cell? ⟨b, o + i * 15 + 10, none⟩ = some (.int .i64 x.hi.k)
  k11 : w.cell? ⟨b, o + i * 15 + 11, none⟩ = some (.int .i64 x.hi.s)
  k12 : w.cell? ⟨b, o + i * 15 + 12, none⟩ = some (.string x.hi.n)
  k13 : w.cell? ⟨b, o + i * 15 + 13, none⟩ = some (.int .i64 x.hi.u)
  k14 : w.cell? ⟨b, o + i * 15 + 14, none⟩ = some (.slice x.hi.a x.hi.l x.hi.c)
theorem TpAt.og {w w' : World} {L : Nat} {a : Option Addr} {i b o : Nat} {x : TpC} (h : TpAt w L a i b o x) (hg : Og L w w') : TpAt w' L a i b o x :=
  ⟨h.ad, h.ne, Nat.lt_of_lt_of_le h.lt hg.size, (hg.cell h.lt h.ne).trans h.k0, (hg.cell h.lt h.ne).trans h.k1, (hg.cell h.lt h.ne).trans h.k2, (hg.cell h.lt h.ne).trans h.k3, (hg.cell h.lt h.ne).trans h.k4, (hg.cell h.lt h.ne).trans h.k5, (hg.cell h.lt h.ne).trans h.k6, (hg.cell h.lt h.ne).trans h.k7, (hg.cell h.lt h.ne).trans h.k8, (hg.cell h.lt h.ne).trans h.k9, (hg.cell h.lt h.ne).trans h.k10, (hg.cell h.lt h.ne).trans h.k11, (hg.cell h.lt h.ne).trans h.k12, (hg.cell h.lt h.ne).trans h.k13, (hg.cell h.lt h.ne).trans h.k14⟩
/-- The tree behind a pointer. -/
structure BoAt (w : World) (L b o : Nat) (t : TrC) : Prop where
  ne : b ≠ L
  lt : b < w.heap.size
  k0 : w.cell? ⟨b, o, none⟩ = some (.int .i64 t.kd)
  k1 : w.cell? ⟨b, o + 1, none⟩ = some (.int .i64 t.sy)
  k2 : w.cell? ⟨b, o + 2, none⟩ = some (.int .i64 t.nu)
  k3 : w.cell? ⟨b, o + 3, none⟩ = some (.string t.tx)
  k4 : w.cell? ⟨b, o + 4, none⟩ = some (.int .i64 t.tk)
  k5 : w.cell? ⟨b, o + 5, none⟩ = some (.int .i64 t.ts)
  k6 : w.cell? ⟨b, o + 6, none⟩ = some (.string t.tn)
  k7 : w.cell? ⟨b, o + 7, none⟩ = some (.int .i64 t.tu)
  k8 : w.cell? ⟨b, o + 8, none⟩ = some (.slice t.ta t.tl t.tc)
  k9 : w.cell? ⟨b, o + 9, none⟩ = some (.slice t.la t.ll t.lc)
  k10 : w.cell? ⟨b, o + 10, none⟩ = some (.slice t.ka t.kl t.kc)
  k11 : w.cell? ⟨b, o + 11, none⟩ = some (.int .i64 t.at')
theorem BoAt.og {w w' : World} {L b o : Nat} {t : TrC} (h : BoAt w L b o t) (hg : Og L w w') : BoAt w' L b o t :=
  ⟨h.ne, Nat.lt_of_lt_of_le h.lt hg.size, (hg.cell h.lt h.ne).trans h.k0, (hg.cell h.lt h.ne).trans h.k1, (hg.cell h.lt h.ne).trans h.k2, (hg.cell h.lt h.ne).trans h.k3, (hg.cell h.lt h.ne).trans h.k4, (hg.cell h.lt h.ne).trans h.k5, (hg.cell h.lt h.ne).trans h.k6, (hg.cell h.lt h.ne).trans h.k7, (hg.cell h.lt h.ne).trans h.k8, (hg.cell h.lt h.ne).trans h.k9, (hg.cell h.lt h.ne).trans h.k10, (hg.cell h.lt h.ne).trans h.k11⟩
/-- A list of numbers lies there. -/
def NumRow (L : Nat) (w : World) (a : Option Addr) (n : Nat) : Prop := ∀ i, i < n → ∃ (b o : Nat) (z : Int), a = some ⟨b, o, none⟩ ∧ b ≠ L ∧ b < w.heap.size ∧ w.cell? ⟨b, o + i, none⟩ = some (.int .i64 z)
theorem NumRow.og {L : Nat} {w w' : World} (hg : Og L w w') {a : Option Addr} {n : Nat} (h : NumRow L w a n) : NumRow L w' a n := fun i hi => by
  obtain ⟨b, o, z, h1, h2, h3, h4⟩ := h i hi
  exact ⟨b, o, z, h1, h2, Nat.lt_of_lt_of_le h3 hg.size, (hg.cell h3 h2).trans h4⟩
structure ClOk (L : Nat) (w : World) (x : ClC) : Prop where
  nm : x.nm.size ≤ 9223372036854775807
  tp : x.tp.l ≤ 1048576
  pa : x.pa.l ≤ 1048576
  fi : x.fi.l ≤ 1048576
  me : x.me.l ≤ 1048576
  ty : x.ty.l ≤ 1048576
  pr : TyRow (69 + 1) L w x.pr.a x.pr.l
  su : TrRow 69 200 L w x.su.a x.su.l
  it : TrRow 69 200 L w x.it.a x.it.l
  prl : x.pr.l ≤ 1048576
  ntp : NumRow L w x.tp.a x.tp.l
  npa : NumRow L w x.pa.a x.pa.l
  nfi : NumRow L w x.fi.a x.fi.l
  nme : NumRow L w x.me.a x.me.l
  nty : NumRow L w x.ty.a x.ty.l
theorem ClOk.og {L : Nat} {w w' : World} {x : ClC} (h : ClOk L w x) (hg : Og L w w') : ClOk L w' x := ⟨h.nm, h.tp, h.pa, h.fi, h.me, h.ty, TyRow.og hg h.pr, TrRow.og hg h.su, TrRow.og hg h.it, h.prl, h.ntp.og hg, h.npa.og hg, h.nfi.og hg, h.nme.og hg, h.nty.og hg⟩
structure MeOk (L : Nat) (w : World) (x : MeC) : Prop where
  nm : x.nm.size ≤ 9223372036854775807
  tp : x.tp.l ≤ 9223372036854775807
  lo : LoRow L w x.lo.a x.lo.l
  re : x.re.Ok L w
  bo : x.bo = none ∨ ∃ (b o : Nat) (t : TrC), x.bo = some ⟨b, o, none⟩ ∧ BoAt w L b o t ∧ TrOk 69 L w t ∧ TrRow 69 199 L w t.ka t.kl
  tpl : x.tp.l ≤ 1048576
  lol : x.lo.l ≤ 1048576
  ntp : NumRow L w x.tp.a x.tp.l
theorem MeOk.og {L : Nat} {w w' : World} {x : MeC} (h : MeOk L w x) (hg : Og L w w') : MeOk L w' x := ⟨h.nm, h.tp, LoRow.og hg h.lo, h.re.og hg, h.bo.imp id (fun ⟨b, o, t, h1, h2, h3, h4⟩ => ⟨b, o, t, h1, h2.og hg, h3.og hg, TrRow.og hg h4⟩), h.tpl, h.lol, h.ntp.og hg⟩
structure FiOk (L : Nat) (w : World) (x : FiC) : Prop where
  nm : x.nm.size ≤ 9223372036854775807
  ty : x.ty.Ok L w
theorem FiOk.og {L : Nat} {w w' : World} {x : FiC} (h : FiOk L w x) (hg : Og L w w') : FiOk L w' x := ⟨h.nm, h.ty.og hg⟩
structure TpOk (L : Nat) (w : World) (x : TpC) : Prop where
  nm : x.nm.size ≤ 9223372036854775807
  lo : x.lo.Ok L w
  hi : x.hi.Ok L w
theorem TpOk.og {L : Nat} {w w' : World} {x : TpC} (h : TpOk L w x) (hg : Og L w w') : TpOk L w' x := ⟨h.nm, h.lo.og hg, h.hi.og hg⟩
def ClRow (L : Nat) (w : World) (a : Option Addr) (n : Nat) : Prop := n ≤ 9223372036854775807 ∧ ∀ i, i < n → ∃ (b o : Nat) (x : ClC), ClAt w L a i b o x ∧ ClOk L w x
theorem ClRow.og {L : Nat} {w w' : World} (hg : Og L w w') {a : Option Addr} {n : Nat} (h : ClRow L w a n) : ClRow L w' a n := ⟨h.1, fun i hi => by
  obtain ⟨b, o, x, h1, h2⟩ := h.2 i hi
  exact ⟨b, o, x, h1.og hg, h2.og hg⟩⟩
def MeRow (L : Nat) (w : World) (a : Option Addr) (n : Nat) : Prop := n ≤ 9223372036854775807 ∧ ∀ i, i < n → ∃ (b o : Nat) (x : MeC), MeAt w L a i b o x ∧ MeOk L w x
theorem MeRow.og {L : Nat} {w w' : World} (hg : Og L w w') {a : Option Addr} {n : Nat} (h : MeRow L w a n) : MeRow L w' a n := ⟨h.1, fun i hi => by
  obtain ⟨b, o, x, h1, h2⟩ := h.2 i hi
  exact ⟨b, o, x, h1.og hg, h2.og hg⟩⟩
def FiRow (L : Nat) (w : World) (a : Option Addr) (n : Nat) : Prop := n ≤ 9223372036854775807 ∧ ∀ i, i < n → ∃ (b o : Nat) (x : FiC), FiAt w L a i b o x ∧ FiOk L w x
theorem FiRow.og {L : Nat} {w w' : World} (hg : Og L w w') {a : Option Addr} {n : Nat} (h : FiRow L w a n) : FiRow L w' a n := ⟨h.1, fun i hi => by
  obtain ⟨b, o, x, h1, h2⟩ := h.2 i hi
  exact ⟨b, o, x, h1.og hg, h2.og hg⟩⟩
def TpRow (L : Nat) (w : World) (a : Option Addr) (n : Nat) : Prop := n ≤ 9223372036854775807 ∧ ∀ i, i < n → ∃ (b o : Nat) (x : TpC), TpAt w L a i b o x ∧ TpOk L w x
theorem TpRow.og {L : Nat} {w w' : World} (hg : Og L w w') {a : Option Addr} {n : Nat} (h : TpRow L w a n) : TpRow L w' a n := ⟨h.1, fun i hi => by
  obtain ⟨b, o, x, h1, h2⟩ := h.2 i hi
  exact ⟨b, o, x, h1.og hg, h2.og hg⟩⟩

theorem trees_200 {L n c : Nat} {a : Option Addr} {w : World} (h : TrRow 69 200 L w a n) (hl : LB L w) : Calls Tryz.prog 37 #[.slice a n c, .int .i64 1, ptr L] w (TyPost L w) :=
  trees_any 200 1 L a n c w (by omega) (by omega) h hl

theorem trees_one {L s : Nat} {w : World} {t : TrC} (hs : w.heap.size = s) (hl : LB L w) (hok : TrOk 69 L w t) (hk : TrRow 69 199 L w t.ka t.kl) :
    Calls Tryz.prog 37 #[.slice (some ⟨s, 0, none⟩) 1 1, .int .i64 1, ptr L] (w.alloc (.cells #[.int .i64 t.kd, .int .i64 t.sy, .int .i64 t.nu, .string t.tx, .int .i64 t.tk, .int .i64 t.ts, .string t.tn, .int .i64 t.tu, .slice t.ta t.tl t.tc, .slice t.la t.ll t.lc, .slice t.ka t.kl t.kc, .int .i64 t.at'] 72)) (TyPost L (w.alloc (.cells #[.int .i64 t.kd, .int .i64 t.sy, .int .i64 t.nu, .string t.tx, .int .i64 t.tk, .int .i64 t.ts, .string t.tn, .int .i64 t.tu, .slice t.ta t.tl t.tc, .slice t.la t.ll t.lc, .slice t.ka t.kl t.kc, .int .i64 t.at'] 72))) := by
  subst hs
  have hog : Og L w (w.alloc (.cells #[.int .i64 t.kd, .int .i64 t.sy, .int .i64 t.nu, .string t.tx, .int .i64 t.tk, .int .i64 t.ts, .string t.tn, .int .i64 t.tu, .slice t.ta t.tl t.tc, .slice t.la t.ll t.lc, .slice t.ka t.kl t.kc, .int .i64 t.at'] 72)) := (Og.refl L w).alloc _
  have hb : Bl (w.alloc (.cells #[.int .i64 t.kd, .int .i64 t.sy, .int .i64 t.nu, .string t.tx, .int .i64 t.tk, .int .i64 t.ts, .string t.tn, .int .i64 t.tu, .slice t.ta t.tl t.tc, .slice t.la t.ll t.lc, .slice t.ka t.kl t.kc, .int .i64 t.at'] 72)) w.heap.size 72 t.cells := Bl.new w 72 t.cells
  have h : TrRow 69 (199 + 1) L (w.alloc (.cells #[.int .i64 t.kd, .int .i64 t.sy, .int .i64 t.nu, .string t.tx, .int .i64 t.tk, .int .i64 t.ts, .string t.tn, .int .i64 t.tu, .slice t.ta t.tl t.tc, .slice t.la t.ll t.lc, .slice t.ka t.kl t.kc, .int .i64 t.at'] 72)) (some ⟨w.heap.size, 0, none⟩) 1 := by
    refine ⟨by omega, fun i hi => ?_⟩
    obtain rfl : i = 0 := by omega
    exact ⟨w.heap.size, 0, t, ⟨rfl, by have := hl.lt; omega, by simp, hb.cell 0, hb.cell 1, hb.cell 2, hb.cell 3, hb.cell 4, hb.cell 5, hb.cell 6, hb.cell 7, hb.cell 8, hb.cell 9, hb.cell 10, hb.cell 11⟩, hok.og hog, TrRow.og hog hk⟩
  generalize hd : 199 + 1 = d at h
  exact trees_any d 1 L _ 1 1 _ (by omega) (by omega) h (hl.alloc _)
end Go.Proofs.YtjhedehhanaokaaGreatDoor
