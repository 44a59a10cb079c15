/- Lists of trees in memory, to a depth; IndexFunc over them. -/
import Derived.Test.YtkjjieloncdjhaaGreatDoorF4
namespace Go.Proofs.YtkjjieloncdjhaaGreatDoor
open Go Go.RowKit

/-- What a tree's own twelve cells hold. -/
structure TrC where
  kd : Int
  sy : Int
  nu : Int
  tx : ByteArray
  tk : Int
  ts : Int
  tn : ByteArray
  tu : Int
  ta : Option Addr
  tl : Nat
  tc : Nat
  la : Option Addr
  ll : Nat
  lc : Nat
  ka : Option Addr
  kl : Nat
  kc : Nat
  at' : Int
abbrev TrC.cells (x : TrC) : List Value := [.int .i64 x.kd, .int .i64 x.sy, .int .i64 x.nu, .string x.tx, .int .i64 x.tk, .int .i64 x.ts, .string x.tn, .int .i64 x.tu, .slice x.ta x.tl x.tc, .slice x.la x.ll x.lc, .slice x.ka x.kl x.kc, .int .i64 x.at']
abbrev TrC.val (x : TrC) : Value := .agg #[.int .i64 x.kd, .int .i64 x.sy, .int .i64 x.nu, .string x.tx, .int .i64 x.tk, .int .i64 x.ts, .string x.tn, .int .i64 x.tu, .slice x.ta x.tl x.tc, .slice x.la x.ll x.lc, .slice x.ka x.kl x.kc, .int .i64 x.at']

/-- The element i of a list of trees at this place. -/
structure TrAt (w : World) (L : Nat) (a : Option Addr) (i : Nat) (b o : Nat) (x : TrC) : Prop where
  ad : a = some ⟨b, o, none⟩
  ne : b ≠ L
  lt : b < w.heap.size
  k0 : w.cell? ⟨b, o + i * 12, none⟩ = some (.int .i64 x.kd)
  k1 : w.cell? ⟨b, o + i * 12 + 1, none⟩ = some (.int .i64 x.sy)
  k2 : w.cell? ⟨b, o + i * 12 + 2, none⟩ = some (.int .i64 x.nu)
  k3 : w.cell? ⟨b, o + i * 12 + 3, none⟩ = some (.string x.tx)
  k4 : w.cell? ⟨b, o + i * 12 + 4, none⟩ = some (.int .i64 x.tk)
  k5 : w.cell? ⟨b, o + i * 12 + 5, none⟩ = some (.int .i64 x.ts)
  k6 : w.cell? ⟨b, o + i * 12 + 6, none⟩ = some (.string x.tn)
  k7 : w.cell? ⟨b, o + i * 12 + 7, none⟩ = some (.int .i64 x.tu)
  k8 : w.cell? ⟨b, o + i * 12 + 8, none⟩ = some (.slice x.ta x.tl x.tc)
  k9 : w.cell? ⟨b, o + i * 12 + 9, none⟩ = some (.slice x.la x.ll x.lc)
  k10 : w.cell? ⟨b, o + i * 12 + 10, none⟩ = some (.slice x.ka x.kl x.kc)
  k11 : w.cell? ⟨b, o + i * 12 + 11, none⟩ = some (.int .i64 x.at')

/-- What a tree's own lists are like; dt: 69, a depth of types. -/
structure TrOk (dt L : Nat) (w : World) (x : TrC) : Prop where
  tx : x.tx.size ≤ 9223372036854775807
  tn : x.tn.size ≤ 9223372036854775807
  ta : TyRow dt L w x.ta x.tl
  la : TyRow (dt + 1) L w x.la x.ll
  ll : x.ll ≤ 1048576
  nil : x.la = none → x.lc = 0

/-- A list of n trees lies there, to a depth, and not in block L. -/
def TrRow (dt : Nat) : Nat → Nat → World → Option Addr → Nat → Prop
  | 0, _, _, _, _ => True
  | d + 1, L, w, a, n => n ≤ 9223372036854775807 ∧ ∀ i, i < n → ∃ (b o : Nat) (x : TrC), TrAt w L a i b o x ∧ TrOk dt L w x ∧ TrRow dt d L w x.ka x.kl

theorem TrAt.og {w w' : World} {L : Nat} {a : Option Addr} {i b o : Nat} {x : TrC} (h : TrAt w L a i b o x) (hg : Og L w w') : TrAt w' L a i b o x :=
  ⟨h.ad, h.ne, Nat.lt_of_lt_of_le h.lt hg.size, (hg.cell h.lt h.ne).trans h.k0, (hg.cell h.lt h.ne).trans h.k1, (hg.cell h.lt h.ne).trans h.k2, (hg.cell h.lt h.ne).trans h.k3, (hg.cell h.lt h.ne).trans h.k4, (hg.cell h.lt h.ne).trans h.k5,
    (hg.cell h.lt h.ne).trans h.k6, (hg.cell h.lt h.ne).trans h.k7, (hg.cell h.lt h.ne).trans h.k8, (hg.cell h.lt h.ne).trans h.k9, (hg.cell h.lt h.ne).trans h.k10, (hg.cell h.lt h.ne).trans h.k11⟩
theorem TrOk.og {dt L : Nat} {w w' : World} {x : TrC} (h : TrOk dt L w x) (hg : Og L w w') : TrOk dt L w' x := ⟨h.tx, h.tn, TyRow.og hg h.ta, TyRow.og hg h.la, h.ll, h.nil⟩

theorem TrRow.og {dt L : Nat} {w w' : World} (hg : Og L w w') : ∀ {d : Nat} {a : Option Addr} {n : Nat}, TrRow dt d L w a n → TrRow dt d L w' a n
  | 0, _, _, _ => trivial
  | _ + 1, _, _, h => ⟨h.1, fun i hi => by
      obtain ⟨b, o, x, h1, h2, h3⟩ := h.2 i hi
      exact ⟨b, o, x, h1.og hg, h2.og hg, TrRow.og hg h3⟩⟩

set_option maxHeartbeats 1000000 in
theorem idx_tr (p q L : Nat) (R : World → Prop) (a : Option Addr) (n c : Nat) (w : World) (hn : n ≤ 9223372036854775807) (h0 : R w)
    (hs : ∀ W i, R W → i < n → ∃ (b o : Nat) (x : TrC), TrAt W L a i b o x ∧ Calls Tryz.prog 71 #[x.val, ptr p, ptr q] W fun e W' => BoolEnd e ∧ R W') :
    Calls Tryz.prog 111 #[.slice a n c, .func (.func 71) #[] #[ptr p, ptr q]] w fun e W' => (∃ z : Int, e = .returned (.int .i64 z)) ∧ R W' := by
  have HS := Lib.hid hs
  have H0 := Lib.hid h0
  clear hs h0
  go_enter Tryz.func111, Tryz.ntmps111
  go_wp2_with fail
  go_loopw [8] (fun i wr => ∃ k : Nat, k ≤ n ∧ i = .int .i64 k ∧ R wr) (fun i _ => n - (intOf i).toNat)
  case atStart => exact ⟨0, by omega, rfl, H0.out⟩
  case round =>
    obtain ⟨k, hk, rfl, hR⟩ := hrel
    by_cases hlt : k < n
    · obtain ⟨b, o, x, ⟨rfl, ne, lt, k0, k1, k2, k3, k4, k5, k6, k7, k8, k9, k10, k11⟩, hC⟩ := HS.out wr k hR hlt
      have HC := Lib.hid hC
      clear hC hR
      go_wp2_with fail
      refine HC.out.mono ?_
      rintro e w1 ⟨⟨r, rfl⟩, hR⟩
      cases r
      · go_wp2_with fail
        go_roundw
        case rel => exact ⟨k + 1, by omega, by go_num, hR⟩
        case measure => simp [intOf]; omega
      · go_wp2_with fail
        go_ret
        exact ⟨⟨_, rfl⟩, hR⟩
    · have hkn : k = n := by omega
      subst hkn
      have HR := Lib.hid hR
      clear hR
      go_wp2_with fail
      go_ret
      exact ⟨⟨_, rfl⟩, HR.out⟩

set_option maxHeartbeats 1000000 in
theorem contains_tr (p q L : Nat) (R : World → Prop) (a : Option Addr) (n c : Nat) (w : World) (hn : n ≤ 9223372036854775807) (h0 : R w)
    (hs : ∀ W i, R W → i < n → ∃ (b o : Nat) (x : TrC), TrAt W L a i b o x ∧ Calls Tryz.prog 71 #[x.val, ptr p, ptr q] W fun e W' => BoolEnd e ∧ R W') :
    Calls Tryz.prog 70 #[.slice a n c, .func (.func 71) #[] #[ptr p, ptr q]] w fun e W' => BoolEnd e ∧ R W' := by
  have HX := Lib.hid (idx_tr p q L R a n c w hn h0 hs)
  clear hs h0
  go_enter Tryz.func70, Tryz.ntmps70
  go_wp2_with fail
  refine HX.out.mono ?_
  rintro e w1 ⟨⟨z, rfl⟩, hR⟩
  have HR := Lib.hid hR
  clear hR HX
  go_wp2_with fail
  go_ret
  exact ⟨⟨_, rfl⟩, HR.out⟩
end Go.Proofs.YtkjjieloncdjhaaGreatDoor
