/- Lists of types in memory, to a depth; IndexFunc over them. -/
import Derived.Test.YtjhedehhanaokaaGreatDoorL8
namespace Go.Proofs.YtjhedehhanaokaaGreatDoor
open Go Go.RowKit

/-- The element i of a list of types at this place. -/
structure TyAt (w : World) (L : Nat) (a : Option Addr) (i : Nat) (b o : Nat) (kd sy nu : Int) (nm : ByteArray) (a' : Option Addr) (n' c' : Nat) : Prop where
  ad : a = some ⟨b, o, none⟩
  ne : b ≠ L
  lt : b < w.heap.size
  k0 : w.cell? ⟨b, o + i * 5, none⟩ = some (.int .i64 kd)
  k1 : w.cell? ⟨b, o + i * 5 + 1, none⟩ = some (.int .i64 sy)
  k2 : w.cell? ⟨b, o + i * 5 + 2, none⟩ = some (.string nm)
  k3 : w.cell? ⟨b, o + i * 5 + 3, none⟩ = some (.int .i64 nu)
  k4 : w.cell? ⟨b, o + i * 5 + 4, none⟩ = some (.slice a' n' c')

/-- A list of n types lies there, to a depth, and not in block L. -/
def TyRow : Nat → Nat → World → Option Addr → Nat → Prop
  | 0, _, _, _, _ => True
  | d + 1, L, w, a, n => n ≤ 9223372036854775807 ∧ ∀ i, i < n → ∃ (b o : Nat) (kd sy nu : Int) (nm : ByteArray) (a' : Option Addr) (n' c' : Nat),
      TyAt w L a i b o kd sy nu nm a' n' c' ∧ nm.size ≤ 9223372036854775807 ∧ TyRow d L w a' n'

theorem TyAt.og {w w' : World} {L : Nat} {a : Option Addr} {i b o : Nat} {kd sy nu : Int} {nm : ByteArray} {a' : Option Addr} {n' c' : Nat} (h : TyAt w L a i b o kd sy nu nm a' n' c') (hg : Og L w w') : TyAt w' L a i b o kd sy nu nm a' n' c' :=
  ⟨h.ad, h.ne, Nat.lt_of_lt_of_le h.lt hg.size, (hg.cell h.lt h.ne).trans h.k0, (hg.cell h.lt h.ne).trans h.k1, (hg.cell h.lt h.ne).trans h.k2, (hg.cell h.lt h.ne).trans h.k3, (hg.cell h.lt h.ne).trans h.k4⟩

theorem TyRow.og {L : Nat} {w w' : World} (hg : Og L w w') : ∀ {d : Nat} {a : Option Addr} {n : Nat}, TyRow d L w a n → TyRow d L w' a n
  | 0, _, _, _ => trivial
  | d + 1, a, n, h => ⟨h.1, fun i hi => by
      obtain ⟨b, o, kd, sy, nu, nm, a', n', c', h1, h2, h3⟩ := h.2 i hi
      exact ⟨b, o, kd, sy, nu, nm, a', n', c', h1.og hg, h2, TyRow.og hg h3⟩⟩

abbrev ptr (b : Nat) : Value := .pointer (some ⟨b, 0, none⟩)
abbrev tyV (kd sy nu : Int) (nm : ByteArray) (a : Option Addr) (n c : Nat) : Value := .agg #[.int .i64 kd, .int .i64 sy, .string nm, .int .i64 nu, .slice a n c]

set_option maxHeartbeats 1000000 in
theorem idx_ty (p q L : Nat) (R : World → Prop) (a : Option Addr) (n c : Nat) (w : World) (hn : n ≤ 9223372036854775807) (h0 : R w)
    (hs : ∀ W i, R W → i < n → ∃ (b o : Nat) (kd sy nu : Int) (nm : ByteArray) (a' : Option Addr) (n' c' : Nat), TyAt W L a i b o kd sy nu nm a' n' c' ∧
      Calls Tryz.prog 69 #[tyV kd sy nu nm a' n' c', ptr p, ptr q] W fun e W' => (∃ r, e = .returned (.bool r)) ∧ R W') :
    Calls Tryz.prog 110 #[.slice a n c, .func (.func 69) #[] #[ptr p, ptr q]] w fun e W' => (∃ z : Int, e = .returned (.int .i64 z)) ∧ R W' := by
  have HS := Lib.hid hs
  have H0 := Lib.hid h0
  clear hs h0
  go_enter Tryz.func110, Tryz.ntmps110
  go_wp2_with fail
  go_loopw [8] (fun i wr => ∃ k : Nat, k ≤ n ∧ i = .int .i64 k ∧ R wr) (fun i _ => n - (intOf i).toNat)
  case atStart => exact ⟨0, by omega, rfl, H0.out⟩
  case round =>
    obtain ⟨k, hk, rfl, hR⟩ := hrel
    by_cases hlt : k < n
    · obtain ⟨b, o, kd, sy, nu, nm, a', n', c', ⟨rfl, ne, lt, k0, k1, k2, k3, k4⟩, hC⟩ := HS.out wr k hR hlt
      have HC := Lib.hid hC
      clear hC hR
      go_wp2_with fail
      refine HC.out.mono ?_
      rintro e w1 ⟨⟨r, rfl⟩, hR⟩
      cases r
      · go_wp2_with fail
        go_roundw
        case rel => exact ⟨k + 1, by omega, by go_num, hR⟩
        case measure => simp [intOf]; omega
      · go_wp2_with fail
        go_ret
        exact ⟨⟨_, rfl⟩, hR⟩
    · have hkn : k = n := by omega
      subst hkn
      have HR := Lib.hid hR
      clear hR
      go_wp2_with fail
      go_ret
      exact ⟨⟨_, rfl⟩, HR.out⟩
end Go.Proofs.YtjhedehhanaokaaGreatDoor
