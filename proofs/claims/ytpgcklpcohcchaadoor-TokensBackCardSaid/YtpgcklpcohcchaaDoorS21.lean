/- The statements' own guard: the chapter's second example. -/
import Derived.Test.YtpgcklpcohcchaaDoorS19
import Derived.Test.YtpgcklpcohcchaaDoorS20
namespace Go.Proofs.YtpgcklpcohcchaaDoor
open Go Go.RowKit

def awT : ByteArray := ⟨#[100, 101, 102, 32, 102, 32, 61, 10, 32, 32, 97, 10, 32, 32, 98, 10, 103]⟩
def awK : List Nat := [1, 0, 3, 12, 0, 11, 0, 13, 11, 0, 14]
def kindsOf : Except (Nat × Nat) (List Tok) → List Nat
  | .ok l => l.map Tok.kind
  | .error _ => []
theorem awake_kinds : kindsOf (scanF awT) = awK := by decide +kernel
theorem awake_ok : ∃ l, scanF awT = .ok l ∧ l.map Tok.kind = awK := by
  have h := awake_kinds
  cases hs : scanF awT with
  | error f => rw [hs] at h; cases h
  | ok l => rw [hs] at h; exact ⟨l, rfl, h⟩

theorem Tab.pos {w : World} (h : Tab w) : 0 < w.heap.size := World.block_lt_of_cell? w _ (h 0 (by decide))
theorem KX.toBelow {B : Nat} {w w' : World} (h : KX (fun b => b < B) w w') : Below B w w' := ⟨h.os, h.tape, h.output, h.size, fun k hk => h.block k hk⟩
theorem Tab.below {w w' : World} (h : Tab w) (hb : Below w.heap.size w w') : Tab w' := fun i hi => (hb.cell (p := ⟨0, i, none⟩) h.pos).trans (h i hi)

/-- Scan, for a caller that keeps all that there was. -/
theorem scan_below (w : World) (s : ByteArray) (htb : Tab w) : Calls Tryd.prog 9 #[.string s] w (LayRes (fun b => b < w.heap.size) w (scanF s)) :=
  scan_any _ w s (fun _ h => h) htb htb.pos

theorem aw_get {l : List Tok} (hk : l.map Tok.kind = awK) (k : Nat) (h : k < 11) : ∃ t, l[k]? = some t ∧ t.kind = awK.getD k 0 := by
  have hl : l.length = 11 := by have := congrArg List.length hk; simpa [awK] using this
  refine ⟨l[k]'(by omega), List.getElem?_eq_getElem (by omega), ?_⟩
  have := congrArg (·[k]?) hk
  simp only [List.getElem?_map, List.getElem?_eq_getElem (show k < l.length by omega), Option.map_some] at this
  rw [List.getD_eq_getElem?_getD, ← this]
  rfl

set_option maxRecDepth 100000 in
set_option maxHeartbeats 3200000 in
theorem awake_any (w : World) (htb : Tab w) : Calls Tryd.prog 6 #[] w fun e w' => e = .returned (.bool true) ∧ Below w.heap.size w w' := by
  obtain ⟨l, hs, hk⟩ := awake_ok
  have hl : l.length = 11 := by have := congrArg List.length hk; simpa [awK] using this
  have cs := scan_below w awT htb
  rw [hs] at cs
  unfold awT at cs
  have CS := Lib.hid cs
  have HK := Lib.hid hk
  have HL := Lib.hid hl
  clear cs hs hk hl
  go_enter Tryd.func6, Tryd.ntmps6
  go_wp2_with fail
  refine CS.out.mono ?_
  rintro e w2 ⟨v, rfl, o2, k2, x2⟩
  have O2 := Lib.hid o2
  have K2 := Lib.hid k2.toBelow
  clear CS o2 k2 x2 htb
  obtain ⟨g, cap, hv, hg2⟩ : ∃ g cap, v = .slice (some ⟨g, 0, none⟩) 11 cap ∧ g < w2.heap.size := by
    have := O2.out
    rw [HL.out] at this
    obtain ⟨g, cap, e, _, hg⟩ := this.form (by omega)
    exact ⟨g, cap, e, hg⟩
  subst hv
  go_simp
  go_wp2_with fail
  have hb := ((Below.refl w2.heap.size w2).alloc (Nat.le_refl _) (.cells #[.int .i64 0, .int .i64 0] 26)).alloc (by simp) (.cells #[.int .i64 1, .int .i64 0, .int .i64 3, .int .i64 12, .int .i64 0, .int .i64 11, .int .i64 0, .int .i64 13, .int .i64 11, .int .i64 0, .int .i64 14] 3)
  have hkb : Bl ((w2.alloc (.cells #[.int .i64 0, .int .i64 0] 26)).alloc (.cells #[.int .i64 1, .int .i64 0, .int .i64 3, .int .i64 12, .int .i64 0, .int .i64 11, .int .i64 0, .int .i64 13, .int .i64 11, .int .i64 0, .int .i64 14] 3)) (w2.heap.size + 1) 3 (awK.map fun (n : Nat) => Value.int .i64 (n : Int)) := by
    have := Bl.new (w2.alloc (.cells #[.int .i64 0, .int .i64 0] 26)) 3 [.int .i64 1, .int .i64 0, .int .i64 3, .int .i64 12, .int .i64 0, .int .i64 11, .int .i64 0, .int .i64 13, .int .i64 11, .int .i64 0, .int .i64 14]
    simpa [awK] using this
  generalize (w2.alloc (.cells #[.int .i64 0, .int .i64 0] 26)).alloc (.cells #[.int .i64 1, .int .i64 0, .int .i64 3, .int .i64 12, .int .i64 0, .int .i64 11, .int .i64 0, .int .i64 13, .int .i64 11, .int .i64 0, .int .i64 14] 3) = W at *
  have ck : ∀ k : Nat, k < 11 → W.cell? ⟨w2.heap.size + 1, k, none⟩ = some (.int .i64 (awK.getD k 0 : Nat)) := fun k h => by
    rw [hkb.cell k, List.getElem?_map, List.getD_eq_getElem?_getD, List.getElem?_eq_getElem (show k < awK.length from h)]
    rfl
  have ct : ∀ k : Nat, k < 11 → W.cell? ⟨g, k * 5, none⟩ = some (.int .i64 (awK.getD k 0 : Nat)) := fun k h => by
    obtain ⟨t, ht, hkd⟩ := aw_get HK.out k h
    have o3 := row_keep O2.out hb
    rw [HL.out] at o3
    have hl2 : l.length = 11 := HL.out
    rw [o3.cellAt (k * 5) (by omega), ← hkd]
    exact tcs_get l k 0 t ht (by omega)
  have CK := Lib.hid ck
  have CT := Lib.hid ct
  have HB := Lib.hid hb
  have hsz : W.heap.size > w2.heap.size + 1 := hkb.lt
  clear ck ct hb hkb
  generalize w2.heap.size + 1 = kb at *
  go_loopg [23] 11 (fun gh s23 wr => ∃ k : Nat, k + gh = 11 ∧ .int .i64 (k : Int) = s23 ∧ W = wr)
  case atStart => exact ⟨0, rfl, rfl, rfl⟩
  case round =>
    obtain ⟨k, hk, rfl, rfl⟩ := hrel
    by_cases hlt : k < 11
    · obtain ⟨g', rfl⟩ : ∃ g', gk = g' + 1 := ⟨gk - 1, by omega⟩
      have c1 := CK.out k hlt
      have c2 := CT.out k hlt
      generalize awK.getD k 0 = z at *
      have q1 : (k : Int) < 11 := by omega
      go_wp2_with fail
      go_roundg g'
      case rel => exact ⟨k + 1, by omega, by go_num, rfl⟩
      case measure => omega
    · have hk' : k = 11 := by omega
      subst hk'
      go_wp2_with fail
      go_ret
      exact ⟨rfl, K2.out.trans (HB.out.mono K2.out.size)⟩
end Go.Proofs.YtpgcklpcohcchaaDoor
