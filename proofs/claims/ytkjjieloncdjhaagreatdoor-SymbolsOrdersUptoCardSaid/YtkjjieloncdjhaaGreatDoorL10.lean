/- The checks of nesting and of parents. -/
import Derived.Test.YtkjjieloncdjhaaGreatDoorL7
import Derived.Test.YtkjjieloncdjhaaGreatDoorL9
import Derived.Test.YtkjjieloncdjhaaGreatDoorG2
import Derived.Deep.RegionWith
import Derived.Deep.RegionHeld3
namespace Go.Proofs.YtkjjieloncdjhaaGreatDoor
open Go Go.RowKit

/-- Blocks that a call has made, the first ones since w0. -/
structure Frs (w0 w : World) (L : List (TypeId × List Value)) : Prop where
  size : w0.heap.size + L.length ≤ w.heap.size
  bl : ∀ i t l, L[i]? = some (t, l) → Bl w (w0.heap.size + i) t l
  be : Below w0.heap.size w0 w
theorem Frs.nil (w0 : World) : Frs w0 w0 [] := ⟨by simp, fun i t l h => by simp at h, Below.refl _ _⟩
theorem Frs.snoc {w0 w : World} {L : List (TypeId × List Value)} (h : Frs w0 w L) (hs : w.heap.size = w0.heap.size + L.length) (t : TypeId) (l : List Value) : Frs w0 (w.alloc (.cells l.toArray t)) (L ++ [(t, l)]) := by
  refine ⟨by simp; omega, fun i t' l' hi => ?_, h.be.alloc (by omega) _⟩
  by_cases hlt : i < L.length
  · rw [List.getElem?_append_left hlt] at hi
    exact (h.bl i t' l' hi).alloc _
  · have hi2 : i = L.length := by
      have := (List.getElem?_eq_some_iff.1 hi).1
      simp at this
      omega
    subst hi2
    simp at hi
    obtain ⟨rfl, rfl⟩ := hi
    rw [← hs]
    exact Bl.new w t l
theorem Frs.below {w0 w w' : World} {L : List (TypeId × List Value)} (h : Frs w0 w L) (hB : Below w.heap.size w w') : Frs w0 w' L :=
  ⟨Nat.le_trans h.size hB.size, fun i t l hi => (h.bl i t l hi).below hB (by
    have := (List.getElem?_eq_some_iff.1 hi).1
    have := h.size
    omega), h.be.trans (hB.mono (by have := h.size; omega))⟩
theorem Frs.alloc {w0 w : World} {L : List (TypeId × List Value)} (h : Frs w0 w L) (o : Obj) : Frs w0 (w.alloc o) L := h.below ((Below.refl _ _).alloc (Nat.le_refl _) _)
theorem Frs.drewN {w0 w : World} {L : List (TypeId × List Value)} (h : Frs w0 w L) (n : Nat) : Frs w0 (w.drewN n) L := ⟨h.size, fun i t l hi => (h.bl i t l hi).drewN n, ⟨h.be.os, h.be.tape, h.be.output, h.be.size, h.be.block⟩⟩

theorem PW.ows {w : World} {b pa pb pc : Nat} {nm : ByteArray} (h : PW w b nm pa pb pc) : Ows w w.heap.size b [-1, -1, 1] := by
  refine ⟨h.hb, fun i hi => ?_⟩
  match i, hi with
  | 0, _ => exact h.k0 3 _ rfl
  | 1, _ => exact h.k1 3 _ rfl
  | 2, _ => exact h.k2 3 _ rfl

theorem checkNesting_i (i : Int) (hi : decide (i ∈ chain [-1, -1, 1] 3 i) = false) (b c pa pb pc : Nat) (nm : ByteArray) (w : World) (h : PW w b nm pa pb pc) : Calls Tryz.prog 89 #[prgV b c, i64 i] w fun e w' => e = .returned (i64 0) ∧ Below w.heap.size w w' := by
  have H := Lib.hid h
  have C := Lib.hid (fun W (hW : Ows W W.heap.size b [-1, -1, 1]) => Inside_any b c [-1, -1, 1] i i nilS nilS nilS nilS (i64 (-1)) (by decide) W hW)
  clear h
  change Hid (∀ W, Ows W W.heap.size b [-1, -1, 1] → Calls Tryz.prog 24 _ W fun e W' => e = .returned (.bool (decide (i ∈ chain [-1, -1, 1] 3 i))) ∧ _) at C
  rw [hi] at C
  clear hi
  go_enter Tryz.func89, Tryz.ntmps89
  go_wp2_with fail
  refine (C.out _ (H.out.alloc _).ows).mono ?_
  rintro e w1 ⟨rfl, hB⟩
  go_wp2_with fail
  go_ret
  exact ⟨rfl, ((Below.refl _ _).alloc (Nat.le_refl _) _).trans (hB.mono (by simp))⟩

theorem fitsPlace_1 (w : World) (nm nm' : ByteArray) (kd ow ow' : Int) (pa pa' : Value) : Calls Tryz.prog 177 #[clsV nm kd ow pa, clsV nm' 1 ow' pa', i64 1] w fun e w' => e = .returned (.bool true) ∧ Below w.heap.size w w' := by
  go_enter Tryz.func177, Tryz.ntmps177
  go_wp2_with fail
  go_ret
  exact ⟨rfl, ((Below.refl _ _).alloc (Nat.le_refl _) _).alloc (by simp) _⟩

theorem exists_is (A : Option Addr) (n c : Nat) (i : Int) (r : Bool) (h : decide (0 ≤ i ∧ i < (n : Int)) = r) (w : World) : Calls Tryz.prog 43 #[.slice A n c, .int .i64 i] w fun e w' => e = .returned (.bool r) ∧ w = w' := by
  rw [← h]; exact exists_any A n c i w
theorem has_not (b : Int) (h : bits BinOp.and IntKind.i64 0 b = 0) (w : World) : Calls Tryz.prog 101 #[.int .i64 0, .int .i64 b] w fun e w' => e = .returned (.bool false) ∧ w = w' := by
  rw [← hasF_zero b h]; exact has_any 0 b w

abbrev tyAny : Ty := ⟨1, 0, ⟨#[]⟩, 0, none, 0, 0⟩
theorem PW.tys1 {w : World} {b pa pb pc : Nat} {nm : ByteArray} (h : PW w b nm pa pb pc) : Tys w w.heap.size pb 0 [tyAny] := by
  refine ⟨h.hbb, fun k t ht => ?_⟩
  match k, ht with
  | 0, ht =>
    obtain ⟨t0, t1, t2, t3, t4, t5, t6, t7, t8, t9⟩ := h.pb
    simp at ht
    subst ht
    exact ⟨t0, t1, t2, t3, t4⟩
theorem own_zero {w : World} {base : Nat} {e : TypeId} {v : Value} (h : w.ownsRow base e 1 v 0 []) : ∃ A c, v = .slice A 0 c := by
  rcases h.2 with ⟨rfl, _⟩ | ⟨g, cap, cur, rfl, _⟩
  · exact ⟨_, _, rfl⟩
  · exact ⟨_, _, rfl⟩
theorem par_none (A : Option Addr) (n c : Nat) (ts : List Ty) (w : World) (hl : n = ts.length) (hn : n ≤ 1048576) (h : 0 < n → ∃ g o, A = some ⟨g, o, none⟩ ∧ Tys w w.heap.size g o ts) (hs : symsOf ts = []) :
    Calls Tryz.prog 48 #[.slice A n c] w fun e w' => ∃ A' c', e = .returned (.slice A' 0 c') ∧ Below w.heap.size w w' := by
  refine (parentsOf_any A n c ts w hl hn h).mono ?_
  rintro e w' ⟨v, rfl, ho, hB⟩
  rw [hs] at ho
  obtain ⟨A', c', rfl⟩ := own_zero ho
  exact ⟨A', c', rfl, hB⟩
theorem contains_nil (A : Option Addr) (c : Nat) (x : Int) (w : World) : Calls Tryz.prog 31 #[.slice A 0 c, .int .i64 x] w fun e w' => e = .returned (.bool false) ∧ w = w' := by
  have := contains_any A 0 c [] x w (by omega) ⟨rfl, fun h => absurd h (by omega)⟩
  simpa using this

set_option maxRecDepth 100000 in
set_option maxHeartbeats 4000000 in
theorem checkParent_1 (b c pa pb pc : Nat) (nm : ByteArray) (w : World) (h : PW w b nm pa pb pc) : Calls Tryz.prog 142 #[prgV b c, i64 1, i64 1] w fun e w' => e = .returned (i64 0) ∧ Below w.heap.size w w' := by
  have H := Lib.hid h
  obtain ⟨h0, h1, h2, h3, h4, h5, h6, h7, h8, h9, h10, h11, h12⟩ := h.c1
  obtain ⟨g0, g1, g2, g3, g4, g5, g6, g7, g8, g9, g10, g11, g12⟩ := h.c0
  obtain ⟨t0, t1, t2, t3, t4, t5, t6, t7, t8, t9⟩ := h.pb
  have hb := h.hb
  have hbb := h.hbb
  have hne : ¬ b = w.heap.size := by omega
  have hne1 : ¬ b = w.heap.size + 1 := by omega
  have hne2 : ¬ b = w.heap.size + 1 + 1 := by omega
  have hne3 : ¬ b = w.heap.size + 2 := by omega
  have hlt0 : b < w.heap.size + 1 + 1 := by omega
  have hlt1 : b < w.heap.size + 1 := by omega
  have hnb : ¬ pb = w.heap.size := by omega
  have hnb1 : ¬ pb = w.heap.size + 1 := by omega
  clear h
  go_enter Tryz.func142, Tryz.ntmps142
  go_wp2_with fail
  refine (exists_is _ 3 _ _ true (by decide) _).mono ?_
  rintro e w' ⟨rfl, rfl⟩
  go_wp2_with fail
  refine (fitsPlace_1 _ _ _ _ _ _ _ _).mono ?_
  rintro e w1 ⟨rfl, hB⟩
  have F := Lib.hid ((((((Frs.nil w).snoc (by simp) 30 (prgL b c)).snoc (by simp) 37 (clsL nmB 2 (-1) (sl pb 2))).snoc (by simp) 59 [i64 10, i64 0, .string ⟨#[]⟩, i64 0, nilS]).snoc (by simp) 37 (clsL nm 1 (-1) (sl pa 1))).below hB)
  change Hid (Frs w w1 [(30, prgL b c), (37, clsL nmB 2 (-1) (sl pb 2)), (59, [i64 10, i64 0, .string ⟨#[]⟩, i64 0, nilS]), (37, clsL nm 1 (-1) (sl pa 1))]) at F
  clear hB h0 h1 h2 h3 h4 h5 h6 h7 h8 h9 h10 h11 h12 g0 g1 g2 g3 g4 g5 g6 g7 g8 g9 g10 g11 g12 t0 t1 t2 t3 t4 t5 t6 t7 t8 t9
  have x2 : w1.cell? ⟨w.heap.size + 1, 2, none⟩ = some (i64 0) := (F.out.bl 1 _ _ rfl).cell 2
  have x5 : w1.cell? ⟨w.heap.size + 1, 5, none⟩ = some (sl pb 2) := (F.out.bl 1 _ _ rfl).cell 5
  have y1 : w1.cell? ⟨w.heap.size + 1 + 1, 1, none⟩ = some (i64 0) := (F.out.bl 2 _ _ rfl).cell 1
  have y4 : w1.cell? ⟨w.heap.size + 1 + 1, 4, none⟩ = some nilS := (F.out.bl 2 _ _ rfl).cell 4
  have z2 : w1.cell? ⟨w.heap.size + 1 + 1 + 1, 2, none⟩ = some (i64 0) := (F.out.bl 3 _ _ rfl).cell 2
  have z4 : w1.cell? ⟨w.heap.size + 1 + 1 + 1, 4, none⟩ = some nilS := (F.out.bl 3 _ _ rfl).cell 4
  go_upto_region 14 with (go_at_call 101; refine (has_not _ (by decide) _).mono ?_; rintro e w' ⟨rfl, rfl⟩)
  go_cut [53] from 54 to 61 (fun v wx => v = .bool false ∧ Frs w wx [(30, prgL b c), (37, clsL nmB 2 (-1) (sl pb 2)), (59, [i64 10, i64 0, .string ⟨#[]⟩, i64 0, nilS]), (37, clsL nm 1 (-1) (sl pa 1))])
  case first =>
    clear hne hne1 hne2 hne3 hlt0 hlt1 hnb hnb1 hb hbb
    have HT := Lib.hid (show Tys w1.drew w1.drew.heap.size pb 0 [tyAny] from (H.out.below F.out.be).drew.tys1)
    have FD := Lib.hid (show Frs w w1.drew _ from F.out.drewN 1)
    go_region_with (first
      | (go_at_call 48; refine (par_none _ 1 _ [tyAny] _ rfl (by omega) (fun _ => ⟨pb, 0, rfl, HT.out⟩) rfl).mono ?_; rintro e w2 ⟨A', c', rfl, hB⟩; have F2 := Lib.hid (FD.out.below hB); clear hB; have y1' : w2.cell? ⟨w.heap.size + 1 + 1, 1, none⟩ = some (i64 0) := (F2.out.bl 2 _ _ rfl).cell 1)
      | (go_at_call 31; refine (contains_nil _ _ _ _).mono ?_; rintro e w' ⟨rfl, rfl⟩))
    all_goals (go_wp2_with fail; go_meet; exact ⟨rfl, F2.out⟩)
  case rest =>
    obtain ⟨rfl, FR⟩ := hcut
    have F3 := Lib.hid FR
    clear FR F x2 x5 y1 y4 z2 z4
    have x2 : wc.cell? ⟨w.heap.size + 1, 2, none⟩ = some (i64 0) := (F3.out.bl 1 _ _ rfl).cell 2
    go_wp2_with (go_at_call 101; refine (has_not _ (by decide) _).mono ?_; rintro e w' ⟨rfl, rfl⟩)
    go_ret
    exact ⟨rfl, F3.out.be⟩
end Go.Proofs.YtkjjieloncdjhaaGreatDoor
