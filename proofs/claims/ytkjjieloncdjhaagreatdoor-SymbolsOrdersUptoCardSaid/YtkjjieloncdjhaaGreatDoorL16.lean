/- Classes found by their names. -/
import Derived.Test.YtkjjieloncdjhaaGreatDoorL15
namespace Go.Proofs.YtkjjieloncdjhaaGreatDoor
open Go Go.RowKit

abbrev nmA : ByteArray := ⟨#[65]⟩

theorem pred_0_0 (B1 B2 B3 : Nat) (pa : Value) (w : World) (h1 : w.cell? ⟨B1, 0, none⟩ = some (i64 (-1))) (h2 : w.cell? ⟨B2, 0, none⟩ = some (.string nmA)) (h3 : w.cell? ⟨B3, 0, none⟩ = some (.bool false)) (l1 : B1 < w.heap.size) (l2 : B2 < w.heap.size) (l3 : B3 < w.heap.size) :
    Calls Tryz.prog 42 #[clsV nmA 1 (-1) pa, .pointer (some ⟨B1, 0, none⟩), .pointer (some ⟨B2, 0, none⟩), .pointer (some ⟨B3, 0, none⟩)] w fun e w' => e = .returned (.bool true) ∧ Below w.heap.size w w' := by
  have n1 : ¬ B1 = w.heap.size := by omega
  have n2 : ¬ B2 = w.heap.size := by omega
  have n3 : ¬ B3 = w.heap.size := by omega
  go_enter Tryz.func42, Tryz.ntmps42
  go_wp2_with fail
  go_ret
  exact ⟨rfl, (Below.refl _ _).alloc (Nat.le_refl _) _⟩

theorem pred_1_0 (B1 B2 B3 : Nat) (pa : Value) (w : World) (h1 : w.cell? ⟨B1, 0, none⟩ = some (i64 (-1))) (h2 : w.cell? ⟨B2, 0, none⟩ = some (.string nmB)) (_ : w.cell? ⟨B3, 0, none⟩ = some (.bool true)) (l1 : B1 < w.heap.size) (l2 : B2 < w.heap.size) (l3 : B3 < w.heap.size) :
    Calls Tryz.prog 42 #[clsV nmA 1 (-1) pa, .pointer (some ⟨B1, 0, none⟩), .pointer (some ⟨B2, 0, none⟩), .pointer (some ⟨B3, 0, none⟩)] w fun e w' => e = .returned (.bool false) ∧ Below w.heap.size w w' := by
  have n1 : ¬ B1 = w.heap.size := by omega
  have n2 : ¬ B2 = w.heap.size := by omega
  have n3 : ¬ B3 = w.heap.size := by omega
  go_enter Tryz.func42, Tryz.ntmps42
  go_wp2_with fail
  go_ret
  exact ⟨rfl, (Below.refl _ _).alloc (Nat.le_refl _) _⟩

theorem pred_1_1 (B1 B2 B3 : Nat) (pa : Value) (w : World) (h1 : w.cell? ⟨B1, 0, none⟩ = some (i64 (-1))) (h2 : w.cell? ⟨B2, 0, none⟩ = some (.string nmB)) (h3 : w.cell? ⟨B3, 0, none⟩ = some (.bool true)) (l1 : B1 < w.heap.size) (l2 : B2 < w.heap.size) (l3 : B3 < w.heap.size) :
    Calls Tryz.prog 42 #[clsV nmB 2 (-1) pa, .pointer (some ⟨B1, 0, none⟩), .pointer (some ⟨B2, 0, none⟩), .pointer (some ⟨B3, 0, none⟩)] w fun e w' => e = .returned (.bool true) ∧ Below w.heap.size w w' := by
  have n1 : ¬ B1 = w.heap.size := by omega
  have n2 : ¬ B2 = w.heap.size := by omega
  have n3 : ¬ B3 = w.heap.size := by omega
  go_enter Tryz.func42, Tryz.ntmps42
  go_wp2_with fail
  go_ret
  exact ⟨rfl, (Below.refl _ _).alloc (Nat.le_refl _) _⟩

theorem pred_2_0 (B1 B2 B3 : Nat) (pa : Value) (w : World) (h1 : w.cell? ⟨B1, 0, none⟩ = some (i64 1)) (_ : w.cell? ⟨B2, 0, none⟩ = some (.string nmC)) (_ : w.cell? ⟨B3, 0, none⟩ = some (.bool false)) (l1 : B1 < w.heap.size) (l2 : B2 < w.heap.size) (l3 : B3 < w.heap.size) :
    Calls Tryz.prog 42 #[clsV nmA 1 (-1) pa, .pointer (some ⟨B1, 0, none⟩), .pointer (some ⟨B2, 0, none⟩), .pointer (some ⟨B3, 0, none⟩)] w fun e w' => e = .returned (.bool false) ∧ Below w.heap.size w w' := by
  have n1 : ¬ B1 = w.heap.size := by omega
  have n2 : ¬ B2 = w.heap.size := by omega
  have n3 : ¬ B3 = w.heap.size := by omega
  go_enter Tryz.func42, Tryz.ntmps42
  go_wp2_with fail
  go_ret
  exact ⟨rfl, (Below.refl _ _).alloc (Nat.le_refl _) _⟩

theorem pred_2_1 (B1 B2 B3 : Nat) (pa : Value) (w : World) (h1 : w.cell? ⟨B1, 0, none⟩ = some (i64 1)) (_ : w.cell? ⟨B2, 0, none⟩ = some (.string nmC)) (_ : w.cell? ⟨B3, 0, none⟩ = some (.bool false)) (l1 : B1 < w.heap.size) (l2 : B2 < w.heap.size) (l3 : B3 < w.heap.size) :
    Calls Tryz.prog 42 #[clsV nmB 2 (-1) pa, .pointer (some ⟨B1, 0, none⟩), .pointer (some ⟨B2, 0, none⟩), .pointer (some ⟨B3, 0, none⟩)] w fun e w' => e = .returned (.bool false) ∧ Below w.heap.size w w' := by
  have n1 : ¬ B1 = w.heap.size := by omega
  have n2 : ¬ B2 = w.heap.size := by omega
  have n3 : ¬ B3 = w.heap.size := by omega
  go_enter Tryz.func42, Tryz.ntmps42
  go_wp2_with fail
  go_ret
  exact ⟨rfl, (Below.refl _ _).alloc (Nat.le_refl _) _⟩

theorem pred_2_2 (B1 B2 B3 : Nat) (pa : Value) (w : World) (h1 : w.cell? ⟨B1, 0, none⟩ = some (i64 1)) (h2 : w.cell? ⟨B2, 0, none⟩ = some (.string nmC)) (h3 : w.cell? ⟨B3, 0, none⟩ = some (.bool false)) (l1 : B1 < w.heap.size) (l2 : B2 < w.heap.size) (l3 : B3 < w.heap.size) :
    Calls Tryz.prog 42 #[clsV nmC 0 1 pa, .pointer (some ⟨B1, 0, none⟩), .pointer (some ⟨B2, 0, none⟩), .pointer (some ⟨B3, 0, none⟩)] w fun e w' => e = .returned (.bool true) ∧ Below w.heap.size w w' := by
  have n1 : ¬ B1 = w.heap.size := by omega
  have n2 : ¬ B2 = w.heap.size := by omega
  have n3 : ¬ B3 = w.heap.size := by omega
  go_enter Tryz.func42, Tryz.ntmps42
  go_wp2_with fail
  go_ret
  exact ⟨rfl, (Below.refl _ _).alloc (Nat.le_refl _) _⟩

set_option maxRecDepth 100000 in
set_option maxHeartbeats 2000000 in
theorem index_0 (b c pa pb pc B1 B2 B3 : Nat) (w : World) (h : PW w b nmA pa pb pc) (e1 : w.cell? ⟨B1, 0, none⟩ = some (i64 (-1))) (e2 : w.cell? ⟨B2, 0, none⟩ = some (.string nmA)) (e3 : w.cell? ⟨B3, 0, none⟩ = some (.bool false)) (l1 : B1 < w.heap.size) (l2 : B2 < w.heap.size) (l3 : B3 < w.heap.size) :
    Calls Tryz.prog 41 #[.slice (some ⟨b, 0, none⟩) 3 c, .func (.func 42) #[] #[.pointer (some ⟨B1, 0, none⟩), .pointer (some ⟨B2, 0, none⟩), .pointer (some ⟨B3, 0, none⟩)]] w fun e w' => e = .returned (i64 0) ∧ Below w.heap.size w w' := by
  have H := Lib.hid h
  have K1 := Lib.hid e1
  have K2 := Lib.hid e2
  have K3 := Lib.hid e3
  obtain ⟨h0, h1, h2, h3, h4, h5, h6, h7, h8, h9, h10, h11, h12⟩ := h.c0
  have BE := Lib.hid (Below.refl w.heap.size w)
  have HS := Lib.hid (Nat.le_refl w.heap.size)
  clear h e1 e2 e3
  go_enter Tryz.func41, Tryz.ntmps41
  go_wp2_with fail
  refine wp_loop_rounds 1 ?_
  rw [rounds_succ]
  go_wp2_with fail
  refine (pred_0_0 B1 B2 B3 _ _ ((BE.out.cell (p := ⟨B1, 0, none⟩) l1).trans K1.out) ((BE.out.cell (p := ⟨B2, 0, none⟩) l2).trans K2.out) ((BE.out.cell (p := ⟨B3, 0, none⟩) l3).trans K3.out) (Nat.lt_of_lt_of_le l1 HS.out) (Nat.lt_of_lt_of_le l2 HS.out) (Nat.lt_of_lt_of_le l3 HS.out)).mono ?_
  rintro e w1 ⟨rfl, hB⟩
  have BE' := Lib.hid (BE.out.trans (hB.mono HS.out))
  clear BE h0 h1 h2 h3 h4 h5 h6 h7 h8 h9 h10 h11 h12
  have BE := BE'
  clear BE'
  have HS' := Lib.hid (Nat.le_trans HS.out hB.size)
  clear HS hB
  have HS := HS'
  clear HS'
  go_wp2_with fail
  go_ret
  exact ⟨rfl, BE.out⟩

set_option maxRecDepth 100000 in
set_option maxHeartbeats 2000000 in
theorem index_1 (b c pa pb pc B1 B2 B3 : Nat) (w : World) (h : PW w b nmA pa pb pc) (e1 : w.cell? ⟨B1, 0, none⟩ = some (i64 (-1))) (e2 : w.cell? ⟨B2, 0, none⟩ = some (.string nmB)) (e3 : w.cell? ⟨B3, 0, none⟩ = some (.bool true)) (l1 : B1 < w.heap.size) (l2 : B2 < w.heap.size) (l3 : B3 < w.heap.size) :
    Calls Tryz.prog 41 #[.slice (some ⟨b, 0, none⟩) 3 c, .func (.func 42) #[] #[.pointer (some ⟨B1, 0, none⟩), .pointer (some ⟨B2, 0, none⟩), .pointer (some ⟨B3, 0, none⟩)]] w fun e w' => e = .returned (i64 1) ∧ Below w.heap.size w w' := by
  have H := Lib.hid h
  have K1 := Lib.hid e1
  have K2 := Lib.hid e2
  have K3 := Lib.hid e3
  obtain ⟨h0, h1, h2, h3, h4, h5, h6, h7, h8, h9, h10, h11, h12⟩ := h.c0
  have BE := Lib.hid (Below.refl w.heap.size w)
  have HS := Lib.hid (Nat.le_refl w.heap.size)
  clear h e1 e2 e3
  go_enter Tryz.func41, Tryz.ntmps41
  go_wp2_with fail
  refine wp_loop_rounds 2 ?_
  rw [rounds_succ]
  go_wp2_with fail
  refine (pred_1_0 B1 B2 B3 _ _ ((BE.out.cell (p := ⟨B1, 0, none⟩) l1).trans K1.out) ((BE.out.cell (p := ⟨B2, 0, none⟩) l2).trans K2.out) ((BE.out.cell (p := ⟨B3, 0, none⟩) l3).trans K3.out) (Nat.lt_of_lt_of_le l1 HS.out) (Nat.lt_of_lt_of_le l2 HS.out) (Nat.lt_of_lt_of_le l3 HS.out)).mono ?_
  rintro e w1 ⟨rfl, hB⟩
  have BE' := Lib.hid (BE.out.trans (hB.mono HS.out))
  clear BE h0 h1 h2 h3 h4 h5 h6 h7 h8 h9 h10 h11 h12
  have BE := BE'
  clear BE'
  have HS' := Lib.hid (Nat.le_trans HS.out hB.size)
  clear HS hB
  have HS := HS'
  clear HS'
  obtain ⟨h0, h1, h2, h3, h4, h5, h6, h7, h8, h9, h10, h11, h12⟩ := (H.out.below BE.out).c1
  go_wp2_with fail
  rw [rounds_succ]
  go_wp2_with fail
  refine (pred_1_1 B1 B2 B3 _ _ ((BE.out.cell (p := ⟨B1, 0, none⟩) l1).trans K1.out) ((BE.out.cell (p := ⟨B2, 0, none⟩) l2).trans K2.out) ((BE.out.cell (p := ⟨B3, 0, none⟩) l3).trans K3.out) (Nat.lt_of_lt_of_le l1 HS.out) (Nat.lt_of_lt_of_le l2 HS.out) (Nat.lt_of_lt_of_le l3 HS.out)).mono ?_
  rintro e w2 ⟨rfl, hB⟩
  have BE' := Lib.hid (BE.out.trans (hB.mono HS.out))
  clear BE h0 h1 h2 h3 h4 h5 h6 h7 h8 h9 h10 h11 h12
  have BE := BE'
  clear BE'
  have HS' := Lib.hid (Nat.le_trans HS.out hB.size)
  clear HS hB
  have HS := HS'
  clear HS'
  go_wp2_with fail
  go_ret
  exact ⟨rfl, BE.out⟩

set_option maxRecDepth 100000 in
set_option maxHeartbeats 2000000 in
theorem index_2 (b c pa pb pc B1 B2 B3 : Nat) (w : World) (h : PW w b nmA pa pb pc) (e1 : w.cell? ⟨B1, 0, none⟩ = some (i64 1)) (e2 : w.cell? ⟨B2, 0, none⟩ = some (.string nmC)) (e3 : w.cell? ⟨B3, 0, none⟩ = some (.bool false)) (l1 : B1 < w.heap.size) (l2 : B2 < w.heap.size) (l3 : B3 < w.heap.size) :
    Calls Tryz.prog 41 #[.slice (some ⟨b, 0, none⟩) 3 c, .func (.func 42) #[] #[.pointer (some ⟨B1, 0, none⟩), .pointer (some ⟨B2, 0, none⟩), .pointer (some ⟨B3, 0, none⟩)]] w fun e w' => e = .returned (i64 2) ∧ Below w.heap.size w w' := by
  have H := Lib.hid h
  have K1 := Lib.hid e1
  have K2 := Lib.hid e2
  have K3 := Lib.hid e3
  obtain ⟨h0, h1, h2, h3, h4, h5, h6, h7, h8, h9, h10, h11, h12⟩ := h.c0
  have BE := Lib.hid (Below.refl w.heap.size w)
  have HS := Lib.hid (Nat.le_refl w.heap.size)
  clear h e1 e2 e3
  go_enter Tryz.func41, Tryz.ntmps41
  go_wp2_with fail
  refine wp_loop_rounds 3 ?_
  rw [rounds_succ]
  go_wp2_with fail
  refine (pred_2_0 B1 B2 B3 _ _ ((BE.out.cell (p := ⟨B1, 0, none⟩) l1).trans K1.out) ((BE.out.cell (p := ⟨B2, 0, none⟩) l2).trans K2.out) ((BE.out.cell (p := ⟨B3, 0, none⟩) l3).trans K3.out) (Nat.lt_of_lt_of_le l1 HS.out) (Nat.lt_of_lt_of_le l2 HS.out) (Nat.lt_of_lt_of_le l3 HS.out)).mono ?_
  rintro e w1 ⟨rfl, hB⟩
  have BE' := Lib.hid (BE.out.trans (hB.mono HS.out))
  clear BE h0 h1 h2 h3 h4 h5 h6 h7 h8 h9 h10 h11 h12
  have BE := BE'
  clear BE'
  have HS' := Lib.hid (Nat.le_trans HS.out hB.size)
  clear HS hB
  have HS := HS'
  clear HS'
  obtain ⟨h0, h1, h2, h3, h4, h5, h6, h7, h8, h9, h10, h11, h12⟩ := (H.out.below BE.out).c1
  go_wp2_with fail
  rw [rounds_succ]
  go_wp2_with fail
  refine (pred_2_1 B1 B2 B3 _ _ ((BE.out.cell (p := ⟨B1, 0, none⟩) l1).trans K1.out) ((BE.out.cell (p := ⟨B2, 0, none⟩) l2).trans K2.out) ((BE.out.cell (p := ⟨B3, 0, none⟩) l3).trans K3.out) (Nat.lt_of_lt_of_le l1 HS.out) (Nat.lt_of_lt_of_le l2 HS.out) (Nat.lt_of_lt_of_le l3 HS.out)).mono ?_
  rintro e w2 ⟨rfl, hB⟩
  have BE' := Lib.hid (BE.out.trans (hB.mono HS.out))
  clear BE h0 h1 h2 h3 h4 h5 h6 h7 h8 h9 h10 h11 h12
  have BE := BE'
  clear BE'
  have HS' := Lib.hid (Nat.le_trans HS.out hB.size)
  clear HS hB
  have HS := HS'
  clear HS'
  obtain ⟨h0, h1, h2, h3, h4, h5, h6, h7, h8, h9, h10, h11, h12⟩ := (H.out.below BE.out).c2
  go_wp2_with fail
  rw [rounds_succ]
  go_wp2_with fail
  refine (pred_2_2 B1 B2 B3 _ _ ((BE.out.cell (p := ⟨B1, 0, none⟩) l1).trans K1.out) ((BE.out.cell (p := ⟨B2, 0, none⟩) l2).trans K2.out) ((BE.out.cell (p := ⟨B3, 0, none⟩) l3).trans K3.out) (Nat.lt_of_lt_of_le l1 HS.out) (Nat.lt_of_lt_of_le l2 HS.out) (Nat.lt_of_lt_of_le l3 HS.out)).mono ?_
  rintro e w3 ⟨rfl, hB⟩
  have BE' := Lib.hid (BE.out.trans (hB.mono HS.out))
  clear BE h0 h1 h2 h3 h4 h5 h6 h7 h8 h9 h10 h11 h12
  have BE := BE'
  clear BE'
  have HS' := Lib.hid (Nat.le_trans HS.out hB.size)
  clear HS hB
  have HS := HS'
  clear HS'
  go_wp2_with fail
  go_ret
  exact ⟨rfl, BE.out⟩

end Go.Proofs.YtkjjieloncdjhaaGreatDoor
