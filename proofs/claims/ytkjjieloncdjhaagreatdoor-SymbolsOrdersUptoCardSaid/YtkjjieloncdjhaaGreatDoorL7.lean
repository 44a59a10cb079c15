/- The check of a class. -/
import Derived.Test.YtkjjieloncdjhaaGreatDoorL2
import Derived.Test.YtkjjieloncdjhaaGreatDoorL5
namespace Go.Proofs.YtkjjieloncdjhaaGreatDoor
open Go Go.RowKit

/-- A call that has boxed a program and a class: the first two blocks since w0. -/
structure Fr (w0 w : World) (P C : List Value) : Prop where
  size : w0.heap.size + 2 ≤ w.heap.size
  bp : Bl w w0.heap.size 30 P
  bc : Bl w (w0.heap.size + 1) 37 C
  be : Below w0.heap.size w0 w

section
variable {w0 w w' : World} {P C : List Value}
theorem Fr.start (w0 : World) (P C : List Value) : Fr w0 ((w0.alloc (.cells P.toArray 30)).alloc (.cells C.toArray 37)) P C := by
  have h : (w0.alloc (.cells P.toArray 30)).heap.size = w0.heap.size + 1 := by simp
  refine ⟨by simp, (Bl.new w0 30 P).alloc _, ?_, ((Below.refl _ _).alloc (Nat.le_refl _) _).alloc (by simp) _⟩
  rw [← h]
  exact Bl.new _ 37 C
theorem Fr.below (h : Fr w0 w P C) (hB : Below w.heap.size w w') : Fr w0 w' P C :=
  ⟨Nat.le_trans h.size hB.size, h.bp.below hB (by have := h.size; omega), h.bc.below hB (by have := h.size; omega), h.be.trans (hB.mono (by have := h.size; omega))⟩
theorem Fr.alloc (h : Fr w0 w P C) (o : Obj) : Fr w0 (w.alloc o) P C := h.below ((Below.refl _ _).alloc (Nat.le_refl _) _)
theorem Fr.drewN (h : Fr w0 w P C) (n : Nat) : Fr w0 (w.drewN n) P C := ⟨h.size, h.bp.drewN n, h.bc.drewN n, ⟨h.be.os, h.be.tape, h.be.output, h.be.size, h.be.block⟩⟩
end
theorem Bl.six {w : World} {g t : Nat} {a0 a1 a2 a3 a4 a5 : Value} (h : Bl w g t [a0, a1, a2, a3, a4, a5]) :
    w.cell? ⟨g, 0, none⟩ = some a0 ∧ w.cell? ⟨g, 1, none⟩ = some a1 ∧ w.cell? ⟨g, 2, none⟩ = some a2 ∧ w.cell? ⟨g, 3, none⟩ = some a3 ∧ w.cell? ⟨g, 4, none⟩ = some a4 ∧ w.cell? ⟨g, 5, none⟩ = some a5 :=
  ⟨h.cell 0, h.cell 1, h.cell 2, h.cell 3, h.cell 4, h.cell 5⟩
theorem Bl.thirteen {w : World} {g t : Nat} {a0 a1 a2 a3 a4 a5 a6 a7 a8 a9 a10 a11 a12 : Value} (h : Bl w g t [a0, a1, a2, a3, a4, a5, a6, a7, a8, a9, a10, a11, a12]) :
    w.cell? ⟨g, 0, none⟩ = some a0 ∧ w.cell? ⟨g, 1, none⟩ = some a1 ∧ w.cell? ⟨g, 2, none⟩ = some a2 ∧ w.cell? ⟨g, 3, none⟩ = some a3 ∧ w.cell? ⟨g, 4, none⟩ = some a4 ∧ w.cell? ⟨g, 5, none⟩ = some a5 ∧
    w.cell? ⟨g, 6, none⟩ = some a6 ∧ w.cell? ⟨g, 7, none⟩ = some a7 ∧ w.cell? ⟨g, 8, none⟩ = some a8 ∧ w.cell? ⟨g, 9, none⟩ = some a9 ∧ w.cell? ⟨g, 10, none⟩ = some a10 ∧ w.cell? ⟨g, 11, none⟩ = some a11 ∧ w.cell? ⟨g, 12, none⟩ = some a12 :=
  ⟨h.cell 0, h.cell 1, h.cell 2, h.cell 3, h.cell 4, h.cell 5, h.cell 6, h.cell 7, h.cell 8, h.cell 9, h.cell 10, h.cell 11, h.cell 12⟩

abbrev prgL (b c : Nat) : List Value := [.slice (some ⟨b, 0, none⟩) 3 c, nilS, nilS, nilS, nilS, i64 (-1)]
abbrev clsL (nm : ByteArray) (kd ow : Int) (pa : Value) : List Value := [.string nm, i64 kd, i64 0, i64 ow, nilS, pa, nilS, nilS, nilS, nilS, nilS, nilS, i64 0]

theorem name_true (nm : ByteArray) (w : World) (hs : nm.size ≤ 100000) (h : nameF nm = true) : Calls Tryz.prog 11 #[.string nm] w fun e w' => e = .returned (.bool true) ∧ Below w.heap.size w w' := by
  rw [← h]; exact isName_any nm w hs
theorem name_false (nm : ByteArray) (w : World) (hs : nm.size ≤ 100000) (h : nameF nm = false) : Calls Tryz.prog 11 #[.string nm] w fun e w' => e = .returned (.bool false) ∧ Below w.heap.size w w' := by
  rw [← h]; exact isName_any nm w hs

theorem five_nil (w : World) : ∀ j, j < 5 → (w.alloc (.cells #[nilS, nilS, nilS, nilS, nilS] 33)).cell? ⟨w.heap.size, j, none⟩ = some nilS := by
  intro j hj
  have h := (Bl.new w 33 [nilS, nilS, nilS, nilS, nilS]).cell j
  rw [h]
  match j, hj with
  | 0, _ => rfl
  | 1, _ => rfl
  | 2, _ => rfl
  | 3, _ => rfl
  | 4, _ => rfl

set_option maxRecDepth 100000 in
set_option maxHeartbeats 4000000 in
theorem checkClass_0 (b c pa pb pc : Nat) (nm : ByteArray) (w : World) (h : PW w b nm pa pb pc) (hn : nameF nm = true) (hs : nm.size ≤ 100000) : Calls Tryz.prog 88 #[prgV b c, i64 0] w fun e w' => e = .returned (i64 0) ∧ Below w.heap.size w w' := by
  have H := Lib.hid h
  obtain ⟨h0, h1, h2, h3, h4, h5, h6, h7, h8, h9, h10, h11, h12⟩ := h.c0
  have hb := h.hb
  have hne : ¬ b = w.heap.size := by omega
  have HN := Lib.hid (fun W => name_true nm W hs hn)
  clear hn hs
  clear h
  go_enter Tryz.func88, Tryz.ntmps88
  go_wp2_with fail
  refine (HN.out _).mono ?_
  rintro e w1 ⟨rfl, hB⟩
  have F1 := Lib.hid ((Fr.start w (prgL b c) (clsL nm 1 (-1) (sl pa 1))).below hB)
  clear hB h0 h1 h2 h3 h4 h5 h6 h7 h8 h9 h10 h11 h12 hb hne
  obtain ⟨p0, p1, p2, p3, p4, p5⟩ := F1.out.bp.six
  obtain ⟨c0, c1, c2, c3, c4, c5, c6, c7, c8, c9, c10, c11, c12⟩ := F1.out.bc.thirteen
  go_wp2_with fail
  refine (keepsFlags_any nm 1 (-1) (sl pa 1) _ (by omega)).mono ?_
  rintro e w2 ⟨rfl, hB⟩
  have F2 := Lib.hid (F1.out.below hB)
  clear hB F1 p0 p1 p2 p3 p4 p5 c0 c1 c2 c3 c4 c5 c6 c7 c8 c9 c10 c11 c12
  obtain ⟨p0, p1, p2, p3, p4, p5⟩ := F2.out.bp.six
  obtain ⟨c0, c1, c2, c3, c4, c5, c6, c7, c8, c9, c10, c11, c12⟩ := F2.out.bc.thirteen
  go_wp2_with fail
  refine (existLists_any b c nm 1 (-1) (sl pa 1) _).mono ?_
  rintro e w3 ⟨rfl, hB⟩
  have F3 := Lib.hid (F2.out.below hB)
  clear hB F2 p0 p1 p2 p3 p4 p5 c0 c1 c2 c3 c4 c5 c6 c7 c8 c9 c10 c11 c12
  obtain ⟨p0, p1, p2, p3, p4, p5⟩ := F3.out.bp.six
  obtain ⟨c0, c1, c2, c3, c4, c5, c6, c7, c8, c9, c10, c11, c12⟩ := F3.out.bc.thirteen
  go_wp2_with fail
  refine (twice_any _ _ (by simp) (five_nil _)).mono ?_
  rintro e w4 ⟨rfl, hB⟩
  have F4 := Lib.hid ((F3.out.alloc _).below hB)
  clear hB F3 p0 p1 p2 p3 p4 p5 c0 c1 c2 c3 c4 c5 c6 c7 c8 c9 c10 c11 c12
  obtain ⟨p0, p1, p2, p3, p4, p5⟩ := F4.out.bp.six
  obtain ⟨c0, c1, c2, c3, c4, c5, c6, c7, c8, c9, c10, c11, c12⟩ := F4.out.bc.thirteen
  go_wp2_with fail
  refine (keepsNumbers_any nm 1 (-1) (sl pa 1) _ (by omega)).mono ?_
  rintro e w5 ⟨rfl, hB⟩
  have F5 := Lib.hid (F4.out.below hB)
  clear hB F4 p0 p1 p2 p3 p4 p5 c0 c1 c2 c3 c4 c5 c6 c7 c8 c9 c10 c11 c12
  obtain ⟨p0, p1, p2, p3, p4, p5⟩ := F5.out.bp.six
  obtain ⟨c0, c1, c2, c3, c4, c5, c6, c7, c8, c9, c10, c11, c12⟩ := F5.out.bc.thirteen
  go_wp2_with fail
  refine (ownsLists_0 b c pa pb pc nm _ (H.out.below F5.out.be)).mono ?_
  rintro e w6 ⟨rfl, hB⟩
  have F6 := Lib.hid (F5.out.below hB)
  clear hB F5 p0 p1 p2 p3 p4 p5 c0 c1 c2 c3 c4 c5 c6 c7 c8 c9 c10 c11 c12
  obtain ⟨p0, p1, p2, p3, p4, p5⟩ := F6.out.bp.six
  obtain ⟨c0, c1, c2, c3, c4, c5, c6, c7, c8, c9, c10, c11, c12⟩ := F6.out.bc.thirteen
  go_wp2_with fail
  refine (keepsValue_any nm 1 (-1) (sl pa 1) _).mono ?_
  rintro e w7 ⟨rfl, hB⟩
  have F7 := Lib.hid (F6.out.below hB)
  clear hB F6 p0 p1 p2 p3 p4 p5 c0 c1 c2 c3 c4 c5 c6 c7 c8 c9 c10 c11 c12
  obtain ⟨p0, p1, p2, p3, p4, p5⟩ := F7.out.bp.six
  obtain ⟨c0, c1, c2, c3, c4, c5, c6, c7, c8, c9, c10, c11, c12⟩ := F7.out.bc.thirteen
  go_wp2_with fail
  go_ret
  exact ⟨rfl, F7.out.be⟩

set_option maxRecDepth 100000 in
set_option maxHeartbeats 4000000 in
theorem checkClass_1 (b c pa pb pc : Nat) (nm : ByteArray) (w : World) (h : PW w b nm pa pb pc) : Calls Tryz.prog 88 #[prgV b c, i64 1] w fun e w' => e = .returned (i64 0) ∧ Below w.heap.size w w' := by
  have H := Lib.hid h
  obtain ⟨h0, h1, h2, h3, h4, h5, h6, h7, h8, h9, h10, h11, h12⟩ := h.c1
  have hb := h.hb
  have hne : ¬ b = w.heap.size := by omega
  clear h
  go_enter Tryz.func88, Tryz.ntmps88
  go_wp2_with fail
  refine (name_true nmB _ (by decide) (by decide +kernel)).mono ?_
  rintro e w1 ⟨rfl, hB⟩
  have F1 := Lib.hid ((Fr.start w (prgL b c) (clsL nmB 2 (-1) (sl pb 2))).below hB)
  clear hB h0 h1 h2 h3 h4 h5 h6 h7 h8 h9 h10 h11 h12 hb hne
  obtain ⟨p0, p1, p2, p3, p4, p5⟩ := F1.out.bp.six
  obtain ⟨c0, c1, c2, c3, c4, c5, c6, c7, c8, c9, c10, c11, c12⟩ := F1.out.bc.thirteen
  go_wp2_with fail
  refine (keepsFlags_any nmB 2 (-1) (sl pb 2) _ (by omega)).mono ?_
  rintro e w2 ⟨rfl, hB⟩
  have F2 := Lib.hid (F1.out.below hB)
  clear hB F1 p0 p1 p2 p3 p4 p5 c0 c1 c2 c3 c4 c5 c6 c7 c8 c9 c10 c11 c12
  obtain ⟨p0, p1, p2, p3, p4, p5⟩ := F2.out.bp.six
  obtain ⟨c0, c1, c2, c3, c4, c5, c6, c7, c8, c9, c10, c11, c12⟩ := F2.out.bc.thirteen
  go_wp2_with fail
  refine (existLists_any b c nmB 2 (-1) (sl pb 2) _).mono ?_
  rintro e w3 ⟨rfl, hB⟩
  have F3 := Lib.hid (F2.out.below hB)
  clear hB F2 p0 p1 p2 p3 p4 p5 c0 c1 c2 c3 c4 c5 c6 c7 c8 c9 c10 c11 c12
  obtain ⟨p0, p1, p2, p3, p4, p5⟩ := F3.out.bp.six
  obtain ⟨c0, c1, c2, c3, c4, c5, c6, c7, c8, c9, c10, c11, c12⟩ := F3.out.bc.thirteen
  go_wp2_with fail
  refine (twice_any _ _ (by simp) (five_nil _)).mono ?_
  rintro e w4 ⟨rfl, hB⟩
  have F4 := Lib.hid ((F3.out.alloc _).below hB)
  clear hB F3 p0 p1 p2 p3 p4 p5 c0 c1 c2 c3 c4 c5 c6 c7 c8 c9 c10 c11 c12
  obtain ⟨p0, p1, p2, p3, p4, p5⟩ := F4.out.bp.six
  obtain ⟨c0, c1, c2, c3, c4, c5, c6, c7, c8, c9, c10, c11, c12⟩ := F4.out.bc.thirteen
  go_wp2_with fail
  refine (keepsNumbers_any nmB 2 (-1) (sl pb 2) _ (by omega)).mono ?_
  rintro e w5 ⟨rfl, hB⟩
  have F5 := Lib.hid (F4.out.below hB)
  clear hB F4 p0 p1 p2 p3 p4 p5 c0 c1 c2 c3 c4 c5 c6 c7 c8 c9 c10 c11 c12
  obtain ⟨p0, p1, p2, p3, p4, p5⟩ := F5.out.bp.six
  obtain ⟨c0, c1, c2, c3, c4, c5, c6, c7, c8, c9, c10, c11, c12⟩ := F5.out.bc.thirteen
  go_wp2_with fail
  refine (ownsLists_1 b c pa pb pc nm _ (H.out.below F5.out.be)).mono ?_
  rintro e w6 ⟨rfl, hB⟩
  have F6 := Lib.hid (F5.out.below hB)
  clear hB F5 p0 p1 p2 p3 p4 p5 c0 c1 c2 c3 c4 c5 c6 c7 c8 c9 c10 c11 c12
  obtain ⟨p0, p1, p2, p3, p4, p5⟩ := F6.out.bp.six
  obtain ⟨c0, c1, c2, c3, c4, c5, c6, c7, c8, c9, c10, c11, c12⟩ := F6.out.bc.thirteen
  go_wp2_with fail
  refine (keepsValue_any nmB 2 (-1) (sl pb 2) _).mono ?_
  rintro e w7 ⟨rfl, hB⟩
  have F7 := Lib.hid (F6.out.below hB)
  clear hB F6 p0 p1 p2 p3 p4 p5 c0 c1 c2 c3 c4 c5 c6 c7 c8 c9 c10 c11 c12
  obtain ⟨p0, p1, p2, p3, p4, p5⟩ := F7.out.bp.six
  obtain ⟨c0, c1, c2, c3, c4, c5, c6, c7, c8, c9, c10, c11, c12⟩ := F7.out.bc.thirteen
  go_wp2_with fail
  go_ret
  exact ⟨rfl, F7.out.be⟩

set_option maxRecDepth 100000 in
set_option maxHeartbeats 4000000 in
theorem checkClass_2 (b c pa pb pc : Nat) (nm : ByteArray) (w : World) (h : PW w b nm pa pb pc) : Calls Tryz.prog 88 #[prgV b c, i64 2] w fun e w' => e = .returned (i64 0) ∧ Below w.heap.size w w' := by
  have H := Lib.hid h
  obtain ⟨h0, h1, h2, h3, h4, h5, h6, h7, h8, h9, h10, h11, h12⟩ := h.c2
  have hb := h.hb
  have hne : ¬ b = w.heap.size := by omega
  clear h
  go_enter Tryz.func88, Tryz.ntmps88
  go_wp2_with fail
  refine (name_true nmC _ (by decide) (by decide +kernel)).mono ?_
  rintro e w1 ⟨rfl, hB⟩
  have F1 := Lib.hid ((Fr.start w (prgL b c) (clsL nmC 0 1 (sl pc 1))).below hB)
  clear hB h0 h1 h2 h3 h4 h5 h6 h7 h8 h9 h10 h11 h12 hb hne
  obtain ⟨p0, p1, p2, p3, p4, p5⟩ := F1.out.bp.six
  obtain ⟨c0, c1, c2, c3, c4, c5, c6, c7, c8, c9, c10, c11, c12⟩ := F1.out.bc.thirteen
  go_wp2_with fail
  refine (keepsFlags_any nmC 0 1 (sl pc 1) _ (by omega)).mono ?_
  rintro e w2 ⟨rfl, hB⟩
  have F2 := Lib.hid (F1.out.below hB)
  clear hB F1 p0 p1 p2 p3 p4 p5 c0 c1 c2 c3 c4 c5 c6 c7 c8 c9 c10 c11 c12
  obtain ⟨p0, p1, p2, p3, p4, p5⟩ := F2.out.bp.six
  obtain ⟨c0, c1, c2, c3, c4, c5, c6, c7, c8, c9, c10, c11, c12⟩ := F2.out.bc.thirteen
  go_wp2_with fail
  refine (exists_any _ _ _ _ _).mono ?_
  rintro e w9 ⟨rfl, rfl⟩
  go_wp2_with fail
  refine (existLists_any b c nmC 0 1 (sl pc 1) _).mono ?_
  rintro e w3 ⟨rfl, hB⟩
  have F3 := Lib.hid (F2.out.below hB)
  clear hB F2 p0 p1 p2 p3 p4 p5 c0 c1 c2 c3 c4 c5 c6 c7 c8 c9 c10 c11 c12
  obtain ⟨p0, p1, p2, p3, p4, p5⟩ := F3.out.bp.six
  obtain ⟨c0, c1, c2, c3, c4, c5, c6, c7, c8, c9, c10, c11, c12⟩ := F3.out.bc.thirteen
  go_wp2_with fail
  refine (twice_any _ _ (by simp) (five_nil _)).mono ?_
  rintro e w4 ⟨rfl, hB⟩
  have F4 := Lib.hid ((F3.out.alloc _).below hB)
  clear hB F3 p0 p1 p2 p3 p4 p5 c0 c1 c2 c3 c4 c5 c6 c7 c8 c9 c10 c11 c12
  obtain ⟨p0, p1, p2, p3, p4, p5⟩ := F4.out.bp.six
  obtain ⟨c0, c1, c2, c3, c4, c5, c6, c7, c8, c9, c10, c11, c12⟩ := F4.out.bc.thirteen
  go_wp2_with fail
  refine (keepsNumbers_any nmC 0 1 (sl pc 1) _ (by omega)).mono ?_
  rintro e w5 ⟨rfl, hB⟩
  have F5 := Lib.hid (F4.out.below hB)
  clear hB F4 p0 p1 p2 p3 p4 p5 c0 c1 c2 c3 c4 c5 c6 c7 c8 c9 c10 c11 c12
  obtain ⟨p0, p1, p2, p3, p4, p5⟩ := F5.out.bp.six
  obtain ⟨c0, c1, c2, c3, c4, c5, c6, c7, c8, c9, c10, c11, c12⟩ := F5.out.bc.thirteen
  go_wp2_with fail
  refine (ownsLists_2 b c pa pb pc nm _ (H.out.below F5.out.be)).mono ?_
  rintro e w6 ⟨rfl, hB⟩
  have F6 := Lib.hid (F5.out.below hB)
  clear hB F5 p0 p1 p2 p3 p4 p5 c0 c1 c2 c3 c4 c5 c6 c7 c8 c9 c10 c11 c12
  obtain ⟨p0, p1, p2, p3, p4, p5⟩ := F6.out.bp.six
  obtain ⟨c0, c1, c2, c3, c4, c5, c6, c7, c8, c9, c10, c11, c12⟩ := F6.out.bc.thirteen
  go_wp2_with fail
  refine (keepsValue_any nmC 0 1 (sl pc 1) _).mono ?_
  rintro e w7 ⟨rfl, hB⟩
  have F7 := Lib.hid (F6.out.below hB)
  clear hB F6 p0 p1 p2 p3 p4 p5 c0 c1 c2 c3 c4 c5 c6 c7 c8 c9 c10 c11 c12
  obtain ⟨p0, p1, p2, p3, p4, p5⟩ := F7.out.bp.six
  obtain ⟨c0, c1, c2, c3, c4, c5, c6, c7, c8, c9, c10, c11, c12⟩ := F7.out.bc.thirteen
  go_wp2_with fail
  go_ret
  exact ⟨rfl, F7.out.be⟩

set_option maxRecDepth 100000 in
set_option maxHeartbeats 4000000 in
theorem checkClass_bad (b c pa pb pc : Nat) (w : World) (h : PW w b ⟨#[]⟩ pa pb pc) : Calls Tryz.prog 88 #[prgV b c, i64 0] w fun e w' => e = .returned (i64 21) ∧ Below w.heap.size w w' := by
  obtain ⟨h0, h1, h2, h3, h4, h5, h6, h7, h8, h9, h10, h11, h12⟩ := h.c0
  have hb := h.hb
  have hne : ¬ b = w.heap.size := by omega
  clear h
  go_enter Tryz.func88, Tryz.ntmps88
  go_wp2_with fail
  refine (name_false ⟨#[]⟩ _ (by decide) (by decide +kernel)).mono ?_
  rintro e w1 ⟨rfl, hB⟩
  have F1 := Lib.hid ((Fr.start w (prgL b c) (clsL ⟨#[]⟩ 1 (-1) (sl pa 1))).below hB)
  clear hB h0 h1 h2 h3 h4 h5 h6 h7 h8 h9 h10 h11 h12 hb hne
  go_wp2_with fail
  go_ret
  exact ⟨rfl, F1.out.be⟩
end Go.Proofs.YtkjjieloncdjhaaGreatDoor
