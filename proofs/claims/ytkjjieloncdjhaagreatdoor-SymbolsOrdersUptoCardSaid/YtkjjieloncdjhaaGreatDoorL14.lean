/- The ancestors of three classes. -/
import Derived.Test.YtkjjieloncdjhaaGreatDoorL13
import Derived.Test.YtkjjieloncdjhaaGreatDoorH2
namespace Go.Proofs.YtkjjieloncdjhaaGreatDoor
open Go Go.RowKit Go.Sort

theorem below_grow (w : World) (n : Nat) (os : Array Obj) : Below w.heap.size w (grow (Sort.ahead w n) os) := by
  refine ⟨rfl, rfl, rfl, by simp [grow, Sort.ahead], fun k hk => ?_⟩
  show (w.heap ++ os)[k]? = w.heap[k]?
  rw [Array.getElem?_append_left hk]

theorem sort_one (g c : Nat) (x : Int) (w : World) (hc : w.cell? ⟨g, 0, none⟩ = some (.int .i64 x)) (hf : w.frozen? ⟨g, 0, none⟩ = false) (hg : g < w.heap.size) :
    Calls Tryz.prog 51 #[.slice (some ⟨g, 0, none⟩) 1 c] w fun e w' => e = .returned (.tuple #[]) ∧ Below w.heap.size w w' := by
  have hH : Holds (Value.int .i64) w g 0 [x].toArray := by
    intro j hj
    have : j = 0 := by simpa using hj
    subst this
    exact ⟨hc, hf⟩
  refine (Tryz.slices_Sort_int g 0 c [x] w hH hg (by simp)).mono ?_
  rintro e w' ⟨rfl, n, os, rfl⟩
  have e1 : (([x] : List Int).mergeSort fun x y => decide (x ≤ y)) = [x] := by simp
  rw [e1, putRow_self _ _ _ _ _ (holds_ahead _ w n g 0 _ hH)]
  exact ⟨rfl, below_grow w n os⟩

/-- The frame of Ancestors: the program's box, the list's box, the map, the map's box. -/
structure Af (w0 w : World) (b c : Nat) : Prop where
  bp : Bl w w0.heap.size 30 (prgL b c)
  ba : Bl w (w0.heap.size + 1) 33 [nilS]
  ms : w.ownsMap (H := Unit) Tryz.prog 3 (plainElem Tryz.prog 4) (w0.heap.size + 1 + 1) 0 (.map [])
  bs : Bl w (w0.heap.size + 1 + 1 + 1) 89 [.map (some (w0.heap.size + 1 + 1))]
  be : Below w0.heap.size w0 w
  size : w0.heap.size + 4 ≤ w.heap.size
theorem Af.mk_ (w0 : World) (b c : Nat) : Af w0 ((((w0.alloc (.cells (prgL b c).toArray 30)).alloc (.cells #[nilS] 33)).alloc (.map #[] 0)).alloc (.cells #[.map (some (w0.heap.size + 1 + 1))] 89)) b c := by
  have z1 : (w0.alloc (.cells (prgL b c).toArray 30)).heap.size = w0.heap.size + 1 := by simp
  have z2 : ((w0.alloc (.cells (prgL b c).toArray 30)).alloc (.cells #[nilS] 33)).heap.size = w0.heap.size + 1 + 1 := by simp
  have z3 : (((w0.alloc (.cells (prgL b c).toArray 30)).alloc (.cells #[nilS] 33)).alloc (.map #[] 0)).heap.size = w0.heap.size + 1 + 1 + 1 := by simp
  refine ⟨(((Bl.new w0 30 (prgL b c)).alloc _).alloc _).alloc _, ?_, ?_, ?_, ((((Below.refl _ _).alloc (Nat.le_refl _) _).alloc (by simp) _).alloc (by simp; omega) _).alloc (by simp; omega) _, by simp⟩
  · have := Bl.new (w0.alloc (.cells (prgL b c).toArray 30)) 33 [nilS]
    rw [z1] at this
    exact (this.alloc _).alloc _
  · have := World.ownsMap_made (H := Unit) ((w0.alloc (.cells (prgL b c).toArray 30)).alloc (.cells #[nilS] 33)) Tryz.prog 3 (plainElem Tryz.prog 4)
    rw [z2] at this
    exact this.alloc _
  · have := Bl.new (((w0.alloc (.cells (prgL b c).toArray 30)).alloc (.cells #[nilS] 33)).alloc (.map #[] 0)) 89 [.map (some (w0.heap.size + 1 + 1))]
    rw [z3] at this
    exact this

set_option maxRecDepth 100000 in
set_option maxHeartbeats 4000000 in
theorem ancestors_0 (b c pa pb pc : Nat) (nm : ByteArray) (w : World) (h : PW w b nm pa pb pc) : Calls Tryz.prog 22 #[prgV b c, i64 0] w fun e w' => (∃ A c', e = .returned (.slice A 0 c')) ∧ Below w.heap.size w w' := by
  have H := Lib.hid h
  have hmm := @run_makeMap Tryz.prog
  clear h
  go_enter Tryz.func22, Tryz.ntmps22
  go_wp2_with fail
  refine (exists_is _ 3 _ _ true (by decide) _).mono ?_
  rintro e w' ⟨rfl, rfl⟩
  go_wp2_with fail
  have AF := Lib.hid (Af.mk_ w b c)
  have HW := Lib.hid (H.out.below AF.out.be)
  refine (add_0 b c pa pb pc _ _ _ nm _ HW.out (AF.out.bp.cell 0)).mono ?_
  rintro e w1 ⟨⟨v, rfl⟩, hB⟩
  have ba1 : Bl w1 (w.heap.size + 1) 33 [nilS] := AF.out.ba.below hB AF.out.ba.lt
  have HB := Lib.hid (AF.out.be.trans (hB.mono (by have := AF.out.size; omega)))
  have c1 : w1.cell? ⟨w.heap.size + 1, 0, none⟩ = some nilS := ba1.cell 0
  clear hB ba1 AF HW H hmm
  go_wp2_with fail
  refine wp_loop_rounds 1 ?_
  rw [rounds_succ]
  go_wp2_with fail
  refine (Tryz.slices_Sort_int_none _ _ _).mono ?_
  rintro e w' ⟨rfl, rfl⟩
  go_wp2_with fail
  go_ret
  exact ⟨⟨_, _, rfl⟩, HB.out⟩

set_option maxRecDepth 100000 in
set_option maxHeartbeats 4000000 in
theorem ancestors_2 (b c pa pb pc : Nat) (nm : ByteArray) (w : World) (h : PW w b nm pa pb pc) : Calls Tryz.prog 22 #[prgV b c, i64 2] w fun e w' => (∃ A c', e = .returned (.slice A 0 c')) ∧ Below w.heap.size w w' := by
  have H := Lib.hid h
  have hmm := @run_makeMap Tryz.prog
  clear h
  go_enter Tryz.func22, Tryz.ntmps22
  go_wp2_with fail
  refine (exists_is _ 3 _ _ true (by decide) _).mono ?_
  rintro e w' ⟨rfl, rfl⟩
  go_wp2_with fail
  have AF := Lib.hid (Af.mk_ w b c)
  have HW := Lib.hid (H.out.below AF.out.be)
  refine (add_2 b c pa pb pc _ _ _ nm _ HW.out (AF.out.bp.cell 0)).mono ?_
  rintro e w1 ⟨⟨v, rfl⟩, hB⟩
  have ba1 : Bl w1 (w.heap.size + 1) 33 [nilS] := AF.out.ba.below hB AF.out.ba.lt
  have HB := Lib.hid (AF.out.be.trans (hB.mono (by have := AF.out.size; omega)))
  have c1 : w1.cell? ⟨w.heap.size + 1, 0, none⟩ = some nilS := ba1.cell 0
  clear hB ba1 AF HW H hmm
  go_wp2_with fail
  refine wp_loop_rounds 1 ?_
  rw [rounds_succ]
  go_wp2_with fail
  refine (Tryz.slices_Sort_int_none _ _ _).mono ?_
  rintro e w' ⟨rfl, rfl⟩
  go_wp2_with fail
  go_ret
  exact ⟨⟨_, _, rfl⟩, HB.out⟩

set_option maxRecDepth 100000 in
set_option maxHeartbeats 4000000 in
theorem ancestors_1 (b c pa pb pc : Nat) (nm : ByteArray) (w : World) (h : PW w b nm pa pb pc) :
    Calls Tryz.prog 22 #[prgV b c, i64 1] w fun e w' => (∃ g c', e = .returned (.slice (some ⟨g, 0, none⟩) 1 c') ∧ w'.cell? ⟨g, 0, none⟩ = some (i64 0)) ∧ Below w.heap.size w w' := by
  have H := Lib.hid h
  have hmm := @run_makeMap Tryz.prog
  clear h
  go_enter Tryz.func22, Tryz.ntmps22
  go_wp2_with fail
  refine (exists_is _ 3 _ _ true (by decide) _).mono ?_
  rintro e w' ⟨rfl, rfl⟩
  go_wp2_with fail
  have AF := Lib.hid (Af.mk_ w b c)
  have HW := Lib.hid (H.out.below AF.out.be)
  refine (add_1 b c pa pb pc _ _ _ (w.heap.size + 1 + 1) w.heap.size nm _ HW.out (AF.out.bp.cell 0) AF.out.bp.lt (AF.out.bs.cell 0) AF.out.bs.lt AF.out.ba AF.out.ms AF.out.be.size (by omega) (by omega) (by omega) (by omega) (by omega) (by omega)).mono ?_
  rintro e w1 ⟨⟨v, rfl⟩, ⟨v', hc, ho⟩, hA⟩
  obtain ⟨g, cg, rfl, hg1, hg2, hg3⟩ := own_one ho
  have hf := ho.frozenAt 0
  have HG := Lib.hid hg3
  have HF := Lib.hid hf
  have HA := Lib.hid hA
  have hsz := AF.out.size
  have p1 : w1.cell? ⟨w.heap.size, 0, none⟩ = some (.slice (some ⟨b, 0, none⟩) 3 c) := (hA.cell (p := ⟨w.heap.size, 0, none⟩) AF.out.bp.lt (by show w.heap.size ≠ w.heap.size + 1 + 1; omega) (by show w.heap.size ≠ w.heap.size + 1; omega)).trans (AF.out.bp.cell 0)
  have hgs := hg1
  simp at hgs
  have HW1 := Lib.hid (H.out.below (AF.out.be.trans hA.be))
  have P1 := Lib.hid p1
  have hlt1 : w.heap.size + 1 < w1.heap.size := by have := hA.be.size; simp at this hg1; omega
  clear hA ho hf hmm p1
  have BE := Lib.hid (AF.out.be.trans HA.out.be)
  clear hg1 hgs hsz AF HW H HA
  go_wp2_with fail
  refine wp_loop_rounds 2 ?_
  rw [rounds_succ]
  go_wp2_with fail
  refine (add_0 b c pa pb pc _ _ _ nm _ HW1.out P1.out).mono ?_
  rintro e w2 ⟨⟨v2, rfl⟩, hB⟩
  have c2 : w2.cell? ⟨w.heap.size + 1, 0, none⟩ = some (.slice (some ⟨g, 0, none⟩) 1 cg) := (hB.cell (p := ⟨w.heap.size + 1, 0, none⟩) hlt1).trans hc
  have G2 := Lib.hid ((hB.cell (p := ⟨g, 0, none⟩) hg2).trans HG.out)
  have F2 := Lib.hid ((hB.frozen (p := ⟨g, 0, none⟩) hg2).trans HF.out)
  have hg22 : g < w2.heap.size := Nat.lt_of_lt_of_le hg2 hB.size
  have BE2 := Lib.hid (BE.out.trans (hB.mono BE.out.size))
  have hlt2 : w.heap.size + 1 < w2.heap.size := Nat.lt_of_lt_of_le hlt1 hB.size
  clear hB hc hg3 hg2 HG HF HW1 P1 BE
  go_wp2_with fail
  rw [rounds_succ]
  go_wp2_with fail
  refine (sort_one g cg 0 _ G2.out F2.out hg22).mono ?_
  rintro e w3 ⟨rfl, hB⟩
  have c3 : w3.cell? ⟨w.heap.size + 1, 0, none⟩ = some (.slice (some ⟨g, 0, none⟩) 1 cg) := (hB.cell (p := ⟨w.heap.size + 1, 0, none⟩) hlt2).trans c2
  have G3 := Lib.hid ((hB.cell (p := ⟨g, 0, none⟩) hg22).trans G2.out)
  have BE3 := Lib.hid (BE2.out.trans (hB.mono BE2.out.size))
  clear hB c2
  go_wp2_with fail
  go_ret
  exact ⟨⟨_, _, rfl, G3.out⟩, BE3.out⟩
end Go.Proofs.YtkjjieloncdjhaaGreatDoor
