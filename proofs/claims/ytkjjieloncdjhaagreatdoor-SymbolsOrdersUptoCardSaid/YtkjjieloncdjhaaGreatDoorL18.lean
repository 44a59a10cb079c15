/- The check of the name of a class; sizes, rules, the main method. -/
import Derived.Test.YtkjjieloncdjhaaGreatDoorL16
import Derived.Laws.EntriesVeiled
namespace Go.Proofs.YtkjjieloncdjhaaGreatDoor
open Go Go.RowKit

set_option maxRecDepth 100000 in
set_option maxHeartbeats 2000000 in
theorem findClass_0 (b c pa pb pc : Nat) (w : World) (h : PW w b nmA pa pb pc) : Calls Tryz.prog 14 #[prgV b c, i64 (-1), .string nmA, .bool false] w fun e w' => e = .returned (i64 0) ∧ Below w.heap.size w w' := by
  have H := Lib.hid h
  clear h
  have F := Lib.hid (((((Frs.nil w).snoc (by simp) 30 (prgL b c)).snoc (by simp) 3 [i64 (-1)]).snoc (by simp) 9 [.string nmA]).snoc (by simp) 4 [.bool false])
  go_enter Tryz.func14, Tryz.ntmps14
  go_wp2_with fail
  refine (index_0 b c pa pb pc _ _ _ _ (H.out.below F.out.be) ((F.out.bl 1 _ _ rfl).cell 0) ((F.out.bl 2 _ _ rfl).cell 0) ((F.out.bl 3 _ _ rfl).cell 0) (F.out.bl 1 _ _ rfl).lt (F.out.bl 2 _ _ rfl).lt (F.out.bl 3 _ _ rfl).lt).mono ?_
  rintro e w1 ⟨rfl, hB⟩
  have BE := Lib.hid (F.out.below hB).be
  clear hB F
  go_wp2_with fail
  go_ret
  exact ⟨rfl, BE.out⟩

set_option maxRecDepth 100000 in
set_option maxHeartbeats 2000000 in
theorem checkClassName_0 (b c pa pb pc : Nat) (w : World) (h : PW w b nmA pa pb pc) : Calls Tryz.prog 96 #[prgV b c, i64 0] w fun e w' => e = .returned (i64 0) ∧ Below w.heap.size w w' := by
  have H := Lib.hid h
  obtain ⟨h0, h1, h2, h3, h4, h5, h6, h7, h8, h9, h10, h11, h12⟩ := h.c0
  have hb := h.hb
  have hne : ¬ b = w.heap.size := by omega
  clear h
  go_enter Tryz.func96, Tryz.ntmps96
  go_wp2_with fail
  refine (findClass_0 b c pa pb pc _ ((H.out.alloc _).alloc _)).mono ?_
  rintro e w1 ⟨rfl, hB⟩
  have BE := Lib.hid ((((Below.refl w.heap.size w).alloc (Nat.le_refl _) _).alloc (by simp) _).trans (hB.mono (by simp; omega)))
  clear hB h0 h1 h2 h3 h4 h5 h6 h7 h8 h9 h10 h11 h12
  go_wp2_with fail
  go_ret
  exact ⟨rfl, BE.out⟩

set_option maxRecDepth 100000 in
set_option maxHeartbeats 2000000 in
theorem findClass_1 (b c pa pb pc : Nat) (w : World) (h : PW w b nmA pa pb pc) : Calls Tryz.prog 14 #[prgV b c, i64 (-1), .string nmB, .bool true] w fun e w' => e = .returned (i64 1) ∧ Below w.heap.size w w' := by
  have H := Lib.hid h
  clear h
  have F := Lib.hid (((((Frs.nil w).snoc (by simp) 30 (prgL b c)).snoc (by simp) 3 [i64 (-1)]).snoc (by simp) 9 [.string nmB]).snoc (by simp) 4 [.bool true])
  go_enter Tryz.func14, Tryz.ntmps14
  go_wp2_with fail
  refine (index_1 b c pa pb pc _ _ _ _ (H.out.below F.out.be) ((F.out.bl 1 _ _ rfl).cell 0) ((F.out.bl 2 _ _ rfl).cell 0) ((F.out.bl 3 _ _ rfl).cell 0) (F.out.bl 1 _ _ rfl).lt (F.out.bl 2 _ _ rfl).lt (F.out.bl 3 _ _ rfl).lt).mono ?_
  rintro e w1 ⟨rfl, hB⟩
  have BE := Lib.hid (F.out.below hB).be
  clear hB F
  go_wp2_with fail
  go_ret
  exact ⟨rfl, BE.out⟩

set_option maxRecDepth 100000 in
set_option maxHeartbeats 2000000 in
theorem checkClassName_1 (b c pa pb pc : Nat) (w : World) (h : PW w b nmA pa pb pc) : Calls Tryz.prog 96 #[prgV b c, i64 1] w fun e w' => e = .returned (i64 0) ∧ Below w.heap.size w w' := by
  have H := Lib.hid h
  obtain ⟨h0, h1, h2, h3, h4, h5, h6, h7, h8, h9, h10, h11, h12⟩ := h.c1
  have hb := h.hb
  have hne : ¬ b = w.heap.size := by omega
  clear h
  go_enter Tryz.func96, Tryz.ntmps96
  go_wp2_with fail
  refine (findClass_1 b c pa pb pc _ ((H.out.alloc _).alloc _)).mono ?_
  rintro e w1 ⟨rfl, hB⟩
  have BE := Lib.hid ((((Below.refl w.heap.size w).alloc (Nat.le_refl _) _).alloc (by simp) _).trans (hB.mono (by simp; omega)))
  clear hB h0 h1 h2 h3 h4 h5 h6 h7 h8 h9 h10 h11 h12
  go_wp2_with fail
  go_ret
  exact ⟨rfl, BE.out⟩

set_option maxRecDepth 100000 in
set_option maxHeartbeats 2000000 in
theorem findClass_2 (b c pa pb pc : Nat) (w : World) (h : PW w b nmA pa pb pc) : Calls Tryz.prog 14 #[prgV b c, i64 1, .string nmC, .bool false] w fun e w' => e = .returned (i64 2) ∧ Below w.heap.size w w' := by
  have H := Lib.hid h
  clear h
  have F := Lib.hid (((((Frs.nil w).snoc (by simp) 30 (prgL b c)).snoc (by simp) 3 [i64 1]).snoc (by simp) 9 [.string nmC]).snoc (by simp) 4 [.bool false])
  go_enter Tryz.func14, Tryz.ntmps14
  go_wp2_with fail
  refine (index_2 b c pa pb pc _ _ _ _ (H.out.below F.out.be) ((F.out.bl 1 _ _ rfl).cell 0) ((F.out.bl 2 _ _ rfl).cell 0) ((F.out.bl 3 _ _ rfl).cell 0) (F.out.bl 1 _ _ rfl).lt (F.out.bl 2 _ _ rfl).lt (F.out.bl 3 _ _ rfl).lt).mono ?_
  rintro e w1 ⟨rfl, hB⟩
  have BE := Lib.hid (F.out.below hB).be
  clear hB F
  go_wp2_with fail
  go_ret
  exact ⟨rfl, BE.out⟩

set_option maxRecDepth 100000 in
set_option maxHeartbeats 2000000 in
theorem checkClassName_2 (b c pa pb pc : Nat) (w : World) (h : PW w b nmA pa pb pc) : Calls Tryz.prog 96 #[prgV b c, i64 2] w fun e w' => e = .returned (i64 0) ∧ Below w.heap.size w w' := by
  have H := Lib.hid h
  obtain ⟨h0, h1, h2, h3, h4, h5, h6, h7, h8, h9, h10, h11, h12⟩ := h.c2
  have hb := h.hb
  have hne : ¬ b = w.heap.size := by omega
  clear h
  go_enter Tryz.func96, Tryz.ntmps96
  go_wp2_with fail
  refine (findClass_2 b c pa pb pc _ ((H.out.alloc _).alloc _)).mono ?_
  rintro e w1 ⟨rfl, hB⟩
  have BE := Lib.hid ((((Below.refl w.heap.size w).alloc (Nat.le_refl _) _).alloc (by simp) _).trans (hB.mono (by simp; omega)))
  clear hB h0 h1 h2 h3 h4 h5 h6 h7 h8 h9 h10 h11 h12
  go_wp2_with fail
  go_ret
  exact ⟨rfl, BE.out⟩

theorem checkMain_none (b c : Nat) (w : World) : Calls Tryz.prog 64 #[prgV b c] w fun e w' => e = .returned (i64 0) ∧ Below w.heap.size w w' := by
  go_enter Tryz.func64, Tryz.ntmps64
  go_wp2_with fail
  go_ret
  exact ⟨rfl, (Below.refl _ _).alloc (Nat.le_refl _) _⟩

abbrev sizesV : Value := .agg #[i64 0, i64 3, i64 0, i64 0, i64 0, i64 0]
theorem sizes_any (b c : Nat) (w : World) : Calls Tryz.prog 62 #[prgV b c] w fun e w' => e = .returned sizesV ∧ Below w.heap.size w w' := by
  go_enter Tryz.func62, Tryz.ntmps62
  go_wp2_with fail
  refine bodyPost_ret (v := sizesV) (by simp [results, Tryz.results62, go_sem]) rfl ⟨rfl, ?_⟩
  exact ((Below.refl _ _).alloc (Nat.le_refl _) _).alloc (by simp) _

abbrev fn (k : Nat) : Value := .func (.func k) #[] #[]
abbrev rulesL : List Value := [i64 1, fn 88, i64 1, fn 89, i64 1, fn 90, i64 1, fn 91, i64 2, fn 92, i64 3, fn 93, i64 4, fn 94, i64 5, fn 95, i64 1, fn 96, i64 3, fn 97, i64 2, fn 98, i64 5, fn 99, i64 4, fn 100]
theorem rules_any (w : World) : Calls Tryz.prog 63 #[] w fun e w' => e = .returned (.slice (some ⟨w.heap.size, 0, none⟩) 13 13) ∧ w' = w.alloc (.cells rulesL.toArray 118) := by
  go_enter Tryz.func63, Tryz.ntmps63
  go_wp2_with fail
  go_ret
  exact ⟨rfl, rfl⟩
end Go.Proofs.YtkjjieloncdjhaaGreatDoor
namespace Go.Proofs.YtkjjieloncdjhaaGreatDoor
open Go Go.RowKit

theorem Frs.b1 {w0 w : World} {t t' : TypeId} {l l' : List Value} {L : List (TypeId × List Value)} (h : Frs w0 w ((t, l) :: (t', l') :: L)) : Bl w (w0.heap.size + 1) t' l' := h.bl 1 t' l' rfl
theorem Bl.three {w : World} {g t : Nat} {a0 a1 a2 : Value} (h : Bl w g t [a0, a1, a2]) :
    w.cell? ⟨g, 0, none⟩ = some a0 ∧ w.cell? ⟨g, 1, none⟩ = some a1 ∧ w.cell? ⟨g, 2, none⟩ = some a2 ∧ w.frozen? ⟨g, 0, none⟩ = false ∧ w.frozen? ⟨g, 1, none⟩ = false ∧ w.frozen? ⟨g, 2, none⟩ = false :=
  ⟨h.cell 0, h.cell 1, h.cell 2, h.froz 0, h.froz 1, h.froz 2⟩
theorem Frs.b0 {w0 w : World} {t : TypeId} {l : List Value} {L : List (TypeId × List Value)} (h : Frs w0 w ((t, l) :: L)) : Bl w w0.heap.size t l := h.bl 0 t l rfl

/-- The blocks of Check. -/
abbrev chkL (b c : Nat) : List (TypeId × List Value) := [(30, prgL b c), (55, [i64 0, i64 0, i64 0])]
structure Ck (w0 w : World) (b c g : Nat) : Prop where
  fr : Frs w0 w (chkL b c)
  ru : Bl w g 118 rulesL
theorem Ck.below {w0 w w' : World} {b c g : Nat} (h : Ck w0 w b c g) (hB : Below w.heap.size w w') : Ck w0 w' b c g := ⟨h.fr.below hB, h.ru.below hB h.ru.lt⟩
theorem Ck.alloc {w0 w : World} {b c g : Nat} (h : Ck w0 w b c g) (o : Obj) : Ck w0 (w.alloc o) b c g := h.below ((Below.refl _ _).alloc (Nat.le_refl _) _)
theorem Ck.drew {w0 w : World} {b c g : Nat} (h : Ck w0 w b c g) : Ck w0 w.drew b c g := ⟨h.fr.drewN 1, h.ru⟩

theorem ix0 (w : World) : (Instr.index 112 sizesV (.int .i64 0)).run Tryz.prog w = .ok (.int .i64 0) w := by kernel_rfl
theorem ix1 (w : World) : (Instr.index 112 sizesV (.int .i64 1)).run Tryz.prog w = .ok (.int .i64 3) w := by kernel_rfl
theorem ix2 (w : World) : (Instr.index 112 sizesV (.int .i64 2)).run Tryz.prog w = .ok (.int .i64 0) w := by kernel_rfl
theorem ix3 (w : World) : (Instr.index 112 sizesV (.int .i64 3)).run Tryz.prog w = .ok (.int .i64 0) w := by kernel_rfl
theorem ix4 (w : World) : (Instr.index 112 sizesV (.int .i64 4)).run Tryz.prog w = .ok (.int .i64 0) w := by kernel_rfl
theorem ix5 (w : World) : (Instr.index 112 sizesV (.int .i64 5)).run Tryz.prog w = .ok (.int .i64 0) w := by kernel_rfl

set_option maxRecDepth 100000 in
set_option maxHeartbeats 8000000 in
theorem check_bad (b c pa pb pc : Nat) (w : World) (h : PW w b ⟨#[]⟩ pa pb pc) : Calls Tryz.prog 30 #[prgV b c] w fun e w' => e = .returned (.agg #[i64 1, i64 0, i64 21]) ∧ Below w.heap.size w w' := by
  have H := Lib.hid h
  clear h
  have i0 := ix0
  have i1 := ix1
  have i2 := ix2
  have i3 := ix3
  have i4 := ix4
  have i5 := ix5
  have F := Lib.hid (((Frs.nil w).snoc (by simp) 30 (prgL b c)).snoc (by simp) 55 [i64 0, i64 0, i64 0])
  go_enter Tryz.func30, Tryz.ntmps30
  go_wp2_with fail
  refine (sizes_any b c _).mono ?_
  rintro e w1 ⟨rfl, hB⟩
  have F1 := Lib.hid (F.out.below hB)
  clear hB F
  go_wp2_with fail
  refine wp_loop_rounds 7 ?_
  rw [rounds_succ]
  go_wp2_with fail
  rw [rounds_succ]
  go_wp2_with fail
  rw [rounds_succ]
  go_wp2_with fail
  rw [rounds_succ]
  go_wp2_with fail
  rw [rounds_succ]
  go_wp2_with fail
  rw [rounds_succ]
  go_wp2_with fail
  rw [rounds_succ]
  go_wp2_with fail
  refine (rules_any _).mono ?_
  rintro e w2 ⟨rfl, rfl⟩
  have K := Lib.hid (show Ck w _ b c w1.heap.size from ⟨F1.out.alloc _, Bl.new w1 118 rulesL⟩)
  have r0 := K.out.ru.cell 0
  have r1 := K.out.ru.cell 1
  obtain ⟨p0, p1, p2, p3, p4, p5⟩ := (Frs.b0 F1.out).six
  have hl : w.heap.size + 2 ≤ w1.heap.size := F1.out.size
  have hl1 : w.heap.size < w1.heap.size := by omega
  have hl2 : ¬ w.heap.size = w1.heap.size := by omega
  have hl3 : ¬ w.heap.size = w1.heap.size + 1 := by omega
  have hl4 : w.heap.size < w1.heap.size + 1 := by omega
  clear F1
  go_wp2_with fail
  refine wp_loop_rounds 1 ?_
  rw [rounds_succ]
  go_upto_region 10 with fail
  have R := Lib.hid (show Bl ((w1.alloc (.cells rulesL.toArray 118)).alloc (.cells #[i64 1, fn 88] 118)) (w1.heap.size + 1) 118 [i64 1, fn 88] from new_at w1 _ _ _)
  have K1 := Lib.hid (K.out.alloc (.cells #[i64 1, fn 88] 118))

  go_cut [29, 30] from 25 to 28 (fun x y wx => x = i64 3 ∧ y = i64 0 ∧ Ck w wx b c w1.heap.size ∧ Bl wx (w1.heap.size + 1) 118 [i64 1, fn 88])
  case first =>
    go_region_with (go_at_call 62; refine (sizes_any b c _).mono ?_; rintro e w3 ⟨rfl, hB⟩; have K3 := Lib.hid (K1.out.drew.below hB); have R3 := Lib.hid (R.out.drew.below hB R.out.drew.lt); clear hB; have q0 := R3.out.cell 0; have q1 := R3.out.cell 1)
    all_goals (go_wp2_with fail; go_meet; exact ⟨rfl, rfl, K3.out, R3.out⟩)
  case rest =>
    obtain ⟨rfl, rfl, KC, RC⟩ := hcut
    have K3 := Lib.hid KC
    have R3 := Lib.hid RC
    clear KC RC K K1 R r0 r1 p0 p1 p2 p3 p4 p5
    obtain ⟨p0, p1, p2, p3, p4, p5⟩ := K3.out.fr.b0.six
    have q0 := R3.out.cell 0
    have q1 := R3.out.cell 1
    go_wp2_with fail
    refine wp_loop_rounds 1 ?_
    rw [rounds_succ]
    go_wp2_with fail
    refine (checkClass_bad b c pa pb pc _ (H.out.below K3.out.fr.be)).mono ?_
    rintro e w4 ⟨rfl, hB⟩
    have K4 := Lib.hid (K3.out.below hB)
    have R4 := Lib.hid (R3.out.below hB R3.out.lt)
    clear hB K3 R3 H p0 p1 p2 p3 p4 p5 q0 q1
    have q0 := R4.out.cell 0
    obtain ⟨z0, z1, z2, f0, f1, f2⟩ := K4.out.fr.b1.three
    go_wp2_with fail
    refine bodyPost_ret (v := .agg #[i64 1, i64 0, i64 21]) (by simp [results, Tryz.results30, go_sem, z0, z1, z2]) rfl ⟨rfl, ?_⟩
    exact ((K4.out.fr.be.setCell (by simp) _).setCell (by simp) _).setCell (by simp) _
end Go.Proofs.YtkjjieloncdjhaaGreatDoor
