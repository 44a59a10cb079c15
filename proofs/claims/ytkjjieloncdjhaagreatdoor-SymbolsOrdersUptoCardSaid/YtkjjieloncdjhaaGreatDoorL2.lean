/- Three classes in memory; contracts of checks of a class. -/
import Derived.Test.YtkjjieloncdjhaaGreatDoorL8
namespace Go.Proofs.YtkjjieloncdjhaaGreatDoor
open Go Go.RowKit


abbrev sl (b n : Nat) : Value := .slice (some ⟨b, 0, none⟩) n n

abbrev nmB : ByteArray := ⟨#[66]⟩
abbrev nmC : ByteArray := ⟨#[67]⟩

/-- A trait, an object and a class inside of it. -/
structure PW (w : World) (b : Nat) (nm : ByteArray) (pa pb pc : Nat) : Prop where
  hb : b < w.heap.size
  ha : pa < w.heap.size
  hbb : pb < w.heap.size
  hc : pc < w.heap.size
  k0 : ∀ j v, [Value.string nm, i64 1, i64 0, i64 (-1), nilS, sl pa 1, nilS, nilS, nilS, nilS, nilS, nilS, i64 0][j]? = some v → w.cell? ⟨b, j, none⟩ = some v
  k1 : ∀ j v, [Value.string nmB, i64 2, i64 0, i64 (-1), nilS, sl pb 2, nilS, nilS, nilS, nilS, nilS, nilS, i64 0][j]? = some v → w.cell? ⟨b, 13 + j, none⟩ = some v
  k2 : ∀ j v, [Value.string nmC, i64 0, i64 0, i64 1, nilS, sl pc 1, nilS, nilS, nilS, nilS, nilS, nilS, i64 0][j]? = some v → w.cell? ⟨b, 26 + j, none⟩ = some v
  ka : ∀ j v, [i64 1, i64 0, Value.string ⟨#[]⟩, i64 0, nilS][j]? = some v → w.cell? ⟨pa, j, none⟩ = some v
  kb : ∀ j v, [i64 1, i64 0, Value.string ⟨#[]⟩, i64 0, nilS, i64 10, i64 0, Value.string ⟨#[]⟩, i64 0, nilS][j]? = some v → w.cell? ⟨pb, j, none⟩ = some v
  kc : ∀ j v, [i64 1, i64 0, Value.string ⟨#[]⟩, i64 0, nilS][j]? = some v → w.cell? ⟨pc, j, none⟩ = some v

section
variable {w w' : World} {b pa pb pc : Nat} {nm : ByteArray}
theorem PW.below (h : PW w b nm pa pb pc) (hB : Below w.heap.size w w') : PW w' b nm pa pb pc :=
  have hs := hB.size
  ⟨Nat.lt_of_lt_of_le h.hb hs, Nat.lt_of_lt_of_le h.ha hs, Nat.lt_of_lt_of_le h.hbb hs, Nat.lt_of_lt_of_le h.hc hs,
    fun j v e => (hB.cell (p := ⟨b, _, none⟩) h.hb).trans (h.k0 j v e), fun j v e => (hB.cell (p := ⟨b, _, none⟩) h.hb).trans (h.k1 j v e),
    fun j v e => (hB.cell (p := ⟨b, _, none⟩) h.hb).trans (h.k2 j v e), fun j v e => (hB.cell (p := ⟨pa, _, none⟩) h.ha).trans (h.ka j v e),
    fun j v e => (hB.cell (p := ⟨pb, _, none⟩) h.hbb).trans (h.kb j v e), fun j v e => (hB.cell (p := ⟨pc, _, none⟩) h.hc).trans (h.kc j v e)⟩
theorem PW.alloc (h : PW w b nm pa pb pc) (o : Obj) : PW (w.alloc o) b nm pa pb pc := h.below ((Below.refl _ _).alloc (Nat.le_refl _) _)
theorem PW.drew (h : PW w b nm pa pb pc) : PW w.drew b nm pa pb pc := h.below (Below.refl _ _).drew
theorem PW.drewN (h : PW w b nm pa pb pc) (n : Nat) : PW (w.drewN n) b nm pa pb pc := ⟨h.hb, h.ha, h.hbb, h.hc, h.k0, h.k1, h.k2, h.ka, h.kb, h.kc⟩
end

/-- The cells of the class 0. -/
theorem PW.c0 {w : World} {b pa pb pc : Nat} {nm : ByteArray} (h : PW w b nm pa pb pc) :
    w.cell? ⟨b, 0, none⟩ = some (.string nm) ∧ w.cell? ⟨b, 1, none⟩ = some (i64 1) ∧ w.cell? ⟨b, 2, none⟩ = some (i64 0) ∧ w.cell? ⟨b, 3, none⟩ = some (i64 (-1)) ∧ w.cell? ⟨b, 4, none⟩ = some nilS ∧
    w.cell? ⟨b, 5, none⟩ = some (sl pa 1) ∧ w.cell? ⟨b, 6, none⟩ = some nilS ∧ w.cell? ⟨b, 7, none⟩ = some nilS ∧ w.cell? ⟨b, 8, none⟩ = some nilS ∧ w.cell? ⟨b, 9, none⟩ = some nilS ∧ w.cell? ⟨b, 10, none⟩ = some nilS ∧ w.cell? ⟨b, 11, none⟩ = some nilS ∧ w.cell? ⟨b, 12, none⟩ = some (i64 0) :=
  ⟨h.k0 0 _ rfl, h.k0 1 _ rfl, h.k0 2 _ rfl, h.k0 3 _ rfl, h.k0 4 _ rfl, h.k0 5 _ rfl, h.k0 6 _ rfl, h.k0 7 _ rfl, h.k0 8 _ rfl, h.k0 9 _ rfl, h.k0 10 _ rfl, h.k0 11 _ rfl, h.k0 12 _ rfl⟩
theorem PW.c1 {w : World} {b pa pb pc : Nat} {nm : ByteArray} (h : PW w b nm pa pb pc) :
    w.cell? ⟨b, 13, none⟩ = some (.string nmB) ∧ w.cell? ⟨b, 14, none⟩ = some (i64 2) ∧ w.cell? ⟨b, 15, none⟩ = some (i64 0) ∧ w.cell? ⟨b, 16, none⟩ = some (i64 (-1)) ∧ w.cell? ⟨b, 17, none⟩ = some nilS ∧
    w.cell? ⟨b, 18, none⟩ = some (sl pb 2) ∧ w.cell? ⟨b, 19, none⟩ = some nilS ∧ w.cell? ⟨b, 20, none⟩ = some nilS ∧ w.cell? ⟨b, 21, none⟩ = some nilS ∧ w.cell? ⟨b, 22, none⟩ = some nilS ∧ w.cell? ⟨b, 23, none⟩ = some nilS ∧ w.cell? ⟨b, 24, none⟩ = some nilS ∧ w.cell? ⟨b, 25, none⟩ = some (i64 0) :=
  ⟨h.k1 0 _ rfl, h.k1 1 _ rfl, h.k1 2 _ rfl, h.k1 3 _ rfl, h.k1 4 _ rfl, h.k1 5 _ rfl, h.k1 6 _ rfl, h.k1 7 _ rfl, h.k1 8 _ rfl, h.k1 9 _ rfl, h.k1 10 _ rfl, h.k1 11 _ rfl, h.k1 12 _ rfl⟩
theorem PW.c2 {w : World} {b pa pb pc : Nat} {nm : ByteArray} (h : PW w b nm pa pb pc) :
    w.cell? ⟨b, 26, none⟩ = some (.string nmC) ∧ w.cell? ⟨b, 27, none⟩ = some (i64 0) ∧ w.cell? ⟨b, 28, none⟩ = some (i64 0) ∧ w.cell? ⟨b, 29, none⟩ = some (i64 1) ∧ w.cell? ⟨b, 30, none⟩ = some nilS ∧
    w.cell? ⟨b, 31, none⟩ = some (sl pc 1) ∧ w.cell? ⟨b, 32, none⟩ = some nilS ∧ w.cell? ⟨b, 33, none⟩ = some nilS ∧ w.cell? ⟨b, 34, none⟩ = some nilS ∧ w.cell? ⟨b, 35, none⟩ = some nilS ∧ w.cell? ⟨b, 36, none⟩ = some nilS ∧ w.cell? ⟨b, 37, none⟩ = some nilS ∧ w.cell? ⟨b, 38, none⟩ = some (i64 0) :=
  ⟨h.k2 0 _ rfl, h.k2 1 _ rfl, h.k2 2 _ rfl, h.k2 3 _ rfl, h.k2 4 _ rfl, h.k2 5 _ rfl, h.k2 6 _ rfl, h.k2 7 _ rfl, h.k2 8 _ rfl, h.k2 9 _ rfl, h.k2 10 _ rfl, h.k2 11 _ rfl, h.k2 12 _ rfl⟩
theorem PW.pa {w : World} {b pa pb pc : Nat} {nm : ByteArray} (h : PW w b nm pa pb pc) :
    w.cell? ⟨pa, 0, none⟩ = some (i64 1) ∧ w.cell? ⟨pa, 1, none⟩ = some (i64 0) ∧ w.cell? ⟨pa, 2, none⟩ = some (.string ⟨#[]⟩) ∧ w.cell? ⟨pa, 3, none⟩ = some (i64 0) ∧ w.cell? ⟨pa, 4, none⟩ = some nilS :=
  ⟨h.ka 0 _ rfl, h.ka 1 _ rfl, h.ka 2 _ rfl, h.ka 3 _ rfl, h.ka 4 _ rfl⟩
theorem PW.pc {w : World} {b pa pb pc : Nat} {nm : ByteArray} (h : PW w b nm pa pb pc) :
    w.cell? ⟨pc, 0, none⟩ = some (i64 1) ∧ w.cell? ⟨pc, 1, none⟩ = some (i64 0) ∧ w.cell? ⟨pc, 2, none⟩ = some (.string ⟨#[]⟩) ∧ w.cell? ⟨pc, 3, none⟩ = some (i64 0) ∧ w.cell? ⟨pc, 4, none⟩ = some nilS :=
  ⟨h.kc 0 _ rfl, h.kc 1 _ rfl, h.kc 2 _ rfl, h.kc 3 _ rfl, h.kc 4 _ rfl⟩
theorem PW.pb {w : World} {b pa pb pc : Nat} {nm : ByteArray} (h : PW w b nm pa pb pc) :
    w.cell? ⟨pb, 0, none⟩ = some (i64 1) ∧ w.cell? ⟨pb, 1, none⟩ = some (i64 0) ∧ w.cell? ⟨pb, 2, none⟩ = some (.string ⟨#[]⟩) ∧ w.cell? ⟨pb, 3, none⟩ = some (i64 0) ∧ w.cell? ⟨pb, 4, none⟩ = some nilS ∧
    w.cell? ⟨pb, 5, none⟩ = some (i64 10) ∧ w.cell? ⟨pb, 6, none⟩ = some (i64 0) ∧ w.cell? ⟨pb, 7, none⟩ = some (.string ⟨#[]⟩) ∧ w.cell? ⟨pb, 8, none⟩ = some (i64 0) ∧ w.cell? ⟨pb, 9, none⟩ = some nilS :=
  ⟨h.kb 0 _ rfl, h.kb 1 _ rfl, h.kb 2 _ rfl, h.kb 3 _ rfl, h.kb 4 _ rfl, h.kb 5 _ rfl, h.kb 6 _ rfl, h.kb 7 _ rfl, h.kb 8 _ rfl, h.kb 9 _ rfl⟩

set_option maxHeartbeats 1000000 in
theorem ownsLists_0 (b c pa pb pc : Nat) (nm : ByteArray) (w : World) (h : PW w b nm pa pb pc) : Calls Tryz.prog 140 #[prgV b c, i64 0] w fun e w' => e = .returned (.bool true) ∧ Below w.heap.size w w' := by
  obtain ⟨h0, h1, h2, h3, h4, h5, h6, h7, h8, h9, h10, h11, h12⟩ := h.c0
  have hb := h.hb
  have hne : ¬ b = w.heap.size := by omega
  clear h
  go_enter Tryz.func140, Tryz.ntmps140
  go_wp2_with fail
  refine wp_loop_rounds 1 ?_
  rw [rounds_succ]
  go_wp2_with fail
  refine wp_loop_rounds 1 ?_
  rw [rounds_succ]
  go_wp2_with fail
  refine wp_loop_rounds 1 ?_
  rw [rounds_succ]
  go_wp2_with fail
  refine wp_loop_rounds 1 ?_
  rw [rounds_succ]
  go_wp2_with fail
  refine (isPart_nil _).mono ?_
  rintro e w' ⟨rfl, hB⟩
  go_wp2_with fail
  go_ret
  exact ⟨rfl, ((((Below.refl _ _).alloc (Nat.le_refl _) _).alloc (by simp) _).trans (hB.mono (by simp; omega)))⟩

set_option maxHeartbeats 1000000 in
theorem ownsLists_1 (b c pa pb pc : Nat) (nm : ByteArray) (w : World) (h : PW w b nm pa pb pc) : Calls Tryz.prog 140 #[prgV b c, i64 1] w fun e w' => e = .returned (.bool true) ∧ Below w.heap.size w w' := by
  obtain ⟨h0, h1, h2, h3, h4, h5, h6, h7, h8, h9, h10, h11, h12⟩ := h.c1
  have hb := h.hb
  have hne : ¬ b = w.heap.size := by omega
  clear h
  go_enter Tryz.func140, Tryz.ntmps140
  go_wp2_with fail
  refine wp_loop_rounds 1 ?_
  rw [rounds_succ]
  go_wp2_with fail
  refine wp_loop_rounds 1 ?_
  rw [rounds_succ]
  go_wp2_with fail
  refine wp_loop_rounds 1 ?_
  rw [rounds_succ]
  go_wp2_with fail
  refine wp_loop_rounds 1 ?_
  rw [rounds_succ]
  go_wp2_with fail
  refine (isPart_nil _).mono ?_
  rintro e w' ⟨rfl, hB⟩
  go_wp2_with fail
  go_ret
  exact ⟨rfl, ((((Below.refl _ _).alloc (Nat.le_refl _) _).alloc (by simp) _).trans (hB.mono (by simp; omega)))⟩

set_option maxHeartbeats 1000000 in
theorem ownsLists_2 (b c pa pb pc : Nat) (nm : ByteArray) (w : World) (h : PW w b nm pa pb pc) : Calls Tryz.prog 140 #[prgV b c, i64 2] w fun e w' => e = .returned (.bool true) ∧ Below w.heap.size w w' := by
  obtain ⟨h0, h1, h2, h3, h4, h5, h6, h7, h8, h9, h10, h11, h12⟩ := h.c2
  have hb := h.hb
  have hne : ¬ b = w.heap.size := by omega
  clear h
  go_enter Tryz.func140, Tryz.ntmps140
  go_wp2_with fail
  refine wp_loop_rounds 1 ?_
  rw [rounds_succ]
  go_wp2_with fail
  refine wp_loop_rounds 1 ?_
  rw [rounds_succ]
  go_wp2_with fail
  refine wp_loop_rounds 1 ?_
  rw [rounds_succ]
  go_wp2_with fail
  refine wp_loop_rounds 1 ?_
  rw [rounds_succ]
  go_wp2_with fail
  refine (isPart_nil _).mono ?_
  rintro e w' ⟨rfl, hB⟩
  go_wp2_with fail
  go_ret
  exact ⟨rfl, ((((Below.refl _ _).alloc (Nat.le_refl _) _).alloc (by simp) _).trans (hB.mono (by simp; omega)))⟩

/-- A list of five nil lists. -/
theorem twices_any (g : Nat) (w : World) (hg : g < w.heap.size) (h : ∀ j, j < 5 → w.cell? ⟨g, j, none⟩ = some nilS) : Calls Tryz.prog 175 #[.slice (some ⟨g, 0, none⟩) 5 5, .func (.func 138) #[] #[]] w fun e w' => e = .returned (i64 (-1)) ∧ Below w.heap.size w w' := by
  go_enter Tryz.func175, Tryz.ntmps175
  go_wp2_with fail
  go_loopw [8] (fun i wr => ∃ k : Nat, k ≤ 5 ∧ i = .int .i64 k ∧ Below w.heap.size w wr) (fun i _ => 5 - (intOf i).toNat)
  case atStart => exact ⟨0, by omega, rfl, Below.refl _ _⟩
  case round =>
    obtain ⟨k, hk, rfl, hB⟩ := hrel
    by_cases hlt : k < 5
    · have hc : wr.cell? ⟨g, k, none⟩ = some nilS := (hB.cell (p := ⟨g, k, none⟩) hg).trans (h k hlt)
      have HB := Lib.hid hB
      clear h hB
      go_wp2_with fail
      refine (hasTwice_nil _).mono ?_
      rintro e w1 ⟨rfl, hB1⟩
      have HB1 := Lib.hid hB1
      clear hB1
      go_wp2_with fail
      go_roundw
      case rel => exact ⟨k + 1, by omega, by go_num, HB.out.trans (HB1.out.mono HB.out.size)⟩
      case measure => simp [intOf]; omega
    · go_wp2_with fail
      go_ret
      exact ⟨rfl, hB⟩

theorem twice_any (g : Nat) (w : World) (hg : g < w.heap.size) (h : ∀ j, j < 5 → w.cell? ⟨g, j, none⟩ = some nilS) : Calls Tryz.prog 137 #[.slice (some ⟨g, 0, none⟩) 5 5, .func (.func 138) #[] #[]] w fun e w' => e = .returned (.bool false) ∧ Below w.heap.size w w' := by
  have H := Lib.hid (twices_any g w hg h)
  clear h
  go_enter Tryz.func137, Tryz.ntmps137
  go_wp2_with fail
  refine H.out.mono ?_
  rintro e w1 ⟨rfl, hB1⟩
  go_wp2_with fail
  go_ret
  exact ⟨rfl, hB1⟩

end Go.Proofs.YtkjjieloncdjhaaGreatDoor
