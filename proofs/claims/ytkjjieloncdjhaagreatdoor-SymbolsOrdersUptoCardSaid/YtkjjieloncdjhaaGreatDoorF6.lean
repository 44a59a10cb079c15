/- Trees: the closure. -/
import Derived.Test.YtkjjieloncdjhaaGreatDoorF8
import Derived.Test.YtkjjieloncdjhaaGreatDoorC
import Derived.Laws.BitsLemmas
namespace Go.Proofs.YtkjjieloncdjhaaGreatDoor
open Go Go.RowKit

theorem LB.drew {L : Nat} {W : World} (h : LB L W) : LB L W.drew := h.elim fun z hz => ⟨z, hz.drew⟩

theorem types_app (L : Nat) (w : World) (g n cap : Nat) (h : TyRow (69 + 1) L w (some ⟨g, 0, none⟩) n) (hl : LB L w) : Calls Tryz.prog 36 #[.slice (some ⟨g, 0, none⟩) n cap, .int .i64 1, ptr L] w (TyPost L w) := by
  generalize hd : 69 + 1 = d at h
  exact types_any d 1 L _ n cap _ (by omega) (by omega) h hl

set_option maxRecDepth 100000 in
set_option maxHeartbeats 4000000 in
theorem clos_tr (L p q : Nat) (deep : Int) (hd : deep ≤ 200) (h1 : 1 ≤ deep) (x : TrC) (W : World) (hI : TI L p q deep W) (hx : TrOk 69 L W x)
    (hT : ∀ W', Og L W W' → LB L W' → Calls Tryz.prog 37 #[.slice x.ka x.kl x.kc, .int .i64 (deep + 1), ptr L] W' (TyPost L W')) :
    Calls Tryz.prog 71 #[x.val, ptr p, ptr q] W fun e W' => BoolEnd e ∧ Og L W W' ∧ TI L p q deep W' := by
  obtain ⟨z, hz⟩ := hI.lb
  have c0 := hz.cell 0
  have f0 := hz.froz 0
  have cp := hI.bp.cell 0
  have cq := hI.bq.cell 0
  have lL := hz.lt
  have lp := hI.bp.lt
  have lq := hI.bq.lt
  have np := hI.np
  have nq := hI.nq
  have HI := Lib.hid hI
  have HT := Lib.hid hT
  have HZ := Lib.hid hz
  have HX := Lib.hid hx
  have htx := hx.tx
  clear hI hT hz hx
  go_enter Tryz.func71, Tryz.ntmps71
  go_upto_region 2 with fail
  generalize wrap64 (z - 1) = z1
  have hbx : Bl ((W.setCell ⟨L, 0, none⟩ (.int .i64 z1)).alloc (.cells x.cells.toArray 72)) W.heap.size 72 x.cells := by
    have := Bl.new (W.setCell ⟨L, 0, none⟩ (.int .i64 z1)) 72 x.cells
    simpa using this
  have hl2 : Bl ((W.setCell ⟨L, 0, none⟩ (.int .i64 z1)).alloc (.cells x.cells.toArray 72)) L 3 [.int .i64 z1] := (HZ.out.set 0 (.int .i64 z1)).alloc _
  have hog : Og L W ((W.setCell ⟨L, 0, none⟩ (.int .i64 z1)).alloc (.cells x.cells.toArray 72)) := ((Og.refl L W).set 0 _).alloc _
  have hlx : L < W.heap.size := lL
  clear c0 f0 cp cq lL lp lq np nq
  change Bl ((W.setCell ⟨L, 0, none⟩ (.int .i64 z1)).alloc (.cells #[.int .i64 x.kd, .int .i64 x.sy, .int .i64 x.nu, .string x.tx, .int .i64 x.tk, .int .i64 x.ts, .string x.tn, .int .i64 x.tu, .slice x.ta x.tl x.tc, .slice x.la x.ll x.lc, .slice x.ka x.kl x.kc, .int .i64 x.at'] 72)) W.heap.size 72 x.cells at hbx
  change Bl ((W.setCell ⟨L, 0, none⟩ (.int .i64 z1)).alloc (.cells #[.int .i64 x.kd, .int .i64 x.sy, .int .i64 x.nu, .string x.tx, .int .i64 x.tk, .int .i64 x.ts, .string x.tn, .int .i64 x.tu, .slice x.ta x.tl x.tc, .slice x.la x.ll x.lc, .slice x.ka x.kl x.kc, .int .i64 x.at'] 72)) L 3 [.int .i64 z1] at hl2
  change Og L W ((W.setCell ⟨L, 0, none⟩ (.int .i64 z1)).alloc (.cells #[.int .i64 x.kd, .int .i64 x.sy, .int .i64 x.nu, .string x.tx, .int .i64 x.tk, .int .i64 x.ts, .string x.tn, .int .i64 x.tu, .slice x.ta x.tl x.tc, .slice x.la x.ll x.lc, .slice x.ka x.kl x.kc, .int .i64 x.at'] 72)) at hog
  generalize (W.setCell ⟨L, 0, none⟩ (.int .i64 z1)).alloc (.cells #[.int .i64 x.kd, .int .i64 x.sy, .int .i64 x.nu, .string x.tx, .int .i64 x.tk, .int .i64 x.ts, .string x.tn, .int .i64 x.tu, .slice x.ta x.tl x.tc, .slice x.la x.ll x.lc, .slice x.ka x.kl x.kc, .int .i64 x.at'] 72) = W2 at *
  have I2 := Lib.hid (HI.out.og hog ⟨z1, hl2⟩)
  have HG := Lib.hid hog
  clear hog
  have c0 : W2.cell? ⟨L, 0, none⟩ = some (.int .i64 z1) := hl2.cell 0
  have HB := Lib.hid hbx
  have HS : Hid (∀ W', Og L W2 W' → (fun w' : World => w'.cell? ⟨W.heap.size, 3, none⟩ = some (.string x.tx) ∧ w'.cell? ⟨W.heap.size, 4, none⟩ = some (.int .i64 x.tk) ∧ w'.cell? ⟨W.heap.size, 5, none⟩ = some (.int .i64 x.ts) ∧ w'.cell? ⟨W.heap.size, 6, none⟩ = some (.string x.tn) ∧ w'.cell? ⟨W.heap.size, 7, none⟩ = some (.int .i64 x.tu) ∧ w'.cell? ⟨W.heap.size, 8, none⟩ = some (.slice x.ta x.tl x.tc) ∧ w'.cell? ⟨W.heap.size, 9, none⟩ = some (.slice x.la x.ll x.lc) ∧ w'.cell? ⟨W.heap.size, 10, none⟩ = some (.slice x.ka x.kl x.kc) ∧ w'.cell? ⟨p, 0, none⟩ = some (ptr L) ∧ w'.cell? ⟨q, 0, none⟩ = some (.int .i64 deep)) W') := Lib.hid (fun W' hg => by
    have e : ∀ j, W'.cell? ⟨W.heap.size, j, none⟩ = x.cells[j]? := fun j => (hg.cell (p := ⟨W.heap.size, j, none⟩) HB.out.lt (by show W.heap.size ≠ L; omega)).trans (HB.out.cell j)
    exact ⟨e 3, e 4, e 5, e 6, e 7, e 8, e 9, e 10, (hg.cell (p := ⟨p, 0, none⟩) I2.out.bp.lt I2.out.np).trans (I2.out.bp.cell 0), (hg.cell (p := ⟨q, 0, none⟩) I2.out.bq.lt I2.out.nq).trans (I2.out.bq.cell 0)⟩)
  have hSS := HS.out W2 (Og.refl L W2)
  obtain ⟨x3, x4, x5, x6, x7, x8, x9, x10, cp, cq⟩ := hSS
  have hsz := HG.out.size
  have hwr : IntKind.i64.wrap (deep + 1) = deep + 1 := by
    rw [IntKind.wrap_i64]
    omega
  have hmx : Tryz.prog.follows .mixedOrders = true := by kernel_rfl
  have O1 := Lib.hid ((Og.refl L W2).drew)
  clear hl2 hbx
  by_cases hz1 : z1 < 0
  · refine anyC_region (c := 30) (S := (fun w' : World => w'.cell? ⟨W.heap.size, 3, none⟩ = some (.string x.tx) ∧ w'.cell? ⟨W.heap.size, 4, none⟩ = some (.int .i64 x.tk) ∧ w'.cell? ⟨W.heap.size, 5, none⟩ = some (.int .i64 x.ts) ∧ w'.cell? ⟨W.heap.size, 6, none⟩ = some (.string x.tn) ∧ w'.cell? ⟨W.heap.size, 7, none⟩ = some (.int .i64 x.tu) ∧ w'.cell? ⟨W.heap.size, 8, none⟩ = some (.slice x.ta x.tl x.tc) ∧ w'.cell? ⟨W.heap.size, 9, none⟩ = some (.slice x.la x.ll x.lc) ∧ w'.cell? ⟨W.heap.size, 10, none⟩ = some (.slice x.ka x.kl x.kc) ∧ w'.cell? ⟨p, 0, none⟩ = some (ptr L) ∧ w'.cell? ⟨q, 0, none⟩ = some (.int .i64 deep))) hmx ?_
    have hS0 := HS.out W2.drew O1.out
    refine anyC_one (i := 0) (by kernel_rfl) rfl (by rfl) (fun K hK => ?_)
    go_simp
    refine hK.out _ _ (.inr (.inr hS0)) ?_
    clear hK K
    (try simp only [Act.put, List.setIfInBounds_toArray, List.set_cons_zero, List.set_cons_succ])
    refine anyC_one (i := 1) (by kernel_rfl) rfl (by rfl) (fun K hK => ?_)
    go_simp
    refine hK.out _ _ (.inr (.inr hS0)) ?_
    clear hK K
    (try simp only [Act.put, List.setIfInBounds_toArray, List.set_cons_zero, List.set_cons_succ])
    refine anyC_one (i := 2) (by kernel_rfl) rfl (by rfl) (fun K hK => ?_)
    go_simp
    refine hK.out _ _ (.inr (.inr hS0)) ?_
    clear hK K
    (try simp only [Act.put, List.setIfInBounds_toArray, List.set_cons_zero, List.set_cons_succ])
    refine anyC_one (i := 3) (by kernel_rfl) rfl (by rfl) (fun K hK => ?_)
    go_simp
    refine hK.out _ _ (.inr (.inr hS0)) ?_
    clear hK K
    (try simp only [Act.put, List.setIfInBounds_toArray, List.set_cons_zero, List.set_cons_succ])
    refine anyC_one (i := 4) (by kernel_rfl) rfl (by rfl) (fun K hK => ?_)
    go_simp
    refine hK.out _ _ (.inr (.inr hS0)) ?_
    clear hK K
    (try simp only [Act.put, List.setIfInBounds_toArray, List.set_cons_zero, List.set_cons_succ])
    refine anyC_take0 (i := 5) (v := undef) (some 15) (by rfl) rfl (by kernel_rfl) (by kernel_rfl) (by kernel_rfl) (fun _ _ _ h => h) (Or.inr ⟨by rfl, rfl⟩) (by decide) (Or.inr (by assumption)) ?_
    (try simp only [Act.put, List.setIfInBounds_toArray, List.set_cons_zero, List.set_cons_succ])
    refine anyC_take0 (i := 6) (v := undef) (some 16) (by rfl) rfl (by kernel_rfl) (by kernel_rfl) (by kernel_rfl) (fun _ _ _ h => h) (Or.inr ⟨by rfl, rfl⟩) (by decide) (Or.inr (by assumption)) ?_
    (try simp only [Act.put, List.setIfInBounds_toArray, List.set_cons_zero, List.set_cons_succ])
    refine anyC_take0 (i := 7) (v := undef) (some 17) (by rfl) rfl (by kernel_rfl) (by kernel_rfl) (by kernel_rfl) (fun _ _ _ h => h) (Or.inr ⟨by rfl, rfl⟩) (by decide) (Or.inr (by assumption)) ?_
    (try simp only [Act.put, List.setIfInBounds_toArray, List.set_cons_zero, List.set_cons_succ])
    refine anyC_take0 (i := 8) (v := undef) (some 18) (by rfl) rfl (by kernel_rfl) (by kernel_rfl) (by kernel_rfl) (fun _ _ _ h => h) (Or.inr ⟨by rfl, rfl⟩) (by decide) (Or.inr (by assumption)) ?_
    (try simp only [Act.put, List.setIfInBounds_toArray, List.set_cons_zero, List.set_cons_succ])
    refine anyC_one (i := 9) (by kernel_rfl) rfl (by rfl) (fun K hK => ?_)
    go_simp
    refine hK.out _ _ (.inr (.inr hS0)) ?_
    clear hK K
    (try simp only [Act.put, List.setIfInBounds_toArray, List.set_cons_zero, List.set_cons_succ])
    refine anyC_one (i := 10) (by kernel_rfl) rfl (by rfl) (fun K hK => ?_)
    go_simp
    refine hK.out _ _ (.inr (.inr hS0)) ?_
    clear hK K
    (try simp only [Act.put, List.setIfInBounds_toArray, List.set_cons_zero, List.set_cons_succ])
    refine anyC_take0 (i := 11) (v := undef) (some 21) (by rfl) rfl (by kernel_rfl) (by kernel_rfl) (by kernel_rfl) (fun _ _ _ h => h) (Or.inr ⟨by rfl, rfl⟩) (by decide) (Or.inr (by assumption)) ?_
    (try simp only [Act.put, List.setIfInBounds_toArray, List.set_cons_zero, List.set_cons_succ])
    refine anyC_take0 (i := 12) (v := undef) (some 22) (by rfl) rfl (by kernel_rfl) (by kernel_rfl) (by kernel_rfl) (fun _ _ _ h => h) (Or.inr ⟨by rfl, rfl⟩) (by decide) (Or.inr (by assumption)) ?_
    (try simp only [Act.put, List.setIfInBounds_toArray, List.set_cons_zero, List.set_cons_succ])
    refine anyC_take0 (i := 13) (v := undef) (some 23) (by rfl) rfl (by kernel_rfl) (by kernel_rfl) (by kernel_rfl) (fun _ _ _ h => h) (Or.inr ⟨by rfl, rfl⟩) (by decide) (Or.inr (by assumption)) ?_
    (try simp only [Act.put, List.setIfInBounds_toArray, List.set_cons_zero, List.set_cons_succ])
    refine anyC_take0 (i := 14) (v := undef) (some 24) (by rfl) rfl (by kernel_rfl) (by kernel_rfl) (by kernel_rfl) (fun _ _ _ h => h) (Or.inr ⟨by rfl, rfl⟩) (by decide) (Or.inr (by assumption)) ?_
    (try simp only [Act.put, List.setIfInBounds_toArray, List.set_cons_zero, List.set_cons_succ])
    refine anyC_take0 (i := 15) (v := undef) (some 25) (by rfl) rfl (by kernel_rfl) (by kernel_rfl) (by kernel_rfl) (fun _ _ _ h => h) (Or.inr ⟨by rfl, rfl⟩) (by decide) (Or.inr (by assumption)) ?_
    (try simp only [Act.put, List.setIfInBounds_toArray, List.set_cons_zero, List.set_cons_succ])
    refine anyC_take0 (i := 16) (v := undef) (some 26) (by rfl) rfl (by kernel_rfl) (by kernel_rfl) (by kernel_rfl) (fun _ _ _ h => h) (Or.inr ⟨by rfl, rfl⟩) (by decide) (Or.inr (by assumption)) ?_
    (try simp only [Act.put, List.setIfInBounds_toArray, List.set_cons_zero, List.set_cons_succ])
    refine anyC_take0 (i := 17) (v := undef) (some 27) (by rfl) rfl (by kernel_rfl) (by kernel_rfl) (by kernel_rfl) (fun _ _ _ h => h) (Or.inr ⟨by rfl, rfl⟩) (by decide) (Or.inr (by assumption)) ?_
    (try simp only [Act.put, List.setIfInBounds_toArray, List.set_cons_zero, List.set_cons_succ])
    refine anyC_take0 (i := 18) (v := undef) (some 28) (by rfl) rfl (by kernel_rfl) (by kernel_rfl) (by kernel_rfl) (fun _ _ _ h => h) (Or.inr ⟨by rfl, rfl⟩) (by decide) (Or.inr (by assumption)) ?_
    (try simp only [Act.put, List.setIfInBounds_toArray, List.set_cons_zero, List.set_cons_succ])
    refine anyC_take0 (i := 19) (v := undef) (some 29) (by rfl) rfl (by kernel_rfl) (by kernel_rfl) (by kernel_rfl) (fun _ _ _ h => h) (Or.inr ⟨by rfl, rfl⟩) (by decide) (Or.inr (by assumption)) ?_
    (try simp only [Act.put, List.setIfInBounds_toArray, List.set_cons_zero, List.set_cons_succ])
    refine anyC_one (i := 20) (by kernel_rfl) rfl (by rfl) (fun K hK => ?_)
    go_simp
    refine hK.out _ _ (.inr (.inr hS0)) ?_
    clear hK K
    (try simp only [Act.put, List.setIfInBounds_toArray, List.set_cons_zero, List.set_cons_succ])
    refine anyC_one (i := 21) (by kernel_rfl) rfl (by rfl) (fun K hK => ?_)
    go_simp
    refine hK.out _ _ (.inr (.inr hS0)) ?_
    clear hK K
    (try simp only [Act.put, List.setIfInBounds_toArray, List.set_cons_zero, List.set_cons_succ])
    refine anyC_take0 (i := 22) (v := undef) (some 32) (by rfl) rfl (by kernel_rfl) (by kernel_rfl) (by kernel_rfl) (fun _ _ _ h => h) (Or.inr ⟨by rfl, rfl⟩) (by decide) (Or.inr (by assumption)) ?_
    (try simp only [Act.put, List.setIfInBounds_toArray, List.set_cons_zero, List.set_cons_succ])
    refine anyC_take0 (i := 23) (v := undef) (some 33) (by rfl) rfl (by kernel_rfl) (by kernel_rfl) (by kernel_rfl) (fun _ _ _ h => h) (Or.inr ⟨by rfl, rfl⟩) (by decide) (Or.inr (by assumption)) ?_
    (try simp only [Act.put, List.setIfInBounds_toArray, List.set_cons_zero, List.set_cons_succ])
    refine anyC_take0 (i := 24) (v := undef) (some 34) (by rfl) rfl (by kernel_rfl) (by kernel_rfl) (by kernel_rfl) (fun _ _ _ h => h) (Or.inr ⟨by rfl, rfl⟩) (by decide) (Or.inr (by assumption)) ?_
    (try simp only [Act.put, List.setIfInBounds_toArray, List.set_cons_zero, List.set_cons_succ])
    refine anyC_take0 (i := 25) (v := undef) (some 35) (by rfl) rfl (by kernel_rfl) (by kernel_rfl) (by kernel_rfl) (fun _ _ _ h => h) (Or.inr ⟨by rfl, rfl⟩) (by decide) (Or.inr (by assumption)) ?_
    (try simp only [Act.put, List.setIfInBounds_toArray, List.set_cons_zero, List.set_cons_succ])
    refine anyC_take0 (i := 26) (v := undef) (some 36) (by rfl) rfl (by kernel_rfl) (by kernel_rfl) (by kernel_rfl) (fun _ _ _ h => h) (Or.inr ⟨by rfl, rfl⟩) (by decide) (Or.inr (by assumption)) ?_
    (try simp only [Act.put, List.setIfInBounds_toArray, List.set_cons_zero, List.set_cons_succ])
    refine anyC_take0 (i := 27) (v := undef) (some 37) (by rfl) rfl (by kernel_rfl) (by kernel_rfl) (by kernel_rfl) (fun _ _ _ h => h) (Or.inr ⟨by rfl, rfl⟩) (by decide) (Or.inr (by assumption)) ?_
    (try simp only [Act.put, List.setIfInBounds_toArray, List.set_cons_zero, List.set_cons_succ])
    refine anyC_take0 (i := 28) (v := undef) (some 38) (by rfl) rfl (by kernel_rfl) (by kernel_rfl) (by kernel_rfl) (fun _ _ _ h => h) (Or.inr ⟨by rfl, rfl⟩) (by decide) (Or.inr (by assumption)) ?_
    (try simp only [Act.put, List.setIfInBounds_toArray, List.set_cons_zero, List.set_cons_succ])
    refine anyC_one (i := 29) (by kernel_rfl) rfl (by rfl) (fun K hK => ?_)
    go_simp
    refine hK.out _ _ (.inr (.inr hS0)) ?_
    clear hK K
    (try simp only [Act.put, List.setIfInBounds_toArray, List.set_cons_zero, List.set_cons_succ])
    refine anyC_one (i := 30) (by kernel_rfl) rfl (by rfl) (fun K hK => ?_)
    go_simp
    refine hK.out _ _ (.inl rfl) ?_
    apply anyC_end
    rotate_left
    · kernel_rfl
    go_wp2_with fail
    go_ret
    exact ⟨⟨_, rfl⟩, HG.out.trans O1.out, I2.out.og O1.out (I2.out.lb.drew)⟩
  · by_cases hnb : 200 < x.tx.size
    · have q1 : (200 : Int) < (x.tx.size : Int) := by omega
      refine anyC_region (c := 30) (S := (fun w' : World => w'.cell? ⟨W.heap.size, 3, none⟩ = some (.string x.tx) ∧ w'.cell? ⟨W.heap.size, 4, none⟩ = some (.int .i64 x.tk) ∧ w'.cell? ⟨W.heap.size, 5, none⟩ = some (.int .i64 x.ts) ∧ w'.cell? ⟨W.heap.size, 6, none⟩ = some (.string x.tn) ∧ w'.cell? ⟨W.heap.size, 7, none⟩ = some (.int .i64 x.tu) ∧ w'.cell? ⟨W.heap.size, 8, none⟩ = some (.slice x.ta x.tl x.tc) ∧ w'.cell? ⟨W.heap.size, 9, none⟩ = some (.slice x.la x.ll x.lc) ∧ w'.cell? ⟨W.heap.size, 10, none⟩ = some (.slice x.ka x.kl x.kc) ∧ w'.cell? ⟨p, 0, none⟩ = some (ptr L) ∧ w'.cell? ⟨q, 0, none⟩ = some (.int .i64 deep))) hmx ?_
      have hS0 := HS.out W2.drew O1.out
      refine anyC_one (i := 0) (by kernel_rfl) rfl (by rfl) (fun K hK => ?_)
      go_simp
      refine hK.out _ _ (.inr (.inr hS0)) ?_
      clear hK K
      (try simp only [Act.put, List.setIfInBounds_toArray, List.set_cons_zero, List.set_cons_succ])
      refine anyC_one (i := 1) (by kernel_rfl) rfl (by rfl) (fun K hK => ?_)
      go_simp
      refine hK.out _ _ (.inr (.inr hS0)) ?_
      clear hK K
      (try simp only [Act.put, List.setIfInBounds_toArray, List.set_cons_zero, List.set_cons_succ])
      refine anyC_one (i := 2) (by kernel_rfl) rfl (by rfl) (fun K hK => ?_)
      go_simp
      refine hK.out _ _ (.inr (.inr hS0)) ?_
      clear hK K
      (try simp only [Act.put, List.setIfInBounds_toArray, List.set_cons_zero, List.set_cons_succ])
      refine anyC_one (i := 3) (by kernel_rfl) rfl (by rfl) (fun K hK => ?_)
      go_simp
      refine hK.out _ _ (.inr (.inr hS0)) ?_
      clear hK K
      (try simp only [Act.put, List.setIfInBounds_toArray, List.set_cons_zero, List.set_cons_succ])
      refine anyC_one (i := 4) (by kernel_rfl) rfl (by rfl) (fun K hK => ?_)
      go_simp
      refine hK.out _ _ (.inr (.inr hS0)) ?_
      clear hK K
      (try simp only [Act.put, List.setIfInBounds_toArray, List.set_cons_zero, List.set_cons_succ])
      refine anyC_one (i := 5) (by kernel_rfl) rfl (by rfl) (fun K hK => ?_)
      go_simp
      refine hK.out _ _ (.inr (.inr hS0)) ?_
      clear hK K
      (try simp only [Act.put, List.setIfInBounds_toArray, List.set_cons_zero, List.set_cons_succ])
      refine anyC_one (i := 6) (by kernel_rfl) rfl (by rfl) (fun K hK => ?_)
      go_simp
      refine hK.out _ _ (.inr (.inr hS0)) ?_
      clear hK K
      (try simp only [Act.put, List.setIfInBounds_toArray, List.set_cons_zero, List.set_cons_succ])
      refine anyC_one (i := 7) (by kernel_rfl) rfl (by rfl) (fun K hK => ?_)
      go_simp
      refine hK.out _ _ (.inr (.inr hS0)) ?_
      clear hK K
      (try simp only [Act.put, List.setIfInBounds_toArray, List.set_cons_zero, List.set_cons_succ])
      refine anyC_one (i := 8) (by kernel_rfl) rfl (by rfl) (fun K hK => ?_)
      go_simp
      refine hK.out _ _ (.inr (.inr hS0)) ?_
      clear hK K
      (try simp only [Act.put, List.setIfInBounds_toArray, List.set_cons_zero, List.set_cons_succ])
      refine anyC_one (i := 9) (by kernel_rfl) rfl (by rfl) (fun K hK => ?_)
      go_simp
      refine hK.out _ _ (.inr (.inr hS0)) ?_
      clear hK K
      (try simp only [Act.put, List.setIfInBounds_toArray, List.set_cons_zero, List.set_cons_succ])
      refine anyC_one (i := 10) (by kernel_rfl) rfl (by rfl) (fun K hK => ?_)
      go_simp
      refine hK.out _ _ (.inr (.inr hS0)) ?_
      clear hK K
      (try simp only [Act.put, List.setIfInBounds_toArray, List.set_cons_zero, List.set_cons_succ])
      refine anyC_take0 (i := 11) (v := undef) (some 21) (by rfl) rfl (by kernel_rfl) (by kernel_rfl) (by kernel_rfl) (fun _ _ _ h => h) (Or.inr ⟨by rfl, rfl⟩) (by decide) (Or.inr (by assumption)) ?_
      (try simp only [Act.put, List.setIfInBounds_toArray, List.set_cons_zero, List.set_cons_succ])
      refine anyC_take0 (i := 12) (v := undef) (some 22) (by rfl) rfl (by kernel_rfl) (by kernel_rfl) (by kernel_rfl) (fun _ _ _ h => h) (Or.inr ⟨by rfl, rfl⟩) (by decide) (Or.inr (by assumption)) ?_
      (try simp only [Act.put, List.setIfInBounds_toArray, List.set_cons_zero, List.set_cons_succ])
      refine anyC_take0 (i := 13) (v := undef) (some 23) (by rfl) rfl (by kernel_rfl) (by kernel_rfl) (by kernel_rfl) (fun _ _ _ h => h) (Or.inr ⟨by rfl, rfl⟩) (by decide) (Or.inr (by assumption)) ?_
      (try simp only [Act.put, List.setIfInBounds_toArray, List.set_cons_zero, List.set_cons_succ])
      refine anyC_take0 (i := 14) (v := undef) (some 24) (by rfl) rfl (by kernel_rfl) (by kernel_rfl) (by kernel_rfl) (fun _ _ _ h => h) (Or.inr ⟨by rfl, rfl⟩) (by decide) (Or.inr (by assumption)) ?_
      (try simp only [Act.put, List.setIfInBounds_toArray, List.set_cons_zero, List.set_cons_succ])
      refine anyC_take0 (i := 15) (v := undef) (some 25) (by rfl) rfl (by kernel_rfl) (by kernel_rfl) (by kernel_rfl) (fun _ _ _ h => h) (Or.inr ⟨by rfl, rfl⟩) (by decide) (Or.inr (by assumption)) ?_
      (try simp only [Act.put, List.setIfInBounds_toArray, List.set_cons_zero, List.set_cons_succ])
      refine anyC_take0 (i := 16) (v := undef) (some 26) (by rfl) rfl (by kernel_rfl) (by kernel_rfl) (by kernel_rfl) (fun _ _ _ h => h) (Or.inr ⟨by rfl, rfl⟩) (by decide) (Or.inr (by assumption)) ?_
      (try simp only [Act.put, List.setIfInBounds_toArray, List.set_cons_zero, List.set_cons_succ])
      refine anyC_take0 (i := 17) (v := undef) (some 27) (by rfl) rfl (by kernel_rfl) (by kernel_rfl) (by kernel_rfl) (fun _ _ _ h => h) (Or.inr ⟨by rfl, rfl⟩) (by decide) (Or.inr (by assumption)) ?_
      (try simp only [Act.put, List.setIfInBounds_toArray, List.set_cons_zero, List.set_cons_succ])
      refine anyC_take0 (i := 18) (v := undef) (some 28) (by rfl) rfl (by kernel_rfl) (by kernel_rfl) (by kernel_rfl) (fun _ _ _ h => h) (Or.inr ⟨by rfl, rfl⟩) (by decide) (Or.inr (by assumption)) ?_
      (try simp only [Act.put, List.setIfInBounds_toArray, List.set_cons_zero, List.set_cons_succ])
      refine anyC_take0 (i := 19) (v := undef) (some 29) (by rfl) rfl (by kernel_rfl) (by kernel_rfl) (by kernel_rfl) (fun _ _ _ h => h) (Or.inr ⟨by rfl, rfl⟩) (by decide) (Or.inr (by assumption)) ?_
      (try simp only [Act.put, List.setIfInBounds_toArray, List.set_cons_zero, List.set_cons_succ])
      refine anyC_one (i := 20) (by kernel_rfl) rfl (by rfl) (fun K hK => ?_)
      go_simp
      refine hK.out _ _ (.inr (.inr hS0)) ?_
      clear hK K
      (try simp only [Act.put, List.setIfInBounds_toArray, List.set_cons_zero, List.set_cons_succ])
      refine anyC_one (i := 21) (by kernel_rfl) rfl (by rfl) (fun K hK => ?_)
      go_simp
      refine hK.out _ _ (.inr (.inr hS0)) ?_
      clear hK K
      (try simp only [Act.put, List.setIfInBounds_toArray, List.set_cons_zero, List.set_cons_succ])
      refine anyC_take0 (i := 22) (v := undef) (some 32) (by rfl) rfl (by kernel_rfl) (by kernel_rfl) (by kernel_rfl) (fun _ _ _ h => h) (Or.inr ⟨by rfl, rfl⟩) (by decide) (Or.inr (by assumption)) ?_
      (try simp only [Act.put, List.setIfInBounds_toArray, List.set_cons_zero, List.set_cons_succ])
      refine anyC_take0 (i := 23) (v := undef) (some 33) (by rfl) rfl (by kernel_rfl) (by kernel_rfl) (by kernel_rfl) (fun _ _ _ h => h) (Or.inr ⟨by rfl, rfl⟩) (by decide) (Or.inr (by assumption)) ?_
      (try simp only [Act.put, List.setIfInBounds_toArray, List.set_cons_zero, List.set_cons_succ])
      refine anyC_take0 (i := 24) (v := undef) (some 34) (by rfl) rfl (by kernel_rfl) (by kernel_rfl) (by kernel_rfl) (fun _ _ _ h => h) (Or.inr ⟨by rfl, rfl⟩) (by decide) (Or.inr (by assumption)) ?_
      (try simp only [Act.put, List.setIfInBounds_toArray, List.set_cons_zero, List.set_cons_succ])
      refine anyC_take0 (i := 25) (v := undef) (some 35) (by rfl) rfl (by kernel_rfl) (by kernel_rfl) (by kernel_rfl) (fun _ _ _ h => h) (Or.inr ⟨by rfl, rfl⟩) (by decide) (Or.inr (by assumption)) ?_
      (try simp only [Act.put, List.setIfInBounds_toArray, List.set_cons_zero, List.set_cons_succ])
      refine anyC_take0 (i := 26) (v := undef) (some 36) (by rfl) rfl (by kernel_rfl) (by kernel_rfl) (by kernel_rfl) (fun _ _ _ h => h) (Or.inr ⟨by rfl, rfl⟩) (by decide) (Or.inr (by assumption)) ?_
      (try simp only [Act.put, List.setIfInBounds_toArray, List.set_cons_zero, List.set_cons_succ])
      refine anyC_take0 (i := 27) (v := undef) (some 37) (by rfl) rfl (by kernel_rfl) (by kernel_rfl) (by kernel_rfl) (fun _ _ _ h => h) (Or.inr ⟨by rfl, rfl⟩) (by decide) (Or.inr (by assumption)) ?_
      (try simp only [Act.put, List.setIfInBounds_toArray, List.set_cons_zero, List.set_cons_succ])
      refine anyC_take0 (i := 28) (v := undef) (some 38) (by rfl) rfl (by kernel_rfl) (by kernel_rfl) (by kernel_rfl) (fun _ _ _ h => h) (Or.inr ⟨by rfl, rfl⟩) (by decide) (Or.inr (by assumption)) ?_
      (try simp only [Act.put, List.setIfInBounds_toArray, List.set_cons_zero, List.set_cons_succ])
      refine anyC_one (i := 29) (by kernel_rfl) rfl (by rfl) (fun K hK => ?_)
      go_simp
      refine hK.out _ _ (.inr (.inr hS0)) ?_
      clear hK K
      (try simp only [Act.put, List.setIfInBounds_toArray, List.set_cons_zero, List.set_cons_succ])
      refine anyC_one (i := 30) (by kernel_rfl) rfl (by rfl) (fun K hK => ?_)
      go_simp
      refine hK.out _ _ (.inl rfl) ?_
      apply anyC_end
      rotate_left
      · kernel_rfl
      go_wp2_with fail
      go_ret
      exact ⟨⟨_, rfl⟩, HG.out.trans O1.out, I2.out.og O1.out (I2.out.lb.drew)⟩
    · have q1 : ¬ (200 : Int) < (x.tx.size : Int) := by omega
      refine anyC_region (c := 30) (S := (fun w' : World => w'.cell? ⟨W.heap.size, 3, none⟩ = some (.string x.tx) ∧ w'.cell? ⟨W.heap.size, 4, none⟩ = some (.int .i64 x.tk) ∧ w'.cell? ⟨W.heap.size, 5, none⟩ = some (.int .i64 x.ts) ∧ w'.cell? ⟨W.heap.size, 6, none⟩ = some (.string x.tn) ∧ w'.cell? ⟨W.heap.size, 7, none⟩ = some (.int .i64 x.tu) ∧ w'.cell? ⟨W.heap.size, 8, none⟩ = some (.slice x.ta x.tl x.tc) ∧ w'.cell? ⟨W.heap.size, 9, none⟩ = some (.slice x.la x.ll x.lc) ∧ w'.cell? ⟨W.heap.size, 10, none⟩ = some (.slice x.ka x.kl x.kc) ∧ w'.cell? ⟨p, 0, none⟩ = some (ptr L) ∧ w'.cell? ⟨q, 0, none⟩ = some (.int .i64 deep))) hmx ?_
      have hS0 := HS.out W2.drew O1.out
      refine anyC_one (i := 0) (by kernel_rfl) rfl (by rfl) (fun K hK => ?_)
      go_simp
      refine hK.out _ _ (.inr (.inr hS0)) ?_
      clear hK K
      (try simp only [Act.put, List.setIfInBounds_toArray, List.set_cons_zero, List.set_cons_succ])
      refine anyC_one (i := 1) (by kernel_rfl) rfl (by rfl) (fun K hK => ?_)
      go_simp
      refine hK.out _ _ (.inr (.inr hS0)) ?_
      clear hK K
      (try simp only [Act.put, List.setIfInBounds_toArray, List.set_cons_zero, List.set_cons_succ])
      refine anyC_one (i := 2) (by kernel_rfl) rfl (by rfl) (fun K hK => ?_)
      go_simp
      refine hK.out _ _ (.inr (.inr hS0)) ?_
      clear hK K
      (try simp only [Act.put, List.setIfInBounds_toArray, List.set_cons_zero, List.set_cons_succ])
      refine anyC_one (i := 3) (by kernel_rfl) rfl (by rfl) (fun K hK => ?_)
      go_simp
      refine hK.out _ _ (.inr (.inr hS0)) ?_
      clear hK K
      (try simp only [Act.put, List.setIfInBounds_toArray, List.set_cons_zero, List.set_cons_succ])
      refine anyC_one (i := 4) (by kernel_rfl) rfl (by rfl) (fun K hK => ?_)
      go_simp
      refine hK.out _ _ (.inr (.inr hS0)) ?_
      clear hK K
      (try simp only [Act.put, List.setIfInBounds_toArray, List.set_cons_zero, List.set_cons_succ])
      refine anyC_one (i := 5) (by kernel_rfl) rfl (by rfl) (fun K hK => ?_)
      go_simp
      refine hK.out _ _ (.inr (.inr hS0)) ?_
      clear hK K
      (try simp only [Act.put, List.setIfInBounds_toArray, List.set_cons_zero, List.set_cons_succ])
      refine anyC_one (i := 6) (by kernel_rfl) rfl (by rfl) (fun K hK => ?_)
      go_simp
      refine hK.out _ _ (.inr (.inr hS0)) ?_
      clear hK K
      (try simp only [Act.put, List.setIfInBounds_toArray, List.set_cons_zero, List.set_cons_succ])
      refine anyC_one (i := 7) (by kernel_rfl) rfl (by rfl) (fun K hK => ?_)
      go_simp
      refine hK.out _ _ (.inr (.inr hS0)) ?_
      clear hK K
      (try simp only [Act.put, List.setIfInBounds_toArray, List.set_cons_zero, List.set_cons_succ])
      refine anyC_one (i := 8) (by kernel_rfl) rfl (by rfl) (fun K hK => ?_)
      go_simp
      refine hK.out _ _ (.inr (.inr hS0)) ?_
      clear hK K
      (try simp only [Act.put, List.setIfInBounds_toArray, List.set_cons_zero, List.set_cons_succ])
      refine anyC_one (i := 9) (by kernel_rfl) rfl (by rfl) (fun K hK => ?_)
      go_simp
      refine hK.out _ _ (.inr (.inr hS0)) ?_
      clear hK K
      (try simp only [Act.put, List.setIfInBounds_toArray, List.set_cons_zero, List.set_cons_succ])
      refine anyC_one (i := 10) (by kernel_rfl) rfl (by rfl) (fun K hK => ?_)
      go_simp
      refine hK.out _ _ (.inr (.inr hS0)) ?_
      clear hK K
      (try simp only [Act.put, List.setIfInBounds_toArray, List.set_cons_zero, List.set_cons_succ])
      refine anyC_take0 (i := 11) (v := ?_) (some 21) (by rfl) rfl (by kernel_rfl) (by kernel_rfl) (by kernel_rfl) (fun _ _ _ h => h) (Or.inl ⟨by rfl, ?_⟩) (by decide) (Or.inr (by assumption)) ?_
      rotate_left
      · (intro w; go_simp; try with_reducible rfl)
      (try simp only [Act.put, List.setIfInBounds_toArray, List.set_cons_zero, List.set_cons_succ])
      refine anyC_take (i := 12) (v := ?_) (some 22) (by rfl) rfl (by kernel_rfl) (by kernel_rfl) (by kernel_rfl) (by kernel_rfl) (by kernel_rfl) (fun _ _ _ h => h) (Or.inl ⟨by rfl, ?_⟩) (by assumption) ?_
      rotate_left
      · (intro w hSw; (try dsimp only at hSw); go_simp; try with_reducible rfl)
      (try simp only [Act.put, List.setIfInBounds_toArray, List.set_cons_zero, List.set_cons_succ])
      refine anyC_take0 (i := 14) (v := ?_) (some 24) (by rfl) rfl (by kernel_rfl) (by kernel_rfl) (by kernel_rfl) (fun _ _ _ h => h) (Or.inl ⟨by rfl, ?_⟩) (by decide) (Or.inr (by assumption)) ?_
      rotate_left
      · (intro w; go_simp; try with_reducible rfl)
      (try simp only [Act.put, List.setIfInBounds_toArray, List.set_cons_zero, List.set_cons_succ])
      refine anyC_take (i := 15) (v := ?_) (some 25) (by rfl) rfl (by kernel_rfl) (by kernel_rfl) (by kernel_rfl) (by kernel_rfl) (by kernel_rfl) (fun _ _ _ h => h) (Or.inl ⟨by rfl, ?_⟩) (by assumption) ?_
      rotate_left
      · (intro w hSw; (try dsimp only at hSw); go_simp; try with_reducible rfl)
      (try simp only [Act.put, List.setIfInBounds_toArray, List.set_cons_zero, List.set_cons_succ])
      refine anyC_take (i := 17) (v := ?_) (some 27) (by rfl) rfl (by kernel_rfl) (by kernel_rfl) (by kernel_rfl) (by kernel_rfl) (by kernel_rfl) (fun _ _ _ h => h) (Or.inl ⟨by rfl, ?_⟩) (by assumption) ?_
      rotate_left
      · (intro w hSw; (try dsimp only at hSw); go_simp; try with_reducible rfl)
      (try simp only [Act.put, List.setIfInBounds_toArray, List.set_cons_zero, List.set_cons_succ])
      refine anyC_one (i := 13) (by kernel_rfl) rfl (by rfl) (fun K hK => ?_)
      have hS1 := HS.out (W2.drew.alloc (.cells #[.int .i64 x.tk, .int .i64 x.ts, .string x.tn, .int .i64 x.tu, .slice x.ta x.tl x.tc] 59)) (O1.out.alloc _)
      go_simp
      refine hK.out _ _ (.inr (.inr hS1)) ?_
      clear hK K
      (try simp only [Act.put, List.setIfInBounds_toArray, List.set_cons_zero, List.set_cons_succ])
      refine anyC_one (i := 16) (by kernel_rfl) rfl (by rfl) (fun K hK => ?_)
      refine wp_app (d := 69) (L := L) (W := W) (lb := W2.heap.size) _ _ (by rfl) (by rfl) (by rfl) ((HG.out.trans O1.out).alloc _) hsz (Bl.new W2.drew 59 (tyC x.tk x.ts x.tu x.tn x.ta x.tl x.tc)) (by omega) (I2.out.lb.drew.alloc _) HX.out.tn HX.out.ta HX.out.la HX.out.ll HX.out.nil ?_
      intro g cap w3 hty hgrow hlb3
      have O3 := Lib.hid ((O1.out.alloc _).grownNew hgrow (Nat.le_refl _))
      have CT := Lib.hid (types_app L w3 g (1 + x.ll) cap hty hlb3)
      have hS2 := HS.out w3 O3.out
      clear hty hgrow
      refine hK.out _ _ (.inr (.inr hS2)) ?_
      clear hK K
      (try simp only [Act.put, List.setIfInBounds_toArray])
      refine anyC_one (i := 18) (by kernel_rfl) rfl (by rfl) (fun K hK => ?_)
      go_simp
      refine CT.out.mono ?_
      rintro e w4 ⟨⟨r, rfl⟩, hg4, hl4⟩
      have O4 := Lib.hid (O3.out.trans hg4)
      have L4 := Lib.hid hl4
      have hS3 := HS.out w4 O4.out
      clear hg4 hl4 CT
      refine hK.out _ _ (.inr (.inr hS3)) ?_
      clear hK K
      (try simp only [Act.put, List.setIfInBounds_toArray, List.set_cons_zero, List.set_cons_succ])
      cases r
      · refine anyC_one (i := 19) (by kernel_rfl) rfl (by rfl) (fun K hK => ?_)
        go_simp
        refine hK.out _ _ (.inr (.inr hS3)) ?_
        clear hK K
        (try simp only [Act.put, List.setIfInBounds_toArray, List.set_cons_zero, List.set_cons_succ])
        refine anyC_one (i := 20) (by kernel_rfl) rfl (by rfl) (fun K hK => ?_)
        go_simp
        refine hK.out _ _ (.inr (.inr hS3)) ?_
        clear hK K
        (try simp only [Act.put, List.setIfInBounds_toArray, List.set_cons_zero, List.set_cons_succ])
        refine anyC_one (i := 21) (by kernel_rfl) rfl (by rfl) (fun K hK => ?_)
        go_simp
        refine hK.out _ _ (.inr (.inr hS3)) ?_
        clear hK K
        (try simp only [Act.put, List.setIfInBounds_toArray, List.set_cons_zero, List.set_cons_succ])
        refine anyC_take0 (i := 22) (v := undef) (some 32) (by rfl) rfl (by kernel_rfl) (by kernel_rfl) (by kernel_rfl) (fun _ _ _ h => h) (Or.inr ⟨by rfl, rfl⟩) (by decide) (Or.inr (by assumption)) ?_
        (try simp only [Act.put, List.setIfInBounds_toArray, List.set_cons_zero, List.set_cons_succ])
        refine anyC_take0 (i := 23) (v := undef) (some 33) (by rfl) rfl (by kernel_rfl) (by kernel_rfl) (by kernel_rfl) (fun _ _ _ h => h) (Or.inr ⟨by rfl, rfl⟩) (by decide) (Or.inr (by assumption)) ?_
        (try simp only [Act.put, List.setIfInBounds_toArray, List.set_cons_zero, List.set_cons_succ])
        refine anyC_take0 (i := 24) (v := undef) (some 34) (by rfl) rfl (by kernel_rfl) (by kernel_rfl) (by kernel_rfl) (fun _ _ _ h => h) (Or.inr ⟨by rfl, rfl⟩) (by decide) (Or.inr (by assumption)) ?_
        (try simp only [Act.put, List.setIfInBounds_toArray, List.set_cons_zero, List.set_cons_succ])
        refine anyC_take0 (i := 25) (v := undef) (some 35) (by rfl) rfl (by kernel_rfl) (by kernel_rfl) (by kernel_rfl) (fun _ _ _ h => h) (Or.inr ⟨by rfl, rfl⟩) (by decide) (Or.inr (by assumption)) ?_
        (try simp only [Act.put, List.setIfInBounds_toArray, List.set_cons_zero, List.set_cons_succ])
        refine anyC_take0 (i := 26) (v := undef) (some 36) (by rfl) rfl (by kernel_rfl) (by kernel_rfl) (by kernel_rfl) (fun _ _ _ h => h) (Or.inr ⟨by rfl, rfl⟩) (by decide) (Or.inr (by assumption)) ?_
        (try simp only [Act.put, List.setIfInBounds_toArray, List.set_cons_zero, List.set_cons_succ])
        refine anyC_take0 (i := 27) (v := undef) (some 37) (by rfl) rfl (by kernel_rfl) (by kernel_rfl) (by kernel_rfl) (fun _ _ _ h => h) (Or.inr ⟨by rfl, rfl⟩) (by decide) (Or.inr (by assumption)) ?_
        (try simp only [Act.put, List.setIfInBounds_toArray, List.set_cons_zero, List.set_cons_succ])
        refine anyC_take0 (i := 28) (v := undef) (some 38) (by rfl) rfl (by kernel_rfl) (by kernel_rfl) (by kernel_rfl) (fun _ _ _ h => h) (Or.inr ⟨by rfl, rfl⟩) (by decide) (Or.inr (by assumption)) ?_
        (try simp only [Act.put, List.setIfInBounds_toArray, List.set_cons_zero, List.set_cons_succ])
        refine anyC_one (i := 29) (by kernel_rfl) rfl (by rfl) (fun K hK => ?_)
        go_simp
        refine hK.out _ _ (.inr (.inr hS3)) ?_
        clear hK K
        (try simp only [Act.put, List.setIfInBounds_toArray, List.set_cons_zero, List.set_cons_succ])
        refine anyC_one (i := 30) (by kernel_rfl) rfl (by rfl) (fun K hK => ?_)
        go_simp
        refine hK.out _ _ (.inl rfl) ?_
        apply anyC_end
        rotate_left
        · kernel_rfl
        go_wp2_with fail
        go_ret
        exact ⟨⟨_, rfl⟩, HG.out.trans O4.out, I2.out.og O4.out L4.out⟩
      · refine anyC_one (i := 19) (by kernel_rfl) rfl (by rfl) (fun K hK => ?_)
        go_simp
        refine hK.out _ _ (.inr (.inr hS3)) ?_
        clear hK K
        (try simp only [Act.put, List.setIfInBounds_toArray, List.set_cons_zero, List.set_cons_succ])
        refine anyC_one (i := 20) (by kernel_rfl) rfl (by rfl) (fun K hK => ?_)
        go_simp
        refine hK.out _ _ (.inr (.inr hS3)) ?_
        clear hK K
        (try simp only [Act.put, List.setIfInBounds_toArray, List.set_cons_zero, List.set_cons_succ])
        refine anyC_one (i := 21) (by kernel_rfl) rfl (by rfl) (fun K hK => ?_)
        go_simp
        refine hK.out _ _ (.inr (.inr hS3)) ?_
        clear hK K
        (try simp only [Act.put, List.setIfInBounds_toArray, List.set_cons_zero, List.set_cons_succ])
        refine anyC_take0 (i := 22) (v := ?_) (some 32) (by rfl) rfl (by kernel_rfl) (by kernel_rfl) (by kernel_rfl) (fun _ _ _ h => h) (Or.inl ⟨by rfl, ?_⟩) (by decide) (Or.inr (by assumption)) ?_
        rotate_left
        · (intro w; go_simp; try with_reducible rfl)
        (try simp only [Act.put, List.setIfInBounds_toArray, List.set_cons_zero, List.set_cons_succ])
        refine anyC_take (i := 23) (v := ?_) (some 33) (by rfl) rfl (by kernel_rfl) (by kernel_rfl) (by kernel_rfl) (by kernel_rfl) (by kernel_rfl) (fun _ _ _ h => h) (Or.inl ⟨by rfl, ?_⟩) (by assumption) ?_
        rotate_left
        · (intro w hSw; (try dsimp only at hSw); go_simp; try with_reducible rfl)
        (try simp only [Act.put, List.setIfInBounds_toArray, List.set_cons_zero, List.set_cons_succ])
        refine anyC_take (i := 24) (v := ?_) (some 34) (by rfl) rfl (by kernel_rfl) (by kernel_rfl) (by kernel_rfl) (by kernel_rfl) (by kernel_rfl) (fun _ _ _ h => h) (Or.inl ⟨by rfl, ?_⟩) (by assumption) ?_
        rotate_left
        · (intro w hSw; (try dsimp only at hSw); go_simp; try with_reducible rfl)
        (try simp only [Act.put, List.setIfInBounds_toArray, List.set_cons_zero, List.set_cons_succ])
        refine anyC_take0 (i := 25) (v := ?_) (some 35) (by rfl) rfl (by kernel_rfl) (by kernel_rfl) (by kernel_rfl) (fun _ _ _ h => h) (Or.inl ⟨by rfl, ?_⟩) (by decide) (Or.inr (by assumption)) ?_
        rotate_left
        · (intro w; go_simp; try with_reducible rfl)
        (try simp only [Act.put, List.setIfInBounds_toArray, List.set_cons_zero, List.set_cons_succ])
        refine anyC_take (i := 26) (v := ?_) (some 36) (by rfl) rfl (by kernel_rfl) (by kernel_rfl) (by kernel_rfl) (by kernel_rfl) (by kernel_rfl) (fun _ _ _ h => h) (Or.inl ⟨by rfl, ?_⟩) (by assumption) ?_
        rotate_left
        · (intro w hSw; (try dsimp only at hSw); go_simp; try with_reducible rfl)
        (try simp only [Act.put, List.setIfInBounds_toArray, List.set_cons_zero, List.set_cons_succ])
        refine anyC_one (i := 27) (by kernel_rfl) rfl (by rfl) (fun K hK => ?_)
        go_simp
        refine (HT.out w4 (HG.out.trans O4.out) L4.out).mono ?_
        rintro e w5 ⟨⟨r2, rfl⟩, hg5, hl5⟩
        have O5 := Lib.hid (O4.out.trans hg5)
        have L5 := Lib.hid hl5
        have hS4 := HS.out w5 O5.out
        clear hg5 hl5
        refine hK.out _ _ (.inr (.inr hS4)) ?_
        clear hK K
        (try simp only [Act.put, List.setIfInBounds_toArray, List.set_cons_zero, List.set_cons_succ])
        refine anyC_one (i := 28) (by kernel_rfl) rfl (by rfl) (fun K hK => ?_)
        go_simp
        refine hK.out _ _ (.inr (.inr hS4)) ?_
        clear hK K
        (try simp only [Act.put, List.setIfInBounds_toArray, List.set_cons_zero, List.set_cons_succ])
        refine anyC_one (i := 29) (by kernel_rfl) rfl (by rfl) (fun K hK => ?_)
        go_simp
        refine hK.out _ _ (.inr (.inr hS4)) ?_
        clear hK K
        (try simp only [Act.put, List.setIfInBounds_toArray, List.set_cons_zero, List.set_cons_succ])
        refine anyC_one (i := 30) (by kernel_rfl) rfl (by rfl) (fun K hK => ?_)
        go_simp
        refine hK.out _ _ (.inl rfl) ?_
        apply anyC_end
        rotate_left
        · kernel_rfl
        go_wp2_with fail
        go_ret
        exact ⟨⟨_, rfl⟩, HG.out.trans O5.out, I2.out.og O5.out L5.out⟩
end Go.Proofs.YtkjjieloncdjhaaGreatDoor
