/- The deferred function of Raw: it turns a panic with a fault into the result. -/
import Derived.Test.YtpgcklpcohcchaaDoorA22
namespace Go.Proofs.YtpgcklpcohcchaaDoor
open Go Go.RowKit

set_option maxRecDepth 100000 in
set_option maxHeartbeats 800000 in
theorem catchR_panic (p q : Nat) (lv : Value) (fa fc : Value) (a c : Int) (w : World) (hp : Bl w p 23 [lv]) (hq : Bl w q 26 [fa, fc]) (hne : p ≠ q) :
    CallsD Tryd.prog 10 #[.pointer (some ⟨p, 0, none⟩), .pointer (some ⟨q, 0, none⟩)] (.panicking ({ v := .iface 26 (.agg #[.int .i64 a, .int .i64 c]), recovered := false } :: [])) w fun e u' w' =>
      e = .returned (.tuple #[]) ∧ u' = .panicking ({ v := .iface 26 (.agg #[.int .i64 a, .int .i64 c]), recovered := true } :: []) ∧ Bl w' p 23 [.slice none 0 0] ∧ Bl w' q 26 [.int .i64 a, .int .i64 c] ∧ (∀ X : Nat → Prop, (∀ b, X b → b < w.heap.size ∧ b ≠ p ∧ b ≠ q) → KX X w w') := by
  have hta : ∀ w : World, (Instr.typeAssert (.iface 26 (.agg #[.int .i64 a, .int .i64 c])) 20 26 true).run Tryd.prog w = .ok (.tuple #[.agg #[.int .i64 a, .int .i64 c], .bool true]) w := fun w => by kernel_rfl
  have htm : ∀ x y : Value, (#[x, y] ++ Array.replicate 9 undef : Array Value) = #[x, y, undef, undef, undef, undef, undef, undef, undef, undef, undef] := fun _ _ => rfl
  have n1 := hp.lt
  have n2 := hq.lt
  refine callsD_of_wpS Tryd.func10 rfl fun c₀ cs hu => ?_
  apply wpS_seq
  apply wpS_region
  simp [wpOpsS, go_sem, recoverD, hu, Tryd.ntmps10, Exit.thenS, hta, htm]
  have p0 := cell_alloc1' (hp.cell 0)
  have q0 := cell_alloc1' (hq.cell 0)
  have q1 := cell_alloc1' (hq.cell 1)
  have fp : ∀ o : Obj, (w.alloc o).frozen? ⟨p, 0, none⟩ = false := fun o => (hp.alloc o).froz 0
  have fq : ∀ o : Obj, (w.alloc o).frozen? ⟨q, 0, none⟩ = false := fun o => (hq.alloc o).froz 0
  have fq1 : ∀ o : Obj, (w.alloc o).frozen? ⟨q, 1, none⟩ = false := fun o => (hq.alloc o).froz 1
  simp only [List.getElem?_cons_zero, List.getElem?_cons_succ] at p0 q0 q1
  have hne2 : w.heap.size ≠ p := by omega
  have hne3 : w.heap.size ≠ q := by omega
  have HP := Lib.hid hp
  have HQ := Lib.hid hq
  clear hp hq hta htm
  have hbl : Bl (w.alloc (.cells #[.int .i64 a, .int .i64 c] 26)) w.heap.size 26 [.int .i64 a, .int .i64 c] := Bl.new w 26 [.int .i64 a, .int .i64 c]
  have hp1 := HP.out.alloc (.cells #[.int .i64 a, .int .i64 c] 26)
  have hq1 := HQ.out.alloc (.cells #[.int .i64 a, .int .i64 c] 26)
  have HBW := Lib.hid (KX.below (X := fun b => b < w.heap.size) ((Below.refl w.heap.size w).alloc (Nat.le_refl _) (.cells #[.int .i64 a, .int .i64 c] 26)) (fun _ h => h))
  clear p0 q0 q1 fp fq fq1 HP HQ
  have HNP := Lib.hid n1
  have HNQ := Lib.hid n2
  generalize w.alloc (.cells #[.int .i64 a, .int .i64 c] 26) = W at *
  generalize w.heap.size = bx at *
  have p0 : W.cell? ⟨p, 0, none⟩ = some lv := hp1.cell 0
  have q0 : W.cell? ⟨q, 0, none⟩ = some fa := hq1.cell 0
  have q1 : W.cell? ⟨q, 1, none⟩ = some fc := hq1.cell 1
  have fp : W.frozen? ⟨p, 0, none⟩ = false := hp1.froz 0
  have fq : W.frozen? ⟨q, 0, none⟩ = false := hq1.froz 0
  have fq1 : W.frozen? ⟨q, 1, none⟩ = false := hq1.froz 1
  have b0 : W.cell? ⟨bx, 0, none⟩ = some (.int .i64 a) := hbl.cell 0
  have b1 : W.cell? ⟨bx, 1, none⟩ = some (.int .i64 c) := hbl.cell 1
  have HP := Lib.hid hp1
  have HQ := Lib.hid hq1
  clear hp1 hq1 hbl n1 n2
  have HNE := Lib.hid hne
  refine wpS_of_wp ?_
  go_wp2
  have hS : (fun w' : World => w'.cell? ⟨bx, 0, none⟩ = some (.int .i64 a) ∧ w'.cell? ⟨bx, 1, none⟩ = some (.int .i64 c)) W.drew := ⟨b0, b1⟩
  refine anyC_region (c := 2) (S := fun w' : World => w'.cell? ⟨bx, 0, none⟩ = some (.int .i64 a) ∧ w'.cell? ⟨bx, 1, none⟩ = some (.int .i64 c)) (by kernel_rfl) ?_
  refine anyC_take (i := 0) (v := ?_) (some 10) (by rfl) rfl (by kernel_rfl) (by kernel_rfl) (by kernel_rfl) (by kernel_rfl) (by kernel_rfl) (fun _ _ _ h => h) (Or.inl ⟨by rfl, ?_⟩) (by assumption) ?_
  rotate_left
  · (intro w hSw; (try dsimp only at hSw); go_simp; try with_reducible rfl)
  (try simp only [Act.put, List.setIfInBounds_toArray, List.set_cons_zero, List.set_cons_succ])
  refine anyC_one (i := 1) (by kernel_rfl) rfl (by rfl) (fun K hK => ?_)
  go_simp
  refine hK.out _ _ (.inr (.inr ?_)) ?_
  · exact ⟨(World.cell?_setCell_far _ _ _ _ (Ne.symm hne2)).trans b0, (World.cell?_setCell_far _ _ _ _ (Ne.symm hne2)).trans b1⟩
  clear hK K
  refine anyC_one (i := 2) (by kernel_rfl) rfl (by rfl) (fun K hK => ?_)
  have q0' : (W.setCell ⟨p, 0, none⟩ (.slice none 0 0)).cell? ⟨q, 0, none⟩ = some fa := (World.cell?_setCell_far _ _ _ _ hne).trans q0
  have q1' : (W.setCell ⟨p, 0, none⟩ (.slice none 0 0)).cell? ⟨q, 1, none⟩ = some fc := (World.cell?_setCell_far _ _ _ _ hne).trans q1
  go_simp
  refine hK.out _ _ (.inl rfl) ?_
  apply anyC_end
  rotate_left
  · kernel_rfl
  change bodyPostS Tryd.prog Tryd.f10 c₀ cs _ _ _ _ _
  simp [bodyPostS, results, Tryd.results10]
  refine ⟨((((HP.out.set 0 _).far (p := ⟨q, 0, none⟩) HNE.out _).far (p := ⟨q, 1, none⟩) HNE.out _)).drew, ((((HQ.out.far (p := ⟨p, 0, none⟩) (Ne.symm HNE.out) _).set 0 _).set 1 _)).drew, fun X hX => ?_⟩
  have h0 := HBW.out.mono (Y := X) (fun k hk => (hX k hk).1)
  exact (((h0.set (fun h => (hX _ h).2.1 rfl) _).set (fun h => (hX _ h).2.2 rfl) _).set (fun h => (hX _ h).2.2 rfl) _).drew

set_option maxRecDepth 100000 in
set_option maxHeartbeats 800000 in
theorem catchR_idle (p q : Addr) (w : World) :
    CallsD Tryd.prog 10 #[.pointer (some p), .pointer (some q)] .returning w fun e u' w' => e = .returned (.tuple #[]) ∧ u' = .returning ∧ Below w.heap.size w w' := by
  have hta : ∀ w : World, (Instr.typeAssert .nilIface 20 26 true).run Tryd.prog w = .ok (.tuple #[.agg #[.int .i64 0, .int .i64 0], .bool false]) w := fun w => by kernel_rfl
  have htm : ∀ x y : Value, (#[x, y] ++ Array.replicate 9 undef : Array Value) = #[x, y, undef, undef, undef, undef, undef, undef, undef, undef, undef] := fun _ _ => rfl
  refine callsD_of_wpS Tryd.func10 rfl fun c₀ cs hu => ?_
  apply wpS_seq
  apply wpS_region
  simp [wpOpsS, go_sem, recoverD, hu, Tryd.ntmps10, Exit.thenS, hta, htm]
  clear hta htm
  refine wpS_of_wp ?_
  go_wp2
  change bodyPostS Tryd.prog Tryd.f10 c₀ cs _ _ _ _ _
  simp [bodyPostS, results, Tryd.results10]
  cases c₀
  simp_all
  exact (Below.refl _ _).alloc (Nat.le_refl _) _

set_option maxRecDepth 100000 in
set_option maxHeartbeats 800000 in
theorem doorR_panic {R : Ending → World → Prop} {t : Array Value} {p q : Nat} {v0 x y : Value} {a c : Int} {W : World} (h2 : t.getD 2 undef = .pointer (some ⟨p, 0, none⟩)) (h3 : t.getD 3 undef = .pointer (some ⟨q, 0, none⟩))
    (hp : Bl W p 23 [v0]) (hq : Bl W q 26 [x, y]) (hne : p ≠ q)
    (hR : ∀ w', (∀ X : Nat → Prop, (∀ b, X b → b < W.heap.size ∧ b ≠ p ∧ b ≠ q) → KX X W w') → R (.returned (.tuple #[.slice none 0 0, .agg #[.int .i64 a, .int .i64 c]])) w') :
    bodyPostD Tryd.prog Tryd.f7 R (.panic (fv a c)) { tmps := t, defers := [{ target := Target.fn (.func 10) #[.pointer (some ⟨p, 0, none⟩), .pointer (some ⟨q, 0, none⟩)], args := #[] }] } W := by
  refine leaves_cons (f := 10) (args := #[.pointer (some ⟨p, 0, none⟩), .pointer (some ⟨q, 0, none⟩)]) (by simp) (by simp [go_sem]) ?_
  refine (catchR_panic p q v0 x y a c W hp hq hne).mono ?_
  rintro e u' w' ⟨rfl, rfl, h4, h5, h6⟩
  have c0 : w'.cell? ⟨p, 0, none⟩ = some (.slice none 0 0) := h4.cell 0
  have c1 : w'.cell? ⟨q, 0, none⟩ = some (.int .i64 a) := h5.cell 0
  have c2 : w'.cell? ⟨q, 1, none⟩ = some (.int .i64 c) := h5.cell 1
  have hr := hR w' h6
  have HR := Lib.hid hr
  clear hR hr h6 h4 h5 hp hq
  have h2' : (t[2]?).getD undef = .pointer (some ⟨p, 0, none⟩) := by simpa using h2
  have h3' : (t[3]?).getD undef = .pointer (some ⟨q, 0, none⟩) := by simpa using h3
  simp [Leaves, settle, results, Tryd.results7, go_sem, h2', h3', c0, c1, c2]
  exact HR.out

set_option maxRecDepth 100000 in
set_option maxHeartbeats 800000 in
theorem doorR_ret {R : Ending → World → Prop} {t : Array Value} {p q : Nat} {v : Value} {W : World} (h2 : t.getD 2 undef = .pointer (some ⟨p, 0, none⟩)) (h3 : t.getD 3 undef = .pointer (some ⟨q, 0, none⟩))
    (hp : Bl W p 23 [v]) (hq : Bl W q 26 [.int .i64 0, .int .i64 0])
    (hR : ∀ w', Below W.heap.size W w' → R (.returned (.tuple #[v, .agg #[.int .i64 0, .int .i64 0]])) w') :
    bodyPostD Tryd.prog Tryd.f7 R .ret { tmps := t, defers := [{ target := Target.fn (.func 10) #[.pointer (some ⟨p, 0, none⟩), .pointer (some ⟨q, 0, none⟩)], args := #[] }] } W := by
  have p0 : W.cell? ⟨p, 0, none⟩ = some v := hp.cell 0
  have q0 : W.cell? ⟨q, 0, none⟩ = some (.int .i64 0) := hq.cell 0
  have q1 : W.cell? ⟨q, 1, none⟩ = some (.int .i64 0) := hq.cell 1
  have h2' : (t[2]?).getD undef = .pointer (some ⟨p, 0, none⟩) := by simpa using h2
  have h3' : (t[3]?).getD undef = .pointer (some ⟨q, 0, none⟩) := by simpa using h3
  refine leaves_cons (f := 10) (args := #[.pointer (some ⟨p, 0, none⟩), .pointer (some ⟨q, 0, none⟩)]) (by simp) (by simp [go_sem]) ?_
  refine (catchR_idle ⟨p, 0, none⟩ ⟨q, 0, none⟩ W).mono ?_
  rintro e u' w' ⟨rfl, rfl, h6⟩
  have c0 : w'.cell? ⟨p, 0, none⟩ = some v := (h6.cell hp.lt).trans p0
  have c1 : w'.cell? ⟨q, 0, none⟩ = some (.int .i64 0) := (h6.cell hq.lt).trans q0
  have c2 : w'.cell? ⟨q, 1, none⟩ = some (.int .i64 0) := (h6.cell hq.lt).trans q1
  have hr := hR w' h6
  have HR := Lib.hid hr
  clear hR hr h6 hp hq p0 q0 q1
  simp [Leaves, settle, results, Tryd.results7, go_sem, h2', h3', c0, c1, c2]
  exact HR.out

end Go.Proofs.YtpgcklpcohcchaaDoor
