/- Check of any program. -/
import Derived.Test.YtkjjieloncdjhaaGreatDoorE14
import Derived.Test.YtkjjieloncdjhaaGreatDoorE9
import Derived.Test.YtkjjieloncdjhaaGreatDoorL18
namespace Go.Proofs.YtkjjieloncdjhaaGreatDoor
open Go Go.RowKit

abbrev prgW (ca ma fa ta ya : Option Addr) (cn mn fn tn yn cc mc fc tc yc : Nat) (mi : Int) : List Value := [.slice ca cn cc, .slice ma mn mc, .slice fa fn fc, .slice ta tn tc, .slice ya yn yc, .int .i64 mi]
abbrev sizesA (cn mn fn tn yn : Nat) : Value := .agg #[.int .i64 0, .int .i64 cn, .int .i64 mn, .int .i64 fn, .int .i64 tn, .int .i64 yn]
theorem sizes_all (ca ma fa ta ya : Option Addr) (cn mn fn tn yn cc mc fc tc yc : Nat) (mi : Int) (w : World) : Calls Tryz.prog 62 #[.agg #[.slice ca cn cc, .slice ma mn mc, .slice fa fn fc, .slice ta tn tc, .slice ya yn yc, .int .i64 mi]] w fun e w' => e = .returned (sizesA cn mn fn tn yn) ∧ Below w.heap.size w w' := by
  go_enter Tryz.func62, Tryz.ntmps62
  go_wp2_with fail
  refine bodyPost_ret (v := sizesA cn mn fn tn yn) (by simp [results, Tryz.results62, go_sem]) rfl ⟨rfl, ?_⟩
  exact ((Below.refl _ _).alloc (Nat.le_refl _) _).alloc (by simp) _
theorem jx0 (cn mn fn tn yn : Nat) (w : World) : (Instr.index 112 (sizesA cn mn fn tn yn) (.int .i64 0)).run Tryz.prog w = .ok (.int .i64 0) w := by kernel_rfl
theorem jx1 (cn mn fn tn yn : Nat) (w : World) : (Instr.index 112 (sizesA cn mn fn tn yn) (.int .i64 1)).run Tryz.prog w = .ok (.int .i64 cn) w := by kernel_rfl
theorem jx2 (cn mn fn tn yn : Nat) (w : World) : (Instr.index 112 (sizesA cn mn fn tn yn) (.int .i64 2)).run Tryz.prog w = .ok (.int .i64 mn) w := by kernel_rfl
theorem jx3 (cn mn fn tn yn : Nat) (w : World) : (Instr.index 112 (sizesA cn mn fn tn yn) (.int .i64 3)).run Tryz.prog w = .ok (.int .i64 fn) w := by kernel_rfl
theorem jx4 (cn mn fn tn yn : Nat) (w : World) : (Instr.index 112 (sizesA cn mn fn tn yn) (.int .i64 4)).run Tryz.prog w = .ok (.int .i64 tn) w := by kernel_rfl
theorem jx5 (cn mn fn tn yn : Nat) (w : World) : (Instr.index 112 (sizesA cn mn fn tn yn) (.int .i64 5)).run Tryz.prog w = .ok (.int .i64 yn) w := by kernel_rfl

/-- The blocks of Check. -/
structure CkA (w0 w : World) (pl : List Value) (g : Nat) : Prop where
  fr : Frs w0 w [(30, pl), (55, [i64 0, i64 0, i64 0])]
  ru : Bl w g 118 rulesL
theorem CkA.below {w0 w w' : World} {pl : List Value} {g : Nat} (h : CkA w0 w pl g) (hB : Below w.heap.size w w') : CkA w0 w' pl g := ⟨h.fr.below hB, h.ru.below hB h.ru.lt⟩
theorem CkA.alloc {w0 w : World} {pl : List Value} {g : Nat} (h : CkA w0 w pl g) (o : Obj) : CkA w0 (w.alloc o) pl g := h.below ((Below.refl _ _).alloc (Nat.le_refl _) _)
theorem CkA.drew {w0 w : World} {pl : List Value} {g : Nat} (h : CkA w0 w pl g) : CkA w0 w.drew pl g := ⟨h.fr.drewN 1, h.ru⟩

def CkN (cn : Nat) (xs : List ClC) (n : Nat) : Prop := ∀ i : Nat, i < n → (i : Int) ∉ chain (xs.map (·.ow)) cn (i : Int)
def CkP (cn : Nat) (ps : List (List Ty)) (n : Nat) : Prop := ∀ i : Nat, i < n → ∀ ts, ps[i]? = some ts → ParOk cn ts
def CkR (ps : List (List Ty)) (n : Nat) : Prop := ∀ i : Nat, i < n → ¬ Rch (symL ps) (i : Int) (i : Int)
def CkO (w : World) (ma : Option Addr) (cn n : Nat) : Prop := ∀ i : Nat, i < n → OwOk w ma cn i
/-- What has been seen before rule k. -/
def CkAcc (w : World) (ma : Option Addr) (cn mn : Nat) (xs : List ClC) (ps : List (List Ty)) (k : Int) : Prop := (2 ≤ k → CkN cn xs cn) ∧ (3 ≤ k → CkP cn ps cn) ∧ (4 ≤ k → CkR ps cn) ∧ (5 ≤ k → CkO w ma cn mn)
/-- What a program has that Check finds right. -/
structure CkOk (cn : Nat) (xs : List ClC) (ps : List (List Ty)) : Prop where
  n : CkN cn xs cn
  p : CkP cn ps cn
  r : CkR ps cn
theorem some_of {P : Program} {f : FuncId} {args : Array Value} {w : World} (h : Calls P f args w fun e w' => (∃ z : Int, e = .returned (.int .i64 z)) ∧ Below w.heap.size w w') : Calls P f args w fun e w' => (∃ z : Int, e = .returned (.int .i64 z) ∧ (z = 0 → True)) ∧ Below w.heap.size w w' := by
  refine h.mono ?_
  rintro e w' ⟨⟨z, rfl⟩, hB⟩
  exact ⟨⟨z, rfl, fun _ => trivial⟩, hB⟩

theorem OwOk.back {w W : World} {ma : Option Addr} {cn k : Nat} (h : OwOk W ma cn k) (hB : Below w.heap.size w W) (hM : ∃ b o, ma = some ⟨b, o, none⟩ ∧ b < w.heap.size) : OwOk w ma cn k := by
  obtain ⟨b, o, z, h1, h2, h3, h4⟩ := h
  obtain ⟨b', o', h5, h6⟩ := hM
  have e2 := h1.symm.trans h5
  injection e2 with e2
  injection e2 with e3 e4
  subst e3 e4
  exact ⟨b, o, z, h1, h6, (hB.cell (p := ⟨b, _, none⟩) h6).symm.trans h3, h4⟩
theorem OwOk.upto {w W : World} {ma : Option Addr} {cn k : Nat} (h : OwOk w ma cn k) (hB : Below w.heap.size w W) : OwOk W ma cn k := h.below hB

set_option maxRecDepth 100000 in
set_option maxHeartbeats 80000000 in
theorem check_all (xs : List ClC) (ps : List (List Ty)) (ca ma fa ta ya : Option Addr) (cn mn fn tn yn cc mc fc tc yc : Nat) (mi : Int) (w : World) (hcn : cn ≤ 500) (hmn : mn ≤ 500) (hfn : fn ≤ 500) (htn : tn ≤ 500) (hyn : yn ≤ 500) (hfc : fn ≤ fc) (htc : tn ≤ tc) (hyc : yn ≤ yc) (hl : cn = xs.length) (hP : PrgR w.heap.size w ca ma fa ta ya cn mn fn tn yn) (hV : ClsV w w.heap.size ca xs ps) :
    Calls Tryz.prog 30 #[.agg #[.slice ca cn cc, .slice ma mn mc, .slice fa fn fc, .slice ta tn tc, .slice ya yn yc, .int .i64 mi]] w fun e w' => (∃ p i z : Int, e = .returned (.agg #[.int .i64 p, .int .i64 i, .int .i64 z]) ∧ (z = 0 → CkOk cn xs ps)) ∧ Below w.heap.size w w' := by
  have HL := Lib.hid hl
  have HP := Lib.hid hP
  have HV := Lib.hid hV
  have HX := Lib.hid (hV.ok hP.cl hl)
  have HN := Lib.hid (hV.an (hV.ok hP.cl hl))
  have hM : ∀ j, j < mn → ∃ b o, ma = some ⟨b, o, none⟩ ∧ b < w.heap.size := fun j hj => by
    obtain ⟨b, o, x, hA, _⟩ := hP.me.2 j hj
    exact ⟨b, o, hA.ad, hA.lt⟩
  obtain ⟨x0, _⟩ : ∃ x0 : ClC, True := ⟨⟨⟨#[]⟩, 0, 0, 0, ⟨none, 0, 0⟩, ⟨none, 0, 0⟩, ⟨none, 0, 0⟩, ⟨none, 0, 0⟩, ⟨none, 0, 0⟩, ⟨none, 0, 0⟩, ⟨none, 0, 0⟩, ⟨none, 0, 0⟩, 0⟩, trivial⟩
  have HAT := Lib.hid (fun (W : World) (hB : Below w.heap.size w W) (i : Nat) (hi : i < cn) => (show ∃ b o, ClAt W W.heap.size ca i b o (xs.getD i x0) from by
    have hi' : i < xs.length := by rw [← HL.out]; exact hi
    obtain ⟨b, o, hb, hA⟩ := ((HV.out.below hB).mono hB.size).at_ i _ (List.getElem?_eq_getElem hi')
    refine ⟨b, o, ?_⟩
    rw [List.getD_eq_getElem?_getD, List.getElem?_eq_getElem hi']
    exact hA))
  have HC0 := Lib.hid (fun (j : Nat) (hj : j < cn) (W : World) (hB : Below w.heap.size w W) => (show Calls Tryz.prog 88 #[.agg #[.slice ca cn cc, .slice ma mn mc, .slice fa fn fc, .slice ta tn tc, .slice ya yn yc, .int .i64 mi], .int .i64 (j : Int)] W fun e w' => (∃ z : Int, e = .returned (.int .i64 z) ∧ (z = 0 → True)) ∧ Below W.heap.size W w' from some_of (checkClass_all w.heap.size j ca ma fa ta ya cn mn fn tn yn cc mc fc tc yc mi W hj (by omega) (by omega) (by omega) (by omega) (by omega) (HP.out.below hB))))
  have HC1 := Lib.hid (fun (j : Nat) (hj : j < cn) (W : World) (hB : Below w.heap.size w W) => (show Calls Tryz.prog 89 #[.agg #[.slice ca cn cc, .slice ma mn mc, .slice fa fn fc, .slice ta tn tc, .slice ya yn yc, .int .i64 mi], .int .i64 (j : Int)] W fun e w' => (∃ z : Int, e = .returned (.int .i64 z) ∧ (z = 0 → (j : Int) ∉ chain (xs.map (·.ow)) cn (j : Int))) ∧ Below W.heap.size W w' from checkNesting_all ca cn cc j xs ps (.slice ma mn mc) (.slice fa fn fc) (.slice ta tn tc) (.slice ya yn yc) (.int .i64 mi) W HL.out (by omega) ((HV.out.below hB).mono hB.size)))
  have HC2 := Lib.hid (fun (j : Nat) (hj : j < cn) (W : World) (hB : Below w.heap.size w W) => (show Calls Tryz.prog 90 #[.agg #[.slice ca cn cc, .slice ma mn mc, .slice fa fn fc, .slice ta tn tc, .slice ya yn yc, .int .i64 mi], .int .i64 (j : Int)] W fun e w' => (∃ z : Int, e = .returned (.int .i64 z) ∧ (z = 0 → ∀ ts, ps[j]? = some ts → ParOk cn ts)) ∧ Below W.heap.size W w' from by
    obtain ⟨x, hx⟩ : ∃ x, xs[j]? = some x := ⟨_, List.getElem?_eq_getElem (by rw [← HL.out]; exact hj)⟩
    obtain ⟨ts, hts⟩ : ∃ ts, ps[j]? = some ts := ⟨_, List.getElem?_eq_getElem (by rw [HV.out.len, ← HL.out]; exact hj)⟩
    refine (checkParents_all ca cn cc j xs ps x ts (.slice ma mn mc) (.slice fa fn fc) (.slice ta tn tc) (.slice ya yn yc) (.int .i64 mi) W HL.out (by omega) hj hx hts (HX.out x (List.mem_of_getElem? hx)).prc (fun y hy => (HX.out y hy).tp) (HN.out ts (List.mem_of_getElem? hts)) ((HV.out.below hB).mono hB.size)).mono ?_
    rintro e w' ⟨⟨z, rfl, hz⟩, hB'⟩
    exact ⟨⟨z, rfl, fun h ts' h' => by
      rw [hts] at h'
      cases h'
      exact hz h⟩, hB'⟩))
  have HC3 := Lib.hid (fun (j : Nat) (hj : j < cn) (W : World) (hB : Below w.heap.size w W) => (show Calls Tryz.prog 91 #[.agg #[.slice ca cn cc, .slice ma mn mc, .slice fa fn fc, .slice ta tn tc, .slice ya yn yc, .int .i64 mi], .int .i64 (j : Int)] W fun e w' => (∃ z : Int, e = .returned (.int .i64 z) ∧ (z = 0 → ¬ Rch (symL ps) (j : Int) (j : Int))) ∧ Below W.heap.size W w' from checkAncestors_all ca cn cc j xs ps (.slice ma mn mc) (.slice fa fn fc) (.slice ta tn tc) (.slice ya yn yc) (.int .i64 mi) W HL.out (by omega) hj ((HV.out.below hB).mono hB.size)))
  have HC4 := Lib.hid (fun (j : Nat) (hj : j < mn) (W : World) (hB : Below w.heap.size w W) => (show Calls Tryz.prog 92 #[.agg #[.slice ca cn cc, .slice ma mn mc, .slice fa fn fc, .slice ta tn tc, .slice ya yn yc, .int .i64 mi], .int .i64 (j : Int)] W fun e w' => (∃ z : Int, e = .returned (.int .i64 z) ∧ (z = 0 → OwOk w ma cn j)) ∧ Below W.heap.size W w' from by
    refine (checkMethod_all w.heap.size j ca ma fa ta ya cn mn fn tn yn cc mc fc tc yc mi W (by omega) (by omega) (by omega) (by omega) (by omega) hj (HP.out.below hB)).mono ?_
    rintro e w' ⟨⟨z, rfl, hz⟩, hB'⟩
    exact ⟨⟨z, rfl, fun h => (hz h).back hB (hM j hj)⟩, hB'⟩))
  have HC5 := Lib.hid (fun (j : Nat) (hj : j < fn) (W : World) (hB : Below w.heap.size w W) => (show Calls Tryz.prog 93 #[.agg #[.slice ca cn cc, .slice ma mn mc, .slice fa fn fc, .slice ta tn tc, .slice ya yn yc, .int .i64 mi], .int .i64 (j : Int)] W fun e w' => (∃ z : Int, e = .returned (.int .i64 z) ∧ (z = 0 → True)) ∧ Below W.heap.size W w' from some_of (checkField_all w.heap.size j ca ma fa ta ya cn mn fn tn yn cc mc fc tc yc mi W (by omega) (by omega) (by omega) (by omega) (by omega) hj (HP.out.below hB))))
  have HC6 := Lib.hid (fun (j : Nat) (hj : j < tn) (W : World) (hB : Below w.heap.size w W) => (show Calls Tryz.prog 94 #[.agg #[.slice ca cn cc, .slice ma mn mc, .slice fa fn fc, .slice ta tn tc, .slice ya yn yc, .int .i64 mi], .int .i64 (j : Int)] W fun e w' => (∃ z : Int, e = .returned (.int .i64 z) ∧ (z = 0 → True)) ∧ Below W.heap.size W w' from some_of (checkTypeParam_all w.heap.size j ca ma fa ta ya cn mn fn tn yn cc mc fc tc yc mi W (by omega) (by omega) (by omega) (by omega) (by omega) hj (HP.out.below hB))))
  have HC7 := Lib.hid (fun (j : Nat) (hj : j < yn) (W : World) (hB : Below w.heap.size w W) => (show Calls Tryz.prog 95 #[.agg #[.slice ca cn cc, .slice ma mn mc, .slice fa fn fc, .slice ta tn tc, .slice ya yn yc, .int .i64 mi], .int .i64 (j : Int)] W fun e w' => (∃ z : Int, e = .returned (.int .i64 z) ∧ (z = 0 → True)) ∧ Below W.heap.size W w' from some_of (checkTypeMember_all w.heap.size j ca ma fa ta ya cn mn fn tn yn cc mc fc tc yc mi W (by omega) (by omega) (by omega) (by omega) (by omega) hj (HP.out.below hB))))
  have HC8 := Lib.hid (fun (j : Nat) (hj : j < cn) (W : World) (hB : Below w.heap.size w W) => (show Calls Tryz.prog 96 #[.agg #[.slice ca cn cc, .slice ma mn mc, .slice fa fn fc, .slice ta tn tc, .slice ya yn yc, .int .i64 mi], .int .i64 (j : Int)] W fun e w' => (∃ z : Int, e = .returned (.int .i64 z) ∧ (z = 0 → True)) ∧ Below W.heap.size W w' from some_of (checkClassName_all W.heap.size j (fun i => xs.getD i x0) ca ma fa ta ya cn mn fn tn yn cc mc fc tc yc mi W (by omega) hj (fun i hi => HAT.out W hB i hi))))
  have HC9 := Lib.hid (fun (j : Nat) (hj : j < fn) (W : World) (hB : Below w.heap.size w W) => (show Calls Tryz.prog 97 #[.agg #[.slice ca cn cc, .slice ma mn mc, .slice fa fn fc, .slice ta tn tc, .slice ya yn yc, .int .i64 mi], .int .i64 (j : Int)] W fun e w' => (∃ z : Int, e = .returned (.int .i64 z) ∧ (z = 0 → True)) ∧ Below W.heap.size W w' from some_of (checkFieldName_all w.heap.size j ca ma fa ta ya cn mn fn tn yn cc mc fc tc yc mi W (by omega) (by omega) (by omega) (by omega) (by omega) hj hfc (HP.out.below hB))))
  have HC10 := Lib.hid (fun (j : Nat) (hj : j < mn) (W : World) (hB : Below w.heap.size w W) => (show Calls Tryz.prog 98 #[.agg #[.slice ca cn cc, .slice ma mn mc, .slice fa fn fc, .slice ta tn tc, .slice ya yn yc, .int .i64 mi], .int .i64 (j : Int)] W fun e w' => (∃ z : Int, e = .returned (.int .i64 z) ∧ (z = 0 → True)) ∧ Below W.heap.size W w' from some_of (checkMethodName_all w.heap.size j ca ma fa ta ya cn mn fn tn yn cc mc fc tc yc mi W (by omega) (by omega) (by omega) (by omega) (by omega) hj (HP.out.below hB))))
  have HC11 := Lib.hid (fun (j : Nat) (hj : j < yn) (W : World) (hB : Below w.heap.size w W) => (show Calls Tryz.prog 99 #[.agg #[.slice ca cn cc, .slice ma mn mc, .slice fa fn fc, .slice ta tn tc, .slice ya yn yc, .int .i64 mi], .int .i64 (j : Int)] W fun e w' => (∃ z : Int, e = .returned (.int .i64 z) ∧ (z = 0 → True)) ∧ Below W.heap.size W w' from some_of (checkTypeMemberName_all w.heap.size j ca ma fa ta ya cn mn fn tn yn cc mc fc tc yc mi W (by omega) (by omega) (by omega) (by omega) (by omega) hj hyc (HP.out.below hB))))
  have HC12 := Lib.hid (fun (j : Nat) (hj : j < tn) (W : World) (hB : Below w.heap.size w W) => (show Calls Tryz.prog 100 #[.agg #[.slice ca cn cc, .slice ma mn mc, .slice fa fn fc, .slice ta tn tc, .slice ya yn yc, .int .i64 mi], .int .i64 (j : Int)] W fun e w' => (∃ z : Int, e = .returned (.int .i64 z) ∧ (z = 0 → True)) ∧ Below W.heap.size W w' from some_of (checkTypeParamName_all w.heap.size j ca ma fa ta ya cn mn fn tn yn cc mc fc tc yc mi W (by omega) (by omega) (by omega) (by omega) (by omega) hj htc (HP.out.below hB))))
  have HMain := Lib.hid (fun (W : World) (hB : Below w.heap.size w W) (hO : CkO w ma cn mn) => checkMain_all w.heap.size ca ma fa ta ya cn mn fn tn yn cc mc fc tc yc mi W (by omega) (by omega) (fun k hk => (hO k hk).upto hB) (HP.out.below hB))
  have F := Lib.hid (((Frs.nil w).snoc (by simp) 30 [.slice ca cn cc, .slice ma mn mc, .slice fa fn fc, .slice ta tn tc, .slice ya yn yc, .int .i64 mi]).snoc (by simp) 55 [i64 0, i64 0, i64 0])
  have i0 := jx0 cn mn fn tn yn
  have i1 := jx1 cn mn fn tn yn
  have i2 := jx2 cn mn fn tn yn
  have i3 := jx3 cn mn fn tn yn
  have i4 := jx4 cn mn fn tn yn
  have i5 := jx5 cn mn fn tn yn
  have s1 : ¬ (500 : Int) < (cn : Int) := by omega
  have s2 : ¬ (500 : Int) < (mn : Int) := by omega
  have s3 : ¬ (500 : Int) < (fn : Int) := by omega
  have s4 : ¬ (500 : Int) < (tn : Int) := by omega
  have s5 : ¬ (500 : Int) < (yn : Int) := by omega
  clear hl hP hV hM
  go_enter Tryz.func30, Tryz.ntmps30
  go_wp2_with fail
  refine (sizes_all ca ma fa ta ya cn mn fn tn yn cc mc fc tc yc mi _).mono ?_
  rintro e w1 ⟨rfl, hB⟩
  have F1 := Lib.hid (F.out.below hB)
  clear hB F
  go_wp2_with fail
  refine wp_loop_rounds 7 ?_
  rw [rounds_succ]
  go_wp2_with fail
  rw [rounds_succ]
  go_wp2_with fail
  rw [rounds_succ]
  go_wp2_with fail
  rw [rounds_succ]
  go_wp2_with fail
  rw [rounds_succ]
  go_wp2_with fail
  rw [rounds_succ]
  go_wp2_with fail
  rw [rounds_succ]
  go_wp2_with fail
  refine (rules_any _).mono ?_
  rintro e w2 ⟨rfl, rfl⟩
  have K0 := Lib.hid (show CkA w _ [.slice ca cn cc, .slice ma mn mc, .slice fa fn fc, .slice ta tn tc, .slice ya yn yc, .int .i64 mi] w1.heap.size from ⟨F1.out.alloc _, Bl.new w1 118 rulesL⟩)
  clear F1
  go_wp2_with fail
  obtain ⟨g, hg⟩ : ∃ g : Nat, g = w1.heap.size := ⟨_, rfl⟩
  rw [← hg] at K0 ⊢
  clear hg
  go_loopw [21] (fun s wr => ∃ k : Int, 0 ≤ k ∧ k ≤ 13 ∧ s = .int .i64 k ∧ Hid (CkAcc w ma cn mn xs ps k) ∧ CkA w wr [.slice ca cn cc, .slice ma mn mc, .slice fa fn fc, .slice ta tn tc, .slice ya yn yc, .int .i64 mi] g) (fun s _ => 13 - (intOf s).toNat)
  case atStart => exact ⟨0, by omega, by omega, rfl, Lib.hid ⟨fun h => absurd h (by omega), fun h => absurd h (by omega), fun h => absurd h (by omega), fun h => absurd h (by omega)⟩, K0.out⟩
  case round =>
    obtain ⟨k, hk0, hk, rfl, A, hK⟩ := hrel
    have K := Lib.hid hK
    clear hK K0 s1 s2 s3 s4 s5
    obtain ⟨p0, p1, p2, p3, p4, p5⟩ := K.out.fr.b0.six
    have hs : w.heap.size + 2 ≤ wr.heap.size := K.out.fr.size
    have hl1 : w.heap.size < wr.heap.size := by omega
    have hl2 : ¬ w.heap.size = wr.heap.size := by omega
    have hl3 : g < wr.heap.size := K.out.ru.lt
    have hl4 : ¬ g = wr.heap.size := by omega
    have hcase : k = 0 ∨ k = 1 ∨ k = 2 ∨ k = 3 ∨ k = 4 ∨ k = 5 ∨ k = 6 ∨ k = 7 ∨ k = 8 ∨ k = 9 ∨ k = 10 ∨ k = 11 ∨ k = 12 ∨ k = 13 := by omega
    clear hk0 hk
    rcases hcase with rfl | rfl | rfl | rfl | rfl | rfl | rfl | rfl | rfl | rfl | rfl | rfl | rfl | rfl
    · have r0 : wr.cell? ⟨g, 0, none⟩ = some (i64 1) := K.out.ru.cell 0
      have r1 : wr.cell? ⟨g, 1, none⟩ = some (.func (.func 88) #[] #[]) := K.out.ru.cell 1
      go_upto_region 10 with fail
      have R := Lib.hid (show Bl (wr.alloc (.cells #[i64 1, .func (.func 88) #[] #[]] 118)) wr.heap.size 118 [i64 1, .func (.func 88) #[] #[]] from Bl.new wr 118 [i64 1, .func (.func 88) #[] #[]])
      have K1 := Lib.hid (K.out.alloc (.cells #[i64 1, .func (.func 88) #[] #[]] 118))
      go_cut [29, 30] from 25 to 28 (fun x y wx => x = .int .i64 (cn : Int) ∧ y = i64 0 ∧ CkA w wx [.slice ca cn cc, .slice ma mn mc, .slice fa fn fc, .slice ta tn tc, .slice ya yn yc, .int .i64 mi] g ∧ Bl wx wr.heap.size 118 [i64 1, .func (.func 88) #[] #[]])
      case first =>
        go_region_with (go_at_call 62; refine (sizes_all ca ma fa ta ya cn mn fn tn yn cc mc fc tc yc mi _).mono ?_; rintro e w3 ⟨rfl, hB⟩; have K3 := Lib.hid (K1.out.drew.below hB); have R3 := Lib.hid (R.out.drew.below hB R.out.drew.lt); clear hB; have q0 := R3.out.cell 0; have q1 := R3.out.cell 1)
        all_goals (go_wp2_with fail; go_meet; exact ⟨rfl, rfl, K3.out, R3.out⟩)
      case rest =>
        obtain ⟨rfl, rfl, KC, RC⟩ := hcut
        have K3 := Lib.hid KC
        clear KC K K1 R r0 r1 p0 p1 p2 p3 p4 p5 hs hl1 hl2 hl3 hl4
        generalize wr.heap.size = gr at *
        have R3 := Lib.hid RC
        clear RC
        go_wp2_with fail
        go_loopw [30] (fun s wq => ∃ j : Nat, j ≤ cn ∧ s = .int .i64 j ∧ Hid (∀ j', j' < j → (fun (j : Nat) => True) j') ∧ CkA w wq [.slice ca cn cc, .slice ma mn mc, .slice fa fn fc, .slice ta tn tc, .slice ya yn yc, .int .i64 mi] g ∧ Bl wq gr 118 [i64 1, .func (.func 88) #[] #[]]) (fun s _ => cn - (intOf s).toNat)
        case atStart => exact ⟨0, by omega, rfl, Lib.hid (fun j' h => absurd h (by omega)), K3.out, R3.out⟩
        case round =>
          obtain ⟨j, hj, rfl, HJ, hK, hR⟩ := hrel
          have K4 := Lib.hid hK
          have R4 := Lib.hid hR
          clear hK hR K3 R3
          obtain ⟨p0, p1, p2, p3, p4, p5⟩ := K4.out.fr.b0.six
          have q0 := R4.out.cell 0
          have q1 := R4.out.cell 1
          by_cases hlj : j < cn
          · go_wp2_with fail
            refine (HC0.out j hlj _ K4.out.fr.be).mono ?_
            rintro e w5 ⟨⟨z, rfl, hz⟩, hB⟩
            have HZ := Lib.hid hz
            have K5 := Lib.hid (K4.out.below hB)
            have R5 := Lib.hid (R4.out.below hB R4.out.lt)
            clear hz hB K4 R4 p0 p1 p2 p3 p4 p5 q0 q1
            by_cases hz0 : z = 0
            · have HJ2 := Lib.hid (fun j' (h : j' < j + 1) => (show (fun (j : Nat) => True) j' from by
                by_cases e : j' = j
                · rw [e]
                  exact HZ.out hz0
                · exact HJ.out j' (by omega)))
              subst hz0
              go_wp2_with fail
              go_roundw
              case rel => exact ⟨j + 1, by omega, by go_num, HJ2, K5.out, R5.out⟩
              case measure => simp [intOf]; omega
            · have hz1 : (z == 0) = false := by simpa using hz0
              have HZ0 := Lib.hid hz0
              clear hz0
              have q0 := R5.out.cell 0
              obtain ⟨z0, z1, z2, f0, f1, f2⟩ := K5.out.fr.b1.three
              go_wp2_with fail
              refine bodyPost_ret (v := .agg #[i64 1, .int .i64 (j : Int), .int .i64 z]) (by simp [results, Tryz.results30, go_sem, z0, z1, z2]) rfl ⟨⟨_, _, _, rfl, fun h => absurd h HZ0.out⟩, ?_⟩
              exact ((K5.out.fr.be.setCell (by simp) _).setCell (by simp) _).setCell (by simp) _
          · have hj3 : cn = j := by omega
            subst hj3
            have HG := Lib.hid (show ∀ j', j' < cn → True from fun j' h => HJ.out j' h)
            have HA2 := Lib.hid (show CkAcc w ma cn mn xs ps 1 from ⟨fun h => absurd h (by omega), fun h => absurd h (by omega), fun h => absurd h (by omega), fun h => absurd h (by omega)⟩)
            go_wp2_with fail
            go_roundw
            case rel => exact ⟨1, by omega, by omega, rfl, HA2, K4.out⟩
            case measure => simp [intOf]
    · have r0 : wr.cell? ⟨g, 2, none⟩ = some (i64 1) := K.out.ru.cell 2
      have r1 : wr.cell? ⟨g, 3, none⟩ = some (.func (.func 89) #[] #[]) := K.out.ru.cell 3
      go_upto_region 10 with fail
      have R := Lib.hid (show Bl (wr.alloc (.cells #[i64 1, .func (.func 89) #[] #[]] 118)) wr.heap.size 118 [i64 1, .func (.func 89) #[] #[]] from Bl.new wr 118 [i64 1, .func (.func 89) #[] #[]])
      have K1 := Lib.hid (K.out.alloc (.cells #[i64 1, .func (.func 89) #[] #[]] 118))
      go_cut [29, 30] from 25 to 28 (fun x y wx => x = .int .i64 (cn : Int) ∧ y = i64 0 ∧ CkA w wx [.slice ca cn cc, .slice ma mn mc, .slice fa fn fc, .slice ta tn tc, .slice ya yn yc, .int .i64 mi] g ∧ Bl wx wr.heap.size 118 [i64 1, .func (.func 89) #[] #[]])
      case first =>
        go_region_with (go_at_call 62; refine (sizes_all ca ma fa ta ya cn mn fn tn yn cc mc fc tc yc mi _).mono ?_; rintro e w3 ⟨rfl, hB⟩; have K3 := Lib.hid (K1.out.drew.below hB); have R3 := Lib.hid (R.out.drew.below hB R.out.drew.lt); clear hB; have q0 := R3.out.cell 0; have q1 := R3.out.cell 1)
        all_goals (go_wp2_with fail; go_meet; exact ⟨rfl, rfl, K3.out, R3.out⟩)
      case rest =>
        obtain ⟨rfl, rfl, KC, RC⟩ := hcut
        have K3 := Lib.hid KC
        clear KC K K1 R r0 r1 p0 p1 p2 p3 p4 p5 hs hl1 hl2 hl3 hl4
        generalize wr.heap.size = gr at *
        have R3 := Lib.hid RC
        clear RC
        go_wp2_with fail
        go_loopw [30] (fun s wq => ∃ j : Nat, j ≤ cn ∧ s = .int .i64 j ∧ Hid (∀ j', j' < j → (fun (j : Nat) => (j : Int) ∉ chain (xs.map (·.ow)) cn (j : Int)) j') ∧ CkA w wq [.slice ca cn cc, .slice ma mn mc, .slice fa fn fc, .slice ta tn tc, .slice ya yn yc, .int .i64 mi] g ∧ Bl wq gr 118 [i64 1, .func (.func 89) #[] #[]]) (fun s _ => cn - (intOf s).toNat)
        case atStart => exact ⟨0, by omega, rfl, Lib.hid (fun j' h => absurd h (by omega)), K3.out, R3.out⟩
        case round =>
          obtain ⟨j, hj, rfl, HJ, hK, hR⟩ := hrel
          have K4 := Lib.hid hK
          have R4 := Lib.hid hR
          clear hK hR K3 R3
          obtain ⟨p0, p1, p2, p3, p4, p5⟩ := K4.out.fr.b0.six
          have q0 := R4.out.cell 0
          have q1 := R4.out.cell 1
          by_cases hlj : j < cn
          · go_wp2_with fail
            refine (HC1.out j hlj _ K4.out.fr.be).mono ?_
            rintro e w5 ⟨⟨z, rfl, hz⟩, hB⟩
            have HZ := Lib.hid hz
            have K5 := Lib.hid (K4.out.below hB)
            have R5 := Lib.hid (R4.out.below hB R4.out.lt)
            clear hz hB K4 R4 p0 p1 p2 p3 p4 p5 q0 q1
            by_cases hz0 : z = 0
            · have HJ2 := Lib.hid (fun j' (h : j' < j + 1) => (show (fun (j : Nat) => (j : Int) ∉ chain (xs.map (·.ow)) cn (j : Int)) j' from by
                by_cases e : j' = j
                · rw [e]
                  exact HZ.out hz0
                · exact HJ.out j' (by omega)))
              subst hz0
              go_wp2_with fail
              go_roundw
              case rel => exact ⟨j + 1, by omega, by go_num, HJ2, K5.out, R5.out⟩
              case measure => simp [intOf]; omega
            · have hz1 : (z == 0) = false := by simpa using hz0
              have HZ0 := Lib.hid hz0
              clear hz0
              have q0 := R5.out.cell 0
              obtain ⟨z0, z1, z2, f0, f1, f2⟩ := K5.out.fr.b1.three
              go_wp2_with fail
              refine bodyPost_ret (v := .agg #[i64 1, .int .i64 (j : Int), .int .i64 z]) (by simp [results, Tryz.results30, go_sem, z0, z1, z2]) rfl ⟨⟨_, _, _, rfl, fun h => absurd h HZ0.out⟩, ?_⟩
              exact ((K5.out.fr.be.setCell (by simp) _).setCell (by simp) _).setCell (by simp) _
          · have hj3 : cn = j := by omega
            subst hj3
            have HG := Lib.hid (show CkN cn xs cn from fun j' h => HJ.out j' h)
            have HA2 := Lib.hid (show CkAcc w ma cn mn xs ps 2 from ⟨fun _ => HG.out, fun h => absurd h (by omega), fun h => absurd h (by omega), fun h => absurd h (by omega)⟩)
            go_wp2_with fail
            go_roundw
            case rel => exact ⟨2, by omega, by omega, rfl, HA2, K4.out⟩
            case measure => simp [intOf]
    · have r0 : wr.cell? ⟨g, 4, none⟩ = some (i64 1) := K.out.ru.cell 4
      have r1 : wr.cell? ⟨g, 5, none⟩ = some (.func (.func 90) #[] #[]) := K.out.ru.cell 5
      go_upto_region 10 with fail
      have R := Lib.hid (show Bl (wr.alloc (.cells #[i64 1, .func (.func 90) #[] #[]] 118)) wr.heap.size 118 [i64 1, .func (.func 90) #[] #[]] from Bl.new wr 118 [i64 1, .func (.func 90) #[] #[]])
      have K1 := Lib.hid (K.out.alloc (.cells #[i64 1, .func (.func 90) #[] #[]] 118))
      go_cut [29, 30] from 25 to 28 (fun x y wx => x = .int .i64 (cn : Int) ∧ y = i64 0 ∧ CkA w wx [.slice ca cn cc, .slice ma mn mc, .slice fa fn fc, .slice ta tn tc, .slice ya yn yc, .int .i64 mi] g ∧ Bl wx wr.heap.size 118 [i64 1, .func (.func 90) #[] #[]])
      case first =>
        go_region_with (go_at_call 62; refine (sizes_all ca ma fa ta ya cn mn fn tn yn cc mc fc tc yc mi _).mono ?_; rintro e w3 ⟨rfl, hB⟩; have K3 := Lib.hid (K1.out.drew.below hB); have R3 := Lib.hid (R.out.drew.below hB R.out.drew.lt); clear hB; have q0 := R3.out.cell 0; have q1 := R3.out.cell 1)
        all_goals (go_wp2_with fail; go_meet; exact ⟨rfl, rfl, K3.out, R3.out⟩)
      case rest =>
        obtain ⟨rfl, rfl, KC, RC⟩ := hcut
        have K3 := Lib.hid KC
        clear KC K K1 R r0 r1 p0 p1 p2 p3 p4 p5 hs hl1 hl2 hl3 hl4
        generalize wr.heap.size = gr at *
        have R3 := Lib.hid RC
        clear RC
        go_wp2_with fail
        go_loopw [30] (fun s wq => ∃ j : Nat, j ≤ cn ∧ s = .int .i64 j ∧ Hid (∀ j', j' < j → (fun (j : Nat) => ∀ ts, ps[j]? = some ts → ParOk cn ts) j') ∧ CkA w wq [.slice ca cn cc, .slice ma mn mc, .slice fa fn fc, .slice ta tn tc, .slice ya yn yc, .int .i64 mi] g ∧ Bl wq gr 118 [i64 1, .func (.func 90) #[] #[]]) (fun s _ => cn - (intOf s).toNat)
        case atStart => exact ⟨0, by omega, rfl, Lib.hid (fun j' h => absurd h (by omega)), K3.out, R3.out⟩
        case round =>
          obtain ⟨j, hj, rfl, HJ, hK, hR⟩ := hrel
          have K4 := Lib.hid hK
          have R4 := Lib.hid hR
          clear hK hR K3 R3
          obtain ⟨p0, p1, p2, p3, p4, p5⟩ := K4.out.fr.b0.six
          have q0 := R4.out.cell 0
          have q1 := R4.out.cell 1
          by_cases hlj : j < cn
          · go_wp2_with fail
            refine (HC2.out j hlj _ K4.out.fr.be).mono ?_
            rintro e w5 ⟨⟨z, rfl, hz⟩, hB⟩
            have HZ := Lib.hid hz
            have K5 := Lib.hid (K4.out.below hB)
            have R5 := Lib.hid (R4.out.below hB R4.out.lt)
            clear hz hB K4 R4 p0 p1 p2 p3 p4 p5 q0 q1
            by_cases hz0 : z = 0
            · have HJ2 := Lib.hid (fun j' (h : j' < j + 1) => (show (fun (j : Nat) => ∀ ts, ps[j]? = some ts → ParOk cn ts) j' from by
                by_cases e : j' = j
                · rw [e]
                  exact HZ.out hz0
                · exact HJ.out j' (by omega)))
              subst hz0
              go_wp2_with fail
              go_roundw
              case rel => exact ⟨j + 1, by omega, by go_num, HJ2, K5.out, R5.out⟩
              case measure => simp [intOf]; omega
            · have hz1 : (z == 0) = false := by simpa using hz0
              have HZ0 := Lib.hid hz0
              clear hz0
              have q0 := R5.out.cell 0
              obtain ⟨z0, z1, z2, f0, f1, f2⟩ := K5.out.fr.b1.three
              go_wp2_with fail
              refine bodyPost_ret (v := .agg #[i64 1, .int .i64 (j : Int), .int .i64 z]) (by simp [results, Tryz.results30, go_sem, z0, z1, z2]) rfl ⟨⟨_, _, _, rfl, fun h => absurd h HZ0.out⟩, ?_⟩
              exact ((K5.out.fr.be.setCell (by simp) _).setCell (by simp) _).setCell (by simp) _
          · have hj3 : cn = j := by omega
            subst hj3
            have HG := Lib.hid (show CkP cn ps cn from fun j' h => HJ.out j' h)
            have HA2 := Lib.hid (show CkAcc w ma cn mn xs ps 3 from ⟨fun _ => A.out.1 (by omega), fun _ => HG.out, fun h => absurd h (by omega), fun h => absurd h (by omega)⟩)
            go_wp2_with fail
            go_roundw
            case rel => exact ⟨3, by omega, by omega, rfl, HA2, K4.out⟩
            case measure => simp [intOf]
    · have r0 : wr.cell? ⟨g, 6, none⟩ = some (i64 1) := K.out.ru.cell 6
      have r1 : wr.cell? ⟨g, 7, none⟩ = some (.func (.func 91) #[] #[]) := K.out.ru.cell 7
      go_upto_region 10 with fail
      have R := Lib.hid (show Bl (wr.alloc (.cells #[i64 1, .func (.func 91) #[] #[]] 118)) wr.heap.size 118 [i64 1, .func (.func 91) #[] #[]] from Bl.new wr 118 [i64 1, .func (.func 91) #[] #[]])
      have K1 := Lib.hid (K.out.alloc (.cells #[i64 1, .func (.func 91) #[] #[]] 118))
      go_cut [29, 30] from 25 to 28 (fun x y wx => x = .int .i64 (cn : Int) ∧ y = i64 0 ∧ CkA w wx [.slice ca cn cc, .slice ma mn mc, .slice fa fn fc, .slice ta tn tc, .slice ya yn yc, .int .i64 mi] g ∧ Bl wx wr.heap.size 118 [i64 1, .func (.func 91) #[] #[]])
      case first =>
        go_region_with (go_at_call 62; refine (sizes_all ca ma fa ta ya cn mn fn tn yn cc mc fc tc yc mi _).mono ?_; rintro e w3 ⟨rfl, hB⟩; have K3 := Lib.hid (K1.out.drew.below hB); have R3 := Lib.hid (R.out.drew.below hB R.out.drew.lt); clear hB; have q0 := R3.out.cell 0; have q1 := R3.out.cell 1)
        all_goals (go_wp2_with fail; go_meet; exact ⟨rfl, rfl, K3.out, R3.out⟩)
      case rest =>
        obtain ⟨rfl, rfl, KC, RC⟩ := hcut
        have K3 := Lib.hid KC
        clear KC K K1 R r0 r1 p0 p1 p2 p3 p4 p5 hs hl1 hl2 hl3 hl4
        generalize wr.heap.size = gr at *
        have R3 := Lib.hid RC
        clear RC
        go_wp2_with fail
        go_loopw [30] (fun s wq => ∃ j : Nat, j ≤ cn ∧ s = .int .i64 j ∧ Hid (∀ j', j' < j → (fun (j : Nat) => ¬ Rch (symL ps) (j : Int) (j : Int)) j') ∧ CkA w wq [.slice ca cn cc, .slice ma mn mc, .slice fa fn fc, .slice ta tn tc, .slice ya yn yc, .int .i64 mi] g ∧ Bl wq gr 118 [i64 1, .func (.func 91) #[] #[]]) (fun s _ => cn - (intOf s).toNat)
        case atStart => exact ⟨0, by omega, rfl, Lib.hid (fun j' h => absurd h (by omega)), K3.out, R3.out⟩
        case round =>
          obtain ⟨j, hj, rfl, HJ, hK, hR⟩ := hrel
          have K4 := Lib.hid hK
          have R4 := Lib.hid hR
          clear hK hR K3 R3
          obtain ⟨p0, p1, p2, p3, p4, p5⟩ := K4.out.fr.b0.six
          have q0 := R4.out.cell 0
          have q1 := R4.out.cell 1
          by_cases hlj : j < cn
          · go_wp2_with fail
            refine (HC3.out j hlj _ K4.out.fr.be).mono ?_
            rintro e w5 ⟨⟨z, rfl, hz⟩, hB⟩
            have HZ := Lib.hid hz
            have K5 := Lib.hid (K4.out.below hB)
            have R5 := Lib.hid (R4.out.below hB R4.out.lt)
            clear hz hB K4 R4 p0 p1 p2 p3 p4 p5 q0 q1
            by_cases hz0 : z = 0
            · have HJ2 := Lib.hid (fun j' (h : j' < j + 1) => (show (fun (j : Nat) => ¬ Rch (symL ps) (j : Int) (j : Int)) j' from by
                by_cases e : j' = j
                · rw [e]
                  exact HZ.out hz0
                · exact HJ.out j' (by omega)))
              subst hz0
              go_wp2_with fail
              go_roundw
              case rel => exact ⟨j + 1, by omega, by go_num, HJ2, K5.out, R5.out⟩
              case measure => simp [intOf]; omega
            · have hz1 : (z == 0) = false := by simpa using hz0
              have HZ0 := Lib.hid hz0
              clear hz0
              have q0 := R5.out.cell 0
              obtain ⟨z0, z1, z2, f0, f1, f2⟩ := K5.out.fr.b1.three
              go_wp2_with fail
              refine bodyPost_ret (v := .agg #[i64 1, .int .i64 (j : Int), .int .i64 z]) (by simp [results, Tryz.results30, go_sem, z0, z1, z2]) rfl ⟨⟨_, _, _, rfl, fun h => absurd h HZ0.out⟩, ?_⟩
              exact ((K5.out.fr.be.setCell (by simp) _).setCell (by simp) _).setCell (by simp) _
          · have hj3 : cn = j := by omega
            subst hj3
            have HG := Lib.hid (show CkR ps cn from fun j' h => HJ.out j' h)
            have HA2 := Lib.hid (show CkAcc w ma cn mn xs ps 4 from ⟨fun _ => A.out.1 (by omega), fun _ => A.out.2.1 (by omega), fun _ => HG.out, fun h => absurd h (by omega)⟩)
            go_wp2_with fail
            go_roundw
            case rel => exact ⟨4, by omega, by omega, rfl, HA2, K4.out⟩
            case measure => simp [intOf]
    · have r0 : wr.cell? ⟨g, 8, none⟩ = some (i64 2) := K.out.ru.cell 8
      have r1 : wr.cell? ⟨g, 9, none⟩ = some (.func (.func 92) #[] #[]) := K.out.ru.cell 9
      go_upto_region 10 with fail
      have R := Lib.hid (show Bl (wr.alloc (.cells #[i64 2, .func (.func 92) #[] #[]] 118)) wr.heap.size 118 [i64 2, .func (.func 92) #[] #[]] from Bl.new wr 118 [i64 2, .func (.func 92) #[] #[]])
      have K1 := Lib.hid (K.out.alloc (.cells #[i64 2, .func (.func 92) #[] #[]] 118))
      go_cut [29, 30] from 25 to 28 (fun x y wx => x = .int .i64 (mn : Int) ∧ y = i64 0 ∧ CkA w wx [.slice ca cn cc, .slice ma mn mc, .slice fa fn fc, .slice ta tn tc, .slice ya yn yc, .int .i64 mi] g ∧ Bl wx wr.heap.size 118 [i64 2, .func (.func 92) #[] #[]])
      case first =>
        go_region_with (go_at_call 62; refine (sizes_all ca ma fa ta ya cn mn fn tn yn cc mc fc tc yc mi _).mono ?_; rintro e w3 ⟨rfl, hB⟩; have K3 := Lib.hid (K1.out.drew.below hB); have R3 := Lib.hid (R.out.drew.below hB R.out.drew.lt); clear hB; have q0 := R3.out.cell 0; have q1 := R3.out.cell 1)
        all_goals (go_wp2_with fail; go_meet; exact ⟨rfl, rfl, K3.out, R3.out⟩)
      case rest =>
        obtain ⟨rfl, rfl, KC, RC⟩ := hcut
        have K3 := Lib.hid KC
        clear KC K K1 R r0 r1 p0 p1 p2 p3 p4 p5 hs hl1 hl2 hl3 hl4
        generalize wr.heap.size = gr at *
        have R3 := Lib.hid RC
        clear RC
        go_wp2_with fail
        go_loopw [30] (fun s wq => ∃ j : Nat, j ≤ mn ∧ s = .int .i64 j ∧ Hid (∀ j', j' < j → (fun (j : Nat) => OwOk w ma cn j) j') ∧ CkA w wq [.slice ca cn cc, .slice ma mn mc, .slice fa fn fc, .slice ta tn tc, .slice ya yn yc, .int .i64 mi] g ∧ Bl wq gr 118 [i64 2, .func (.func 92) #[] #[]]) (fun s _ => mn - (intOf s).toNat)
        case atStart => exact ⟨0, by omega, rfl, Lib.hid (fun j' h => absurd h (by omega)), K3.out, R3.out⟩
        case round =>
          obtain ⟨j, hj, rfl, HJ, hK, hR⟩ := hrel
          have K4 := Lib.hid hK
          have R4 := Lib.hid hR
          clear hK hR K3 R3
          obtain ⟨p0, p1, p2, p3, p4, p5⟩ := K4.out.fr.b0.six
          have q0 := R4.out.cell 0
          have q1 := R4.out.cell 1
          by_cases hlj : j < mn
          · go_wp2_with fail
            refine (HC4.out j hlj _ K4.out.fr.be).mono ?_
            rintro e w5 ⟨⟨z, rfl, hz⟩, hB⟩
            have HZ := Lib.hid hz
            have K5 := Lib.hid (K4.out.below hB)
            have R5 := Lib.hid (R4.out.below hB R4.out.lt)
            clear hz hB K4 R4 p0 p1 p2 p3 p4 p5 q0 q1
            by_cases hz0 : z = 0
            · have HJ2 := Lib.hid (fun j' (h : j' < j + 1) => (show (fun (j : Nat) => OwOk w ma cn j) j' from by
                by_cases e : j' = j
                · rw [e]
                  exact HZ.out hz0
                · exact HJ.out j' (by omega)))
              subst hz0
              go_wp2_with fail
              go_roundw
              case rel => exact ⟨j + 1, by omega, by go_num, HJ2, K5.out, R5.out⟩
              case measure => simp [intOf]; omega
            · have hz1 : (z == 0) = false := by simpa using hz0
              have HZ0 := Lib.hid hz0
              clear hz0
              have q0 := R5.out.cell 0
              obtain ⟨z0, z1, z2, f0, f1, f2⟩ := K5.out.fr.b1.three
              go_wp2_with fail
              refine bodyPost_ret (v := .agg #[i64 2, .int .i64 (j : Int), .int .i64 z]) (by simp [results, Tryz.results30, go_sem, z0, z1, z2]) rfl ⟨⟨_, _, _, rfl, fun h => absurd h HZ0.out⟩, ?_⟩
              exact ((K5.out.fr.be.setCell (by simp) _).setCell (by simp) _).setCell (by simp) _
          · have hj3 : mn = j := by omega
            subst hj3
            have HG := Lib.hid (show CkO w ma cn mn from fun j' h => HJ.out j' h)
            have HA2 := Lib.hid (show CkAcc w ma cn mn xs ps 5 from ⟨fun _ => A.out.1 (by omega), fun _ => A.out.2.1 (by omega), fun _ => A.out.2.2.1 (by omega), fun _ => HG.out⟩)
            go_wp2_with fail
            go_roundw
            case rel => exact ⟨5, by omega, by omega, rfl, HA2, K4.out⟩
            case measure => simp [intOf]
    · have r0 : wr.cell? ⟨g, 10, none⟩ = some (i64 3) := K.out.ru.cell 10
      have r1 : wr.cell? ⟨g, 11, none⟩ = some (.func (.func 93) #[] #[]) := K.out.ru.cell 11
      go_upto_region 10 with fail
      have R := Lib.hid (show Bl (wr.alloc (.cells #[i64 3, .func (.func 93) #[] #[]] 118)) wr.heap.size 118 [i64 3, .func (.func 93) #[] #[]] from Bl.new wr 118 [i64 3, .func (.func 93) #[] #[]])
      have K1 := Lib.hid (K.out.alloc (.cells #[i64 3, .func (.func 93) #[] #[]] 118))
      go_cut [29, 30] from 25 to 28 (fun x y wx => x = .int .i64 (fn : Int) ∧ y = i64 0 ∧ CkA w wx [.slice ca cn cc, .slice ma mn mc, .slice fa fn fc, .slice ta tn tc, .slice ya yn yc, .int .i64 mi] g ∧ Bl wx wr.heap.size 118 [i64 3, .func (.func 93) #[] #[]])
      case first =>
        go_region_with (go_at_call 62; refine (sizes_all ca ma fa ta ya cn mn fn tn yn cc mc fc tc yc mi _).mono ?_; rintro e w3 ⟨rfl, hB⟩; have K3 := Lib.hid (K1.out.drew.below hB); have R3 := Lib.hid (R.out.drew.below hB R.out.drew.lt); clear hB; have q0 := R3.out.cell 0; have q1 := R3.out.cell 1)
        all_goals (go_wp2_with fail; go_meet; exact ⟨rfl, rfl, K3.out, R3.out⟩)
      case rest =>
        obtain ⟨rfl, rfl, KC, RC⟩ := hcut
        have K3 := Lib.hid KC
        clear KC K K1 R r0 r1 p0 p1 p2 p3 p4 p5 hs hl1 hl2 hl3 hl4
        generalize wr.heap.size = gr at *
        have R3 := Lib.hid RC
        clear RC
        go_wp2_with fail
        go_loopw [30] (fun s wq => ∃ j : Nat, j ≤ fn ∧ s = .int .i64 j ∧ Hid (∀ j', j' < j → (fun (j : Nat) => True) j') ∧ CkA w wq [.slice ca cn cc, .slice ma mn mc, .slice fa fn fc, .slice ta tn tc, .slice ya yn yc, .int .i64 mi] g ∧ Bl wq gr 118 [i64 3, .func (.func 93) #[] #[]]) (fun s _ => fn - (intOf s).toNat)
        case atStart => exact ⟨0, by omega, rfl, Lib.hid (fun j' h => absurd h (by omega)), K3.out, R3.out⟩
        case round =>
          obtain ⟨j, hj, rfl, HJ, hK, hR⟩ := hrel
          have K4 := Lib.hid hK
          have R4 := Lib.hid hR
          clear hK hR K3 R3
          obtain ⟨p0, p1, p2, p3, p4, p5⟩ := K4.out.fr.b0.six
          have q0 := R4.out.cell 0
          have q1 := R4.out.cell 1
          by_cases hlj : j < fn
          · go_wp2_with fail
            refine (HC5.out j hlj _ K4.out.fr.be).mono ?_
            rintro e w5 ⟨⟨z, rfl, hz⟩, hB⟩
            have HZ := Lib.hid hz
            have K5 := Lib.hid (K4.out.below hB)
            have R5 := Lib.hid (R4.out.below hB R4.out.lt)
            clear hz hB K4 R4 p0 p1 p2 p3 p4 p5 q0 q1
            by_cases hz0 : z = 0
            · have HJ2 := Lib.hid (fun j' (h : j' < j + 1) => (show (fun (j : Nat) => True) j' from by
                by_cases e : j' = j
                · rw [e]
                  exact HZ.out hz0
                · exact HJ.out j' (by omega)))
              subst hz0
              go_wp2_with fail
              go_roundw
              case rel => exact ⟨j + 1, by omega, by go_num, HJ2, K5.out, R5.out⟩
              case measure => simp [intOf]; omega
            · have hz1 : (z == 0) = false := by simpa using hz0
              have HZ0 := Lib.hid hz0
              clear hz0
              have q0 := R5.out.cell 0
              obtain ⟨z0, z1, z2, f0, f1, f2⟩ := K5.out.fr.b1.three
              go_wp2_with fail
              refine bodyPost_ret (v := .agg #[i64 3, .int .i64 (j : Int), .int .i64 z]) (by simp [results, Tryz.results30, go_sem, z0, z1, z2]) rfl ⟨⟨_, _, _, rfl, fun h => absurd h HZ0.out⟩, ?_⟩
              exact ((K5.out.fr.be.setCell (by simp) _).setCell (by simp) _).setCell (by simp) _
          · have hj3 : fn = j := by omega
            subst hj3
            have HG := Lib.hid (show ∀ j', j' < fn → True from fun j' h => HJ.out j' h)
            have HA2 := Lib.hid (show CkAcc w ma cn mn xs ps 6 from ⟨fun _ => A.out.1 (by omega), fun _ => A.out.2.1 (by omega), fun _ => A.out.2.2.1 (by omega), fun _ => A.out.2.2.2 (by omega)⟩)
            go_wp2_with fail
            go_roundw
            case rel => exact ⟨6, by omega, by omega, rfl, HA2, K4.out⟩
            case measure => simp [intOf]
    · have r0 : wr.cell? ⟨g, 12, none⟩ = some (i64 4) := K.out.ru.cell 12
      have r1 : wr.cell? ⟨g, 13, none⟩ = some (.func (.func 94) #[] #[]) := K.out.ru.cell 13
      go_upto_region 10 with fail
      have R := Lib.hid (show Bl (wr.alloc (.cells #[i64 4, .func (.func 94) #[] #[]] 118)) wr.heap.size 118 [i64 4, .func (.func 94) #[] #[]] from Bl.new wr 118 [i64 4, .func (.func 94) #[] #[]])
      have K1 := Lib.hid (K.out.alloc (.cells #[i64 4, .func (.func 94) #[] #[]] 118))
      go_cut [29, 30] from 25 to 28 (fun x y wx => x = .int .i64 (tn : Int) ∧ y = i64 0 ∧ CkA w wx [.slice ca cn cc, .slice ma mn mc, .slice fa fn fc, .slice ta tn tc, .slice ya yn yc, .int .i64 mi] g ∧ Bl wx wr.heap.size 118 [i64 4, .func (.func 94) #[] #[]])
      case first =>
        go_region_with (go_at_call 62; refine (sizes_all ca ma fa ta ya cn mn fn tn yn cc mc fc tc yc mi _).mono ?_; rintro e w3 ⟨rfl, hB⟩; have K3 := Lib.hid (K1.out.drew.below hB); have R3 := Lib.hid (R.out.drew.below hB R.out.drew.lt); clear hB; have q0 := R3.out.cell 0; have q1 := R3.out.cell 1)
        all_goals (go_wp2_with fail; go_meet; exact ⟨rfl, rfl, K3.out, R3.out⟩)
      case rest =>
        obtain ⟨rfl, rfl, KC, RC⟩ := hcut
        have K3 := Lib.hid KC
        clear KC K K1 R r0 r1 p0 p1 p2 p3 p4 p5 hs hl1 hl2 hl3 hl4
        generalize wr.heap.size = gr at *
        have R3 := Lib.hid RC
        clear RC
        go_wp2_with fail
        go_loopw [30] (fun s wq => ∃ j : Nat, j ≤ tn ∧ s = .int .i64 j ∧ Hid (∀ j', j' < j → (fun (j : Nat) => True) j') ∧ CkA w wq [.slice ca cn cc, .slice ma mn mc, .slice fa fn fc, .slice ta tn tc, .slice ya yn yc, .int .i64 mi] g ∧ Bl wq gr 118 [i64 4, .func (.func 94) #[] #[]]) (fun s _ => tn - (intOf s).toNat)
        case atStart => exact ⟨0, by omega, rfl, Lib.hid (fun j' h => absurd h (by omega)), K3.out, R3.out⟩
        case round =>
          obtain ⟨j, hj, rfl, HJ, hK, hR⟩ := hrel
          have K4 := Lib.hid hK
          have R4 := Lib.hid hR
          clear hK hR K3 R3
          obtain ⟨p0, p1, p2, p3, p4, p5⟩ := K4.out.fr.b0.six
          have q0 := R4.out.cell 0
          have q1 := R4.out.cell 1
          by_cases hlj : j < tn
          · go_wp2_with fail
            refine (HC6.out j hlj _ K4.out.fr.be).mono ?_
            rintro e w5 ⟨⟨z, rfl, hz⟩, hB⟩
            have HZ := Lib.hid hz
            have K5 := Lib.hid (K4.out.below hB)
            have R5 := Lib.hid (R4.out.below hB R4.out.lt)
            clear hz hB K4 R4 p0 p1 p2 p3 p4 p5 q0 q1
            by_cases hz0 : z = 0
            · have HJ2 := Lib.hid (fun j' (h : j' < j + 1) => (show (fun (j : Nat) => True) j' from by
                by_cases e : j' = j
                · rw [e]
                  exact HZ.out hz0
                · exact HJ.out j' (by omega)))
              subst hz0
              go_wp2_with fail
              go_roundw
              case rel => exact ⟨j + 1, by omega, by go_num, HJ2, K5.out, R5.out⟩
              case measure => simp [intOf]; omega
            · have hz1 : (z == 0) = false := by simpa using hz0
              have HZ0 := Lib.hid hz0
              clear hz0
              have q0 := R5.out.cell 0
              obtain ⟨z0, z1, z2, f0, f1, f2⟩ := K5.out.fr.b1.three
              go_wp2_with fail
              refine bodyPost_ret (v := .agg #[i64 4, .int .i64 (j : Int), .int .i64 z]) (by simp [results, Tryz.results30, go_sem, z0, z1, z2]) rfl ⟨⟨_, _, _, rfl, fun h => absurd h HZ0.out⟩, ?_⟩
              exact ((K5.out.fr.be.setCell (by simp) _).setCell (by simp) _).setCell (by simp) _
          · have hj3 : tn = j := by omega
            subst hj3
            have HG := Lib.hid (show ∀ j', j' < tn → True from fun j' h => HJ.out j' h)
            have HA2 := Lib.hid (show CkAcc w ma cn mn xs ps 7 from ⟨fun _ => A.out.1 (by omega), fun _ => A.out.2.1 (by omega), fun _ => A.out.2.2.1 (by omega), fun _ => A.out.2.2.2 (by omega)⟩)
            go_wp2_with fail
            go_roundw
            case rel => exact ⟨7, by omega, by omega, rfl, HA2, K4.out⟩
            case measure => simp [intOf]
    · have r0 : wr.cell? ⟨g, 14, none⟩ = some (i64 5) := K.out.ru.cell 14
      have r1 : wr.cell? ⟨g, 15, none⟩ = some (.func (.func 95) #[] #[]) := K.out.ru.cell 15
      go_upto_region 10 with fail
      have R := Lib.hid (show Bl (wr.alloc (.cells #[i64 5, .func (.func 95) #[] #[]] 118)) wr.heap.size 118 [i64 5, .func (.func 95) #[] #[]] from Bl.new wr 118 [i64 5, .func (.func 95) #[] #[]])
      have K1 := Lib.hid (K.out.alloc (.cells #[i64 5, .func (.func 95) #[] #[]] 118))
      go_cut [29, 30] from 25 to 28 (fun x y wx => x = .int .i64 (yn : Int) ∧ y = i64 0 ∧ CkA w wx [.slice ca cn cc, .slice ma mn mc, .slice fa fn fc, .slice ta tn tc, .slice ya yn yc, .int .i64 mi] g ∧ Bl wx wr.heap.size 118 [i64 5, .func (.func 95) #[] #[]])
      case first =>
        go_region_with (go_at_call 62; refine (sizes_all ca ma fa ta ya cn mn fn tn yn cc mc fc tc yc mi _).mono ?_; rintro e w3 ⟨rfl, hB⟩; have K3 := Lib.hid (K1.out.drew.below hB); have R3 := Lib.hid (R.out.drew.below hB R.out.drew.lt); clear hB; have q0 := R3.out.cell 0; have q1 := R3.out.cell 1)
        all_goals (go_wp2_with fail; go_meet; exact ⟨rfl, rfl, K3.out, R3.out⟩)
      case rest =>
        obtain ⟨rfl, rfl, KC, RC⟩ := hcut
        have K3 := Lib.hid KC
        clear KC K K1 R r0 r1 p0 p1 p2 p3 p4 p5 hs hl1 hl2 hl3 hl4
        generalize wr.heap.size = gr at *
        have R3 := Lib.hid RC
        clear RC
        go_wp2_with fail
        go_loopw [30] (fun s wq => ∃ j : Nat, j ≤ yn ∧ s = .int .i64 j ∧ Hid (∀ j', j' < j → (fun (j : Nat) => True) j') ∧ CkA w wq [.slice ca cn cc, .slice ma mn mc, .slice fa fn fc, .slice ta tn tc, .slice ya yn yc, .int .i64 mi] g ∧ Bl wq gr 118 [i64 5, .func (.func 95) #[] #[]]) (fun s _ => yn - (intOf s).toNat)
        case atStart => exact ⟨0, by omega, rfl, Lib.hid (fun j' h => absurd h (by omega)), K3.out, R3.out⟩
        case round =>
          obtain ⟨j, hj, rfl, HJ, hK, hR⟩ := hrel
          have K4 := Lib.hid hK
          have R4 := Lib.hid hR
          clear hK hR K3 R3
          obtain ⟨p0, p1, p2, p3, p4, p5⟩ := K4.out.fr.b0.six
          have q0 := R4.out.cell 0
          have q1 := R4.out.cell 1
          by_cases hlj : j < yn
          · go_wp2_with fail
            refine (HC7.out j hlj _ K4.out.fr.be).mono ?_
            rintro e w5 ⟨⟨z, rfl, hz⟩, hB⟩
            have HZ := Lib.hid hz
            have K5 := Lib.hid (K4.out.below hB)
            have R5 := Lib.hid (R4.out.below hB R4.out.lt)
            clear hz hB K4 R4 p0 p1 p2 p3 p4 p5 q0 q1
            by_cases hz0 : z = 0
            · have HJ2 := Lib.hid (fun j' (h : j' < j + 1) => (show (fun (j : Nat) => True) j' from by
                by_cases e : j' = j
                · rw [e]
                  exact HZ.out hz0
                · exact HJ.out j' (by omega)))
              subst hz0
              go_wp2_with fail
              go_roundw
              case rel => exact ⟨j + 1, by omega, by go_num, HJ2, K5.out, R5.out⟩
              case measure => simp [intOf]; omega
            · have hz1 : (z == 0) = false := by simpa using hz0
              have HZ0 := Lib.hid hz0
              clear hz0
              have q0 := R5.out.cell 0
              obtain ⟨z0, z1, z2, f0, f1, f2⟩ := K5.out.fr.b1.three
              go_wp2_with fail
              refine bodyPost_ret (v := .agg #[i64 5, .int .i64 (j : Int), .int .i64 z]) (by simp [results, Tryz.results30, go_sem, z0, z1, z2]) rfl ⟨⟨_, _, _, rfl, fun h => absurd h HZ0.out⟩, ?_⟩
              exact ((K5.out.fr.be.setCell (by simp) _).setCell (by simp) _).setCell (by simp) _
          · have hj3 : yn = j := by omega
            subst hj3
            have HG := Lib.hid (show ∀ j', j' < yn → True from fun j' h => HJ.out j' h)
            have HA2 := Lib.hid (show CkAcc w ma cn mn xs ps 8 from ⟨fun _ => A.out.1 (by omega), fun _ => A.out.2.1 (by omega), fun _ => A.out.2.2.1 (by omega), fun _ => A.out.2.2.2 (by omega)⟩)
            go_wp2_with fail
            go_roundw
            case rel => exact ⟨8, by omega, by omega, rfl, HA2, K4.out⟩
            case measure => simp [intOf]
    · have r0 : wr.cell? ⟨g, 16, none⟩ = some (i64 1) := K.out.ru.cell 16
      have r1 : wr.cell? ⟨g, 17, none⟩ = some (.func (.func 96) #[] #[]) := K.out.ru.cell 17
      go_upto_region 10 with fail
      have R := Lib.hid (show Bl (wr.alloc (.cells #[i64 1, .func (.func 96) #[] #[]] 118)) wr.heap.size 118 [i64 1, .func (.func 96) #[] #[]] from Bl.new wr 118 [i64 1, .func (.func 96) #[] #[]])
      have K1 := Lib.hid (K.out.alloc (.cells #[i64 1, .func (.func 96) #[] #[]] 118))
      go_cut [29, 30] from 25 to 28 (fun x y wx => x = .int .i64 (cn : Int) ∧ y = i64 0 ∧ CkA w wx [.slice ca cn cc, .slice ma mn mc, .slice fa fn fc, .slice ta tn tc, .slice ya yn yc, .int .i64 mi] g ∧ Bl wx wr.heap.size 118 [i64 1, .func (.func 96) #[] #[]])
      case first =>
        go_region_with (go_at_call 62; refine (sizes_all ca ma fa ta ya cn mn fn tn yn cc mc fc tc yc mi _).mono ?_; rintro e w3 ⟨rfl, hB⟩; have K3 := Lib.hid (K1.out.drew.below hB); have R3 := Lib.hid (R.out.drew.below hB R.out.drew.lt); clear hB; have q0 := R3.out.cell 0; have q1 := R3.out.cell 1)
        all_goals (go_wp2_with fail; go_meet; exact ⟨rfl, rfl, K3.out, R3.out⟩)
      case rest =>
        obtain ⟨rfl, rfl, KC, RC⟩ := hcut
        have K3 := Lib.hid KC
        clear KC K K1 R r0 r1 p0 p1 p2 p3 p4 p5 hs hl1 hl2 hl3 hl4
        generalize wr.heap.size = gr at *
        have R3 := Lib.hid RC
        clear RC
        go_wp2_with fail
        go_loopw [30] (fun s wq => ∃ j : Nat, j ≤ cn ∧ s = .int .i64 j ∧ Hid (∀ j', j' < j → (fun (j : Nat) => True) j') ∧ CkA w wq [.slice ca cn cc, .slice ma mn mc, .slice fa fn fc, .slice ta tn tc, .slice ya yn yc, .int .i64 mi] g ∧ Bl wq gr 118 [i64 1, .func (.func 96) #[] #[]]) (fun s _ => cn - (intOf s).toNat)
        case atStart => exact ⟨0, by omega, rfl, Lib.hid (fun j' h => absurd h (by omega)), K3.out, R3.out⟩
        case round =>
          obtain ⟨j, hj, rfl, HJ, hK, hR⟩ := hrel
          have K4 := Lib.hid hK
          have R4 := Lib.hid hR
          clear hK hR K3 R3
          obtain ⟨p0, p1, p2, p3, p4, p5⟩ := K4.out.fr.b0.six
          have q0 := R4.out.cell 0
          have q1 := R4.out.cell 1
          by_cases hlj : j < cn
          · go_wp2_with fail
            refine (HC8.out j hlj _ K4.out.fr.be).mono ?_
            rintro e w5 ⟨⟨z, rfl, hz⟩, hB⟩
            have HZ := Lib.hid hz
            have K5 := Lib.hid (K4.out.below hB)
            have R5 := Lib.hid (R4.out.below hB R4.out.lt)
            clear hz hB K4 R4 p0 p1 p2 p3 p4 p5 q0 q1
            by_cases hz0 : z = 0
            · have HJ2 := Lib.hid (fun j' (h : j' < j + 1) => (show (fun (j : Nat) => True) j' from by
                by_cases e : j' = j
                · rw [e]
                  exact HZ.out hz0
                · exact HJ.out j' (by omega)))
              subst hz0
              go_wp2_with fail
              go_roundw
              case rel => exact ⟨j + 1, by omega, by go_num, HJ2, K5.out, R5.out⟩
              case measure => simp [intOf]; omega
            · have hz1 : (z == 0) = false := by simpa using hz0
              have HZ0 := Lib.hid hz0
              clear hz0
              have q0 := R5.out.cell 0
              obtain ⟨z0, z1, z2, f0, f1, f2⟩ := K5.out.fr.b1.three
              go_wp2_with fail
              refine bodyPost_ret (v := .agg #[i64 1, .int .i64 (j : Int), .int .i64 z]) (by simp [results, Tryz.results30, go_sem, z0, z1, z2]) rfl ⟨⟨_, _, _, rfl, fun h => absurd h HZ0.out⟩, ?_⟩
              exact ((K5.out.fr.be.setCell (by simp) _).setCell (by simp) _).setCell (by simp) _
          · have hj3 : cn = j := by omega
            subst hj3
            have HG := Lib.hid (show ∀ j', j' < cn → True from fun j' h => HJ.out j' h)
            have HA2 := Lib.hid (show CkAcc w ma cn mn xs ps 9 from ⟨fun _ => A.out.1 (by omega), fun _ => A.out.2.1 (by omega), fun _ => A.out.2.2.1 (by omega), fun _ => A.out.2.2.2 (by omega)⟩)
            go_wp2_with fail
            go_roundw
            case rel => exact ⟨9, by omega, by omega, rfl, HA2, K4.out⟩
            case measure => simp [intOf]
    · have r0 : wr.cell? ⟨g, 18, none⟩ = some (i64 3) := K.out.ru.cell 18
      have r1 : wr.cell? ⟨g, 19, none⟩ = some (.func (.func 97) #[] #[]) := K.out.ru.cell 19
      go_upto_region 10 with fail
      have R := Lib.hid (show Bl (wr.alloc (.cells #[i64 3, .func (.func 97) #[] #[]] 118)) wr.heap.size 118 [i64 3, .func (.func 97) #[] #[]] from Bl.new wr 118 [i64 3, .func (.func 97) #[] #[]])
      have K1 := Lib.hid (K.out.alloc (.cells #[i64 3, .func (.func 97) #[] #[]] 118))
      go_cut [29, 30] from 25 to 28 (fun x y wx => x = .int .i64 (fn : Int) ∧ y = i64 0 ∧ CkA w wx [.slice ca cn cc, .slice ma mn mc, .slice fa fn fc, .slice ta tn tc, .slice ya yn yc, .int .i64 mi] g ∧ Bl wx wr.heap.size 118 [i64 3, .func (.func 97) #[] #[]])
      case first =>
        go_region_with (go_at_call 62; refine (sizes_all ca ma fa ta ya cn mn fn tn yn cc mc fc tc yc mi _).mono ?_; rintro e w3 ⟨rfl, hB⟩; have K3 := Lib.hid (K1.out.drew.below hB); have R3 := Lib.hid (R.out.drew.below hB R.out.drew.lt); clear hB; have q0 := R3.out.cell 0; have q1 := R3.out.cell 1)
        all_goals (go_wp2_with fail; go_meet; exact ⟨rfl, rfl, K3.out, R3.out⟩)
      case rest =>
        obtain ⟨rfl, rfl, KC, RC⟩ := hcut
        have K3 := Lib.hid KC
        clear KC K K1 R r0 r1 p0 p1 p2 p3 p4 p5 hs hl1 hl2 hl3 hl4
        generalize wr.heap.size = gr at *
        have R3 := Lib.hid RC
        clear RC
        go_wp2_with fail
        go_loopw [30] (fun s wq => ∃ j : Nat, j ≤ fn ∧ s = .int .i64 j ∧ Hid (∀ j', j' < j → (fun (j : Nat) => True) j') ∧ CkA w wq [.slice ca cn cc, .slice ma mn mc, .slice fa fn fc, .slice ta tn tc, .slice ya yn yc, .int .i64 mi] g ∧ Bl wq gr 118 [i64 3, .func (.func 97) #[] #[]]) (fun s _ => fn - (intOf s).toNat)
        case atStart => exact ⟨0, by omega, rfl, Lib.hid (fun j' h => absurd h (by omega)), K3.out, R3.out⟩
        case round =>
          obtain ⟨j, hj, rfl, HJ, hK, hR⟩ := hrel
          have K4 := Lib.hid hK
          have R4 := Lib.hid hR
          clear hK hR K3 R3
          obtain ⟨p0, p1, p2, p3, p4, p5⟩ := K4.out.fr.b0.six
          have q0 := R4.out.cell 0
          have q1 := R4.out.cell 1
          by_cases hlj : j < fn
          · go_wp2_with fail
            refine (HC9.out j hlj _ K4.out.fr.be).mono ?_
            rintro e w5 ⟨⟨z, rfl, hz⟩, hB⟩
            have HZ := Lib.hid hz
            have K5 := Lib.hid (K4.out.below hB)
            have R5 := Lib.hid (R4.out.below hB R4.out.lt)
            clear hz hB K4 R4 p0 p1 p2 p3 p4 p5 q0 q1
            by_cases hz0 : z = 0
            · have HJ2 := Lib.hid (fun j' (h : j' < j + 1) => (show (fun (j : Nat) => True) j' from by
                by_cases e : j' = j
                · rw [e]
                  exact HZ.out hz0
                · exact HJ.out j' (by omega)))
              subst hz0
              go_wp2_with fail
              go_roundw
              case rel => exact ⟨j + 1, by omega, by go_num, HJ2, K5.out, R5.out⟩
              case measure => simp [intOf]; omega
            · have hz1 : (z == 0) = false := by simpa using hz0
              have HZ0 := Lib.hid hz0
              clear hz0
              have q0 := R5.out.cell 0
              obtain ⟨z0, z1, z2, f0, f1, f2⟩ := K5.out.fr.b1.three
              go_wp2_with fail
              refine bodyPost_ret (v := .agg #[i64 3, .int .i64 (j : Int), .int .i64 z]) (by simp [results, Tryz.results30, go_sem, z0, z1, z2]) rfl ⟨⟨_, _, _, rfl, fun h => absurd h HZ0.out⟩, ?_⟩
              exact ((K5.out.fr.be.setCell (by simp) _).setCell (by simp) _).setCell (by simp) _
          · have hj3 : fn = j := by omega
            subst hj3
            have HG := Lib.hid (show ∀ j', j' < fn → True from fun j' h => HJ.out j' h)
            have HA2 := Lib.hid (show CkAcc w ma cn mn xs ps 10 from ⟨fun _ => A.out.1 (by omega), fun _ => A.out.2.1 (by omega), fun _ => A.out.2.2.1 (by omega), fun _ => A.out.2.2.2 (by omega)⟩)
            go_wp2_with fail
            go_roundw
            case rel => exact ⟨10, by omega, by omega, rfl, HA2, K4.out⟩
            case measure => simp [intOf]
    · have r0 : wr.cell? ⟨g, 20, none⟩ = some (i64 2) := K.out.ru.cell 20
      have r1 : wr.cell? ⟨g, 21, none⟩ = some (.func (.func 98) #[] #[]) := K.out.ru.cell 21
      go_upto_region 10 with fail
      have R := Lib.hid (show Bl (wr.alloc (.cells #[i64 2, .func (.func 98) #[] #[]] 118)) wr.heap.size 118 [i64 2, .func (.func 98) #[] #[]] from Bl.new wr 118 [i64 2, .func (.func 98) #[] #[]])
      have K1 := Lib.hid (K.out.alloc (.cells #[i64 2, .func (.func 98) #[] #[]] 118))
      go_cut [29, 30] from 25 to 28 (fun x y wx => x = .int .i64 (mn : Int) ∧ y = i64 0 ∧ CkA w wx [.slice ca cn cc, .slice ma mn mc, .slice fa fn fc, .slice ta tn tc, .slice ya yn yc, .int .i64 mi] g ∧ Bl wx wr.heap.size 118 [i64 2, .func (.func 98) #[] #[]])
      case first =>
        go_region_with (go_at_call 62; refine (sizes_all ca ma fa ta ya cn mn fn tn yn cc mc fc tc yc mi _).mono ?_; rintro e w3 ⟨rfl, hB⟩; have K3 := Lib.hid (K1.out.drew.below hB); have R3 := Lib.hid (R.out.drew.below hB R.out.drew.lt); clear hB; have q0 := R3.out.cell 0; have q1 := R3.out.cell 1)
        all_goals (go_wp2_with fail; go_meet; exact ⟨rfl, rfl, K3.out, R3.out⟩)
      case rest =>
        obtain ⟨rfl, rfl, KC, RC⟩ := hcut
        have K3 := Lib.hid KC
        clear KC K K1 R r0 r1 p0 p1 p2 p3 p4 p5 hs hl1 hl2 hl3 hl4
        generalize wr.heap.size = gr at *
        have R3 := Lib.hid RC
        clear RC
        go_wp2_with fail
        go_loopw [30] (fun s wq => ∃ j : Nat, j ≤ mn ∧ s = .int .i64 j ∧ Hid (∀ j', j' < j → (fun (j : Nat) => True) j') ∧ CkA w wq [.slice ca cn cc, .slice ma mn mc, .slice fa fn fc, .slice ta tn tc, .slice ya yn yc, .int .i64 mi] g ∧ Bl wq gr 118 [i64 2, .func (.func 98) #[] #[]]) (fun s _ => mn - (intOf s).toNat)
        case atStart => exact ⟨0, by omega, rfl, Lib.hid (fun j' h => absurd h (by omega)), K3.out, R3.out⟩
        case round =>
          obtain ⟨j, hj, rfl, HJ, hK, hR⟩ := hrel
          have K4 := Lib.hid hK
          have R4 := Lib.hid hR
          clear hK hR K3 R3
          obtain ⟨p0, p1, p2, p3, p4, p5⟩ := K4.out.fr.b0.six
          have q0 := R4.out.cell 0
          have q1 := R4.out.cell 1
          by_cases hlj : j < mn
          · go_wp2_with fail
            refine (HC10.out j hlj _ K4.out.fr.be).mono ?_
            rintro e w5 ⟨⟨z, rfl, hz⟩, hB⟩
            have HZ := Lib.hid hz
            have K5 := Lib.hid (K4.out.below hB)
            have R5 := Lib.hid (R4.out.below hB R4.out.lt)
            clear hz hB K4 R4 p0 p1 p2 p3 p4 p5 q0 q1
            by_cases hz0 : z = 0
            · have HJ2 := Lib.hid (fun j' (h : j' < j + 1) => (show (fun (j : Nat) => True) j' from by
                by_cases e : j' = j
                · rw [e]
                  exact HZ.out hz0
                · exact HJ.out j' (by omega)))
              subst hz0
              go_wp2_with fail
              go_roundw
              case rel => exact ⟨j + 1, by omega, by go_num, HJ2, K5.out, R5.out⟩
              case measure => simp [intOf]; omega
            · have hz1 : (z == 0) = false := by simpa using hz0
              have HZ0 := Lib.hid hz0
              clear hz0
              have q0 := R5.out.cell 0
              obtain ⟨z0, z1, z2, f0, f1, f2⟩ := K5.out.fr.b1.three
              go_wp2_with fail
              refine bodyPost_ret (v := .agg #[i64 2, .int .i64 (j : Int), .int .i64 z]) (by simp [results, Tryz.results30, go_sem, z0, z1, z2]) rfl ⟨⟨_, _, _, rfl, fun h => absurd h HZ0.out⟩, ?_⟩
              exact ((K5.out.fr.be.setCell (by simp) _).setCell (by simp) _).setCell (by simp) _
          · have hj3 : mn = j := by omega
            subst hj3
            have HG := Lib.hid (show ∀ j', j' < mn → True from fun j' h => HJ.out j' h)
            have HA2 := Lib.hid (show CkAcc w ma cn mn xs ps 11 from ⟨fun _ => A.out.1 (by omega), fun _ => A.out.2.1 (by omega), fun _ => A.out.2.2.1 (by omega), fun _ => A.out.2.2.2 (by omega)⟩)
            go_wp2_with fail
            go_roundw
            case rel => exact ⟨11, by omega, by omega, rfl, HA2, K4.out⟩
            case measure => simp [intOf]
    · have r0 : wr.cell? ⟨g, 22, none⟩ = some (i64 5) := K.out.ru.cell 22
      have r1 : wr.cell? ⟨g, 23, none⟩ = some (.func (.func 99) #[] #[]) := K.out.ru.cell 23
      go_upto_region 10 with fail
      have R := Lib.hid (show Bl (wr.alloc (.cells #[i64 5, .func (.func 99) #[] #[]] 118)) wr.heap.size 118 [i64 5, .func (.func 99) #[] #[]] from Bl.new wr 118 [i64 5, .func (.func 99) #[] #[]])
      have K1 := Lib.hid (K.out.alloc (.cells #[i64 5, .func (.func 99) #[] #[]] 118))
      go_cut [29, 30] from 25 to 28 (fun x y wx => x = .int .i64 (yn : Int) ∧ y = i64 0 ∧ CkA w wx [.slice ca cn cc, .slice ma mn mc, .slice fa fn fc, .slice ta tn tc, .slice ya yn yc, .int .i64 mi] g ∧ Bl wx wr.heap.size 118 [i64 5, .func (.func 99) #[] #[]])
      case first =>
        go_region_with (go_at_call 62; refine (sizes_all ca ma fa ta ya cn mn fn tn yn cc mc fc tc yc mi _).mono ?_; rintro e w3 ⟨rfl, hB⟩; have K3 := Lib.hid (K1.out.drew.below hB); have R3 := Lib.hid (R.out.drew.below hB R.out.drew.lt); clear hB; have q0 := R3.out.cell 0; have q1 := R3.out.cell 1)
        all_goals (go_wp2_with fail; go_meet; exact ⟨rfl, rfl, K3.out, R3.out⟩)
      case rest =>
        obtain ⟨rfl, rfl, KC, RC⟩ := hcut
        have K3 := Lib.hid KC
        clear KC K K1 R r0 r1 p0 p1 p2 p3 p4 p5 hs hl1 hl2 hl3 hl4
        generalize wr.heap.size = gr at *
        have R3 := Lib.hid RC
        clear RC
        go_wp2_with fail
        go_loopw [30] (fun s wq => ∃ j : Nat, j ≤ yn ∧ s = .int .i64 j ∧ Hid (∀ j', j' < j → (fun (j : Nat) => True) j') ∧ CkA w wq [.slice ca cn cc, .slice ma mn mc, .slice fa fn fc, .slice ta tn tc, .slice ya yn yc, .int .i64 mi] g ∧ Bl wq gr 118 [i64 5, .func (.func 99) #[] #[]]) (fun s _ => yn - (intOf s).toNat)
        case atStart => exact ⟨0, by omega, rfl, Lib.hid (fun j' h => absurd h (by omega)), K3.out, R3.out⟩
        case round =>
          obtain ⟨j, hj, rfl, HJ, hK, hR⟩ := hrel
          have K4 := Lib.hid hK
          have R4 := Lib.hid hR
          clear hK hR K3 R3
          obtain ⟨p0, p1, p2, p3, p4, p5⟩ := K4.out.fr.b0.six
          have q0 := R4.out.cell 0
          have q1 := R4.out.cell 1
          by_cases hlj : j < yn
          · go_wp2_with fail
            refine (HC11.out j hlj _ K4.out.fr.be).mono ?_
            rintro e w5 ⟨⟨z, rfl, hz⟩, hB⟩
            have HZ := Lib.hid hz
            have K5 := Lib.hid (K4.out.below hB)
            have R5 := Lib.hid (R4.out.below hB R4.out.lt)
            clear hz hB K4 R4 p0 p1 p2 p3 p4 p5 q0 q1
            by_cases hz0 : z = 0
            · have HJ2 := Lib.hid (fun j' (h : j' < j + 1) => (show (fun (j : Nat) => True) j' from by
                by_cases e : j' = j
                · rw [e]
                  exact HZ.out hz0
                · exact HJ.out j' (by omega)))
              subst hz0
              go_wp2_with fail
              go_roundw
              case rel => exact ⟨j + 1, by omega, by go_num, HJ2, K5.out, R5.out⟩
              case measure => simp [intOf]; omega
            · have hz1 : (z == 0) = false := by simpa using hz0
              have HZ0 := Lib.hid hz0
              clear hz0
              have q0 := R5.out.cell 0
              obtain ⟨z0, z1, z2, f0, f1, f2⟩ := K5.out.fr.b1.three
              go_wp2_with fail
              refine bodyPost_ret (v := .agg #[i64 5, .int .i64 (j : Int), .int .i64 z]) (by simp [results, Tryz.results30, go_sem, z0, z1, z2]) rfl ⟨⟨_, _, _, rfl, fun h => absurd h HZ0.out⟩, ?_⟩
              exact ((K5.out.fr.be.setCell (by simp) _).setCell (by simp) _).setCell (by simp) _
          · have hj3 : yn = j := by omega
            subst hj3
            have HG := Lib.hid (show ∀ j', j' < yn → True from fun j' h => HJ.out j' h)
            have HA2 := Lib.hid (show CkAcc w ma cn mn xs ps 12 from ⟨fun _ => A.out.1 (by omega), fun _ => A.out.2.1 (by omega), fun _ => A.out.2.2.1 (by omega), fun _ => A.out.2.2.2 (by omega)⟩)
            go_wp2_with fail
            go_roundw
            case rel => exact ⟨12, by omega, by omega, rfl, HA2, K4.out⟩
            case measure => simp [intOf]
    · have r0 : wr.cell? ⟨g, 24, none⟩ = some (i64 4) := K.out.ru.cell 24
      have r1 : wr.cell? ⟨g, 25, none⟩ = some (.func (.func 100) #[] #[]) := K.out.ru.cell 25
      go_upto_region 10 with fail
      have R := Lib.hid (show Bl (wr.alloc (.cells #[i64 4, .func (.func 100) #[] #[]] 118)) wr.heap.size 118 [i64 4, .func (.func 100) #[] #[]] from Bl.new wr 118 [i64 4, .func (.func 100) #[] #[]])
      have K1 := Lib.hid (K.out.alloc (.cells #[i64 4, .func (.func 100) #[] #[]] 118))
      go_cut [29, 30] from 25 to 28 (fun x y wx => x = .int .i64 (tn : Int) ∧ y = i64 0 ∧ CkA w wx [.slice ca cn cc, .slice ma mn mc, .slice fa fn fc, .slice ta tn tc, .slice ya yn yc, .int .i64 mi] g ∧ Bl wx wr.heap.size 118 [i64 4, .func (.func 100) #[] #[]])
      case first =>
        go_region_with (go_at_call 62; refine (sizes_all ca ma fa ta ya cn mn fn tn yn cc mc fc tc yc mi _).mono ?_; rintro e w3 ⟨rfl, hB⟩; have K3 := Lib.hid (K1.out.drew.below hB); have R3 := Lib.hid (R.out.drew.below hB R.out.drew.lt); clear hB; have q0 := R3.out.cell 0; have q1 := R3.out.cell 1)
        all_goals (go_wp2_with fail; go_meet; exact ⟨rfl, rfl, K3.out, R3.out⟩)
      case rest =>
        obtain ⟨rfl, rfl, KC, RC⟩ := hcut
        have K3 := Lib.hid KC
        clear KC K K1 R r0 r1 p0 p1 p2 p3 p4 p5 hs hl1 hl2 hl3 hl4
        generalize wr.heap.size = gr at *
        have R3 := Lib.hid RC
        clear RC
        go_wp2_with fail
        go_loopw [30] (fun s wq => ∃ j : Nat, j ≤ tn ∧ s = .int .i64 j ∧ Hid (∀ j', j' < j → (fun (j : Nat) => True) j') ∧ CkA w wq [.slice ca cn cc, .slice ma mn mc, .slice fa fn fc, .slice ta tn tc, .slice ya yn yc, .int .i64 mi] g ∧ Bl wq gr 118 [i64 4, .func (.func 100) #[] #[]]) (fun s _ => tn - (intOf s).toNat)
        case atStart => exact ⟨0, by omega, rfl, Lib.hid (fun j' h => absurd h (by omega)), K3.out, R3.out⟩
        case round =>
          obtain ⟨j, hj, rfl, HJ, hK, hR⟩ := hrel
          have K4 := Lib.hid hK
          have R4 := Lib.hid hR
          clear hK hR K3 R3
          obtain ⟨p0, p1, p2, p3, p4, p5⟩ := K4.out.fr.b0.six
          have q0 := R4.out.cell 0
          have q1 := R4.out.cell 1
          by_cases hlj : j < tn
          · go_wp2_with fail
            refine (HC12.out j hlj _ K4.out.fr.be).mono ?_
            rintro e w5 ⟨⟨z, rfl, hz⟩, hB⟩
            have HZ := Lib.hid hz
            have K5 := Lib.hid (K4.out.below hB)
            have R5 := Lib.hid (R4.out.below hB R4.out.lt)
            clear hz hB K4 R4 p0 p1 p2 p3 p4 p5 q0 q1
            by_cases hz0 : z = 0
            · have HJ2 := Lib.hid (fun j' (h : j' < j + 1) => (show (fun (j : Nat) => True) j' from by
                by_cases e : j' = j
                · rw [e]
                  exact HZ.out hz0
                · exact HJ.out j' (by omega)))
              subst hz0
              go_wp2_with fail
              go_roundw
              case rel => exact ⟨j + 1, by omega, by go_num, HJ2, K5.out, R5.out⟩
              case measure => simp [intOf]; omega
            · have hz1 : (z == 0) = false := by simpa using hz0
              have HZ0 := Lib.hid hz0
              clear hz0
              have q0 := R5.out.cell 0
              obtain ⟨z0, z1, z2, f0, f1, f2⟩ := K5.out.fr.b1.three
              go_wp2_with fail
              refine bodyPost_ret (v := .agg #[i64 4, .int .i64 (j : Int), .int .i64 z]) (by simp [results, Tryz.results30, go_sem, z0, z1, z2]) rfl ⟨⟨_, _, _, rfl, fun h => absurd h HZ0.out⟩, ?_⟩
              exact ((K5.out.fr.be.setCell (by simp) _).setCell (by simp) _).setCell (by simp) _
          · have hj3 : tn = j := by omega
            subst hj3
            have HG := Lib.hid (show ∀ j', j' < tn → True from fun j' h => HJ.out j' h)
            have HA2 := Lib.hid (show CkAcc w ma cn mn xs ps 13 from ⟨fun _ => A.out.1 (by omega), fun _ => A.out.2.1 (by omega), fun _ => A.out.2.2.1 (by omega), fun _ => A.out.2.2.2 (by omega)⟩)
            go_wp2_with fail
            go_roundw
            case rel => exact ⟨13, by omega, by omega, rfl, HA2, K4.out⟩
            case measure => simp [intOf]
    · go_wp2_with fail
      refine (HMain.out _ K.out.fr.be (A.out.2.2.2 (by omega))).mono ?_
      rintro e w3 ⟨⟨z, rfl⟩, hB⟩
      have K4 := Lib.hid (K.out.below hB)
      clear hB K p0 p1 p2 p3 p4 p5 hs hl1 hl2 hl3 hl4
      obtain ⟨z0, z1, z2, f0, f1, f2⟩ := K4.out.fr.b1.three
      obtain ⟨p0, p1, p2, p3, p4, p5⟩ := K4.out.fr.b0.six
      have HOk := Lib.hid (show CkOk cn xs ps from ⟨A.out.1 (by omega), A.out.2.1 (by omega), A.out.2.2.1 (by omega)⟩)
      by_cases hz0 : z = 0
      · subst hz0
        go_wp2_with fail
        refine bodyPost_ret (v := .agg #[i64 0, i64 0, i64 0]) (by simp [results, Tryz.results30, go_sem, z0, z1, z2]) rfl ⟨⟨_, _, _, rfl, fun _ => HOk.out⟩, ?_⟩
        exact ((K4.out.fr.be.setCell (by simp) _).setCell (by simp) _).setCell (by simp) _
      · have hz1 : (z == 0) = false := by simpa using hz0
        clear hz0
        go_wp2_with fail
        refine bodyPost_ret (v := .agg #[i64 6, .int .i64 mi, .int .i64 z]) (by simp [results, Tryz.results30, go_sem, z0, z1, z2]) rfl ⟨⟨_, _, _, rfl, fun _ => HOk.out⟩, ?_⟩
        exact ((K4.out.fr.be.setCell (by simp) _).setCell (by simp) _).setCell (by simp) _
end Go.Proofs.YtkjjieloncdjhaaGreatDoor
