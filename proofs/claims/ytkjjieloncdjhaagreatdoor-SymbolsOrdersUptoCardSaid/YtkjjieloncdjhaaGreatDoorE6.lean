/- Check: the classes around a class, its ancestors, its parents. -/
import Derived.Test.YtkjjieloncdjhaaGreatDoorE5
namespace Go.Proofs.YtkjjieloncdjhaaGreatDoor
open Go Go.RowKit

theorem checkNesting_all (A : Option Addr) (n c k : Nat) (xs : List ClC) (ps : List (List Ty)) (m1 m2 m3 m4 m5 : Value) (w : World) (hl : n = xs.length) (hn : n ≤ 1048576) (hV : ClsV w w.heap.size A xs ps) :
    Calls Tryz.prog 89 #[prgM A n c m1 m2 m3 m4 m5, .int .i64 k] w fun e w' => (∃ z : Int, e = .returned (.int .i64 z) ∧ (z = 0 → (k : Int) ∉ chain (xs.map (·.ow)) n (k : Int))) ∧ Below w.heap.size w w' := by
  have hP := Bl.new w 30 [.slice A n c, m1, m2, m3, m4, m5]
  have p0 := hP.cell 0
  have p1 := hP.cell 1
  have p2 := hP.cell 2
  have p3 := hP.cell 3
  have p4 := hP.cell 4
  have p5 := hP.cell 5
  simp only [List.getElem?_cons_zero, List.getElem?_cons_succ] at p0 p1 p2 p3 p4 p5
  have HB := Lib.hid ((Below.refl w.heap.size w).alloc (Nat.le_refl _) (.cells #[.slice A n c, m1, m2, m3, m4, m5] 30))
  have HI := Lib.hid (insideN_any c A n (xs.map (·.ow)) (k : Int) (k : Int) m1 m2 m3 m4 m5 (by rw [List.length_map]; exact hl) hn _ (((hV.below HB.out).ows).mono (n₁ := (w.alloc (.cells #[.slice A n c, m1, m2, m3, m4, m5] 30)).heap.size) (by simp)))
  clear hV hl hP
  go_enter Tryz.func89, Tryz.ntmps89
  go_wp2_with fail
  refine HI.out.mono ?_
  rintro e w1 ⟨rfl, hB⟩
  have HB1 := Lib.hid (HB.out.trans (hB.mono (by simp)))
  clear hB HI p0 p1 p2 p3 p4 p5
  by_cases hc : (k : Int) ∈ chain (xs.map (·.ow)) n (k : Int)
  · rw [decide_eq_true hc]
    go_wp2_with fail
    go_ret
    exact ⟨⟨_, rfl, fun h => by cases h⟩, HB1.out⟩
  · rw [decide_eq_false hc]
    go_wp2_with fail
    go_ret
    exact ⟨⟨_, rfl, fun _ => hc⟩, HB1.out⟩

theorem isCase_all (Bp : Nat) (A : Option Addr) (n c k : Nat) (xs : List ClC) (ps : List (List Ty)) (B : Nat) (w : World) (hl : n = xs.length) (_ : n ≤ 1048576) (hk : k < n) (hV : ClsV w B A xs ps) (hp : w.cell? ⟨Bp, 0, none⟩ = some (.slice A n c)) :
    Calls Tryz.prog 143 #[.int .i64 k, .pointer (some ⟨Bp, 0, none⟩)] w fun e w' => BoolEnd e ∧ w = w' := by
  obtain ⟨x, hx⟩ : ∃ x, xs[k]? = some x := ⟨_, List.getElem?_eq_getElem (by rw [← hl]; exact hk)⟩
  obtain ⟨b, o, hb, hA⟩ := hV.at_ k x hx
  obtain rfl := hA.ad
  have k2 := hA.k2
  clear hA hl hx hV
  go_enter Tryz.func143, Tryz.ntmps143
  go_wp2_with fail
  refine (has_any _ _ _).mono ?_
  rintro e w' ⟨rfl, rfl⟩
  go_wp2_with fail
  go_ret
  exact ⟨⟨_, rfl⟩, rfl⟩

set_option maxHeartbeats 2000000 in
theorem idxCase_all (Bp : Nat) (A : Option Addr) (n c : Nat) (xs : List ClC) (ps : List (List Ty)) (B : Nat) (w : World) (hl : n = xs.length) (hn : n ≤ 1048576) (hV : ClsV w B A xs ps) (hp : w.cell? ⟨Bp, 0, none⟩ = some (.slice A n c))
    (A2 : Option Addr) (n2 c2 : Nat) (q : List Int) (hn2 : n2 ≤ 1048576) (h : Nums w A2 n2 q) (hr : ∀ x ∈ q, inR n x = true) :
    Calls Tryz.prog 178 #[.slice A2 n2 c2, .func (.func 143) #[] #[.pointer (some ⟨Bp, 0, none⟩)]] w fun e w' => (∃ z : Int, e = .returned (.int .i64 z)) ∧ w = w' := by
  have HN := Lib.hid h
  have HR := Lib.hid hr
  have HC := Lib.hid (fun k (hk : k < n) => isCase_all Bp A n c k xs ps B w hl hn hk hV hp)
  clear h hr hl hV hp
  go_enter Tryz.func178, Tryz.ntmps178
  go_wp2_with fail
  go_loop [8] (fun i => ∃ k : Nat, k ≤ n2 ∧ i = .int .i64 k) (fun i => n2 - (intOf i).toNat)
  case atStart => exact ⟨0, by omega, rfl⟩
  case round =>
    obtain ⟨k, hk, rfl⟩ := hrel
    by_cases hlt : k < n2
    · obtain ⟨hl2, hc2⟩ := HN.out
      obtain ⟨g, o, rfl, hcell⟩ := hc2 (by omega)
      have hck := hcell k hlt
      have hv := inR_iff.1 (HR.out (q.getD k 0) (by
        have hkq : k < q.length := by omega
        rw [List.getD_eq_getElem?_getD, List.getElem?_eq_getElem hkq]
        exact List.getElem_mem _))
      clear hc2 hcell hl2
      generalize q.getD k 0 = v at *
      obtain ⟨m, rfl⟩ : ∃ m : Nat, v = (m : Int) := ⟨v.toNat, by omega⟩
      have hm : m < n := by omega
      go_wp2_with fail
      refine (HC.out m hm).mono ?_
      rintro e w' ⟨⟨r, rfl⟩, rfl⟩
      cases r
      · go_wp2_with fail
        go_round
        case rel => exact ⟨k + 1, by omega, by go_num⟩
        case measure => simp [intOf]; omega
      · go_wp2_with fail
        go_ret
        exact ⟨⟨_, rfl⟩, rfl⟩
    · have hkn : k = n2 := by omega
      subst hkn
      go_wp2_with fail
      go_ret
      exact ⟨⟨_, rfl⟩, rfl⟩

theorem contCase_all (Bp : Nat) (A : Option Addr) (n c : Nat) (xs : List ClC) (ps : List (List Ty)) (B : Nat) (w : World) (hl : n = xs.length) (hn : n ≤ 1048576) (hV : ClsV w B A xs ps) (hp : w.cell? ⟨Bp, 0, none⟩ = some (.slice A n c))
    (A2 : Option Addr) (n2 c2 : Nat) (q : List Int) (hn2 : n2 ≤ 1048576) (h : Nums w A2 n2 q) (hr : ∀ x ∈ q, inR n x = true) :
    Calls Tryz.prog 144 #[.slice A2 n2 c2, .func (.func 143) #[] #[.pointer (some ⟨Bp, 0, none⟩)]] w fun e w' => BoolEnd e ∧ w = w' := by
  have H := Lib.hid (idxCase_all Bp A n c xs ps B w hl hn hV hp A2 n2 c2 q hn2 h hr)
  clear hl hV hp h hr
  go_enter Tryz.func144, Tryz.ntmps144
  go_wp2_with fail
  refine H.out.mono ?_
  rintro e w' ⟨⟨z, rfl⟩, rfl⟩
  go_wp2_with fail
  go_ret
  exact ⟨⟨_, rfl⟩, rfl⟩

theorem Anc.inR {ss : List (List Int)} {c : Int} {l : List Int} (h : Anc ss c l) : ∀ x ∈ l, inR ss.length x = true := fun x hx => ((h.me x).1 hx).inR

set_option maxHeartbeats 2000000 in
theorem checkAncestors_all (A : Option Addr) (n c k : Nat) (xs : List ClC) (ps : List (List Ty)) (m1 m2 m3 m4 m5 : Value) (w : World) (hl : n = xs.length) (hn : n ≤ 1048576) (hk : k < n) (hV : ClsV w w.heap.size A xs ps) :
    Calls Tryz.prog 91 #[prgM A n c m1 m2 m3 m4 m5, .int .i64 k] w fun e w' => (∃ z : Int, e = .returned (.int .i64 z) ∧ (z = 0 → ¬ Rch (symL ps) (k : Int) (k : Int))) ∧ Below w.heap.size w w' := by
  have hP := Bl.new w 30 [.slice A n c, m1, m2, m3, m4, m5]
  have HP := Lib.hid hP
  have p0 := hP.cell 0
  have p1 := hP.cell 1
  have p2 := hP.cell 2
  have p3 := hP.cell 3
  have p4 := hP.cell 4
  have p5 := hP.cell 5
  simp only [List.getElem?_cons_zero, List.getElem?_cons_succ] at p0 p1 p2 p3 p4 p5
  have HB := Lib.hid ((Below.refl w.heap.size w).alloc (Nat.le_refl _) (.cells #[.slice A n c, m1, m2, m3, m4, m5] 30))
  have HL := Lib.hid hl
  have HV := Lib.hid ((hV.below HB.out).mono (B' := w.heap.size + 1) (by omega))
  have hsl : (symL ps).length = n := by unfold symL; rw [List.length_map, hV.len, hl]
  have HSL := Lib.hid hsl
  clear hV hl hP hsl
  go_enter Tryz.func91, Tryz.ntmps91
  go_wp2_with fail
  refine (ancestors_any A n c xs ps (k : Int) m1 m2 m3 m4 m5 _ HL.out hn (by simpa using HV.out)).mono ?_
  rintro e w1 ⟨l, A1, cap1, rfl, hA, hll, hN, hG, hB⟩
  rw [World.size_alloc] at hB
  have HB1 := Lib.hid (HB.out.trans (hB.mono (by omega)))
  have HV1 := Lib.hid (HV.out.below hB)
  have HP1 := Lib.hid (HP.out.below hB (by omega))
  have HN := Lib.hid hN
  have HR := Lib.hid (show ∀ x ∈ l, inR n x = true from fun x hx => by
    have := hA.inR x hx
    rwa [HSL.out] at this)
  have hlen : l.length ≤ 1048576 := by have := HSL.out; omega
  have HA := Lib.hid (hA.me (k : Int))
  clear hB hN hG hA hll p0 p1 p2 p3 p4 p5
  go_wp2_with fail
  refine (contains_any A1 l.length cap1 l (k : Int) _ hlen HN.out).mono ?_
  rintro e w' ⟨rfl, rfl⟩
  by_cases hm : (k : Int) ∈ l
  · rw [decide_eq_true hm]
    go_wp2_with fail
    go_ret
    exact ⟨⟨_, rfl, fun h => by cases h⟩, HB1.out⟩
  · rw [decide_eq_false hm]
    have HD := Lib.hid (show ¬ Rch (symL ps) (k : Int) (k : Int) from fun h => hm (HA.out.2 h))
    clear hm
    have p0 := HP1.out.cell 0
    simp only [List.getElem?_cons_zero] at p0
    go_wp2_with fail
    refine (isCase_all _ A n c k xs ps _ _ HL.out hn hk HV1.out p0).mono ?_
    rintro e w' ⟨⟨r, rfl⟩, rfl⟩
    cases r
    · go_wp2_with fail
      go_ret
      exact ⟨⟨_, rfl, fun _ => HD.out⟩, HB1.out⟩
    · go_wp2_with fail
      refine (contCase_all _ A n c xs ps _ _ HL.out hn HV1.out p0 A1 l.length cap1 l hlen HN.out HR.out).mono ?_
      rintro e w' ⟨⟨r, rfl⟩, rfl⟩
      cases r
      · go_wp2_with fail
        go_ret
        exact ⟨⟨_, rfl, fun _ => HD.out⟩, HB1.out⟩
      · go_wp2_with fail
        go_ret
        exact ⟨⟨_, rfl, fun _ => HD.out⟩, HB1.out⟩
end Go.Proofs.YtkjjieloncdjhaaGreatDoor
