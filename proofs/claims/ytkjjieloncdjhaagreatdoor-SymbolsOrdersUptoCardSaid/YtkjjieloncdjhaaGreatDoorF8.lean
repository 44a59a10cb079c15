/- A list of types appended to a new list of one. -/
import Derived.Test.YtkjjieloncdjhaaGreatDoorF5
import Derived.Deep.AppendLies
import Derived.Maps.AppendAt
namespace Go.Proofs.YtkjjieloncdjhaaGreatDoor
open Go Go.RowKit

abbrev tyC (kd sy nu : Int) (nm : ByteArray) (a : Option Addr) (n c : Nat) : List Value := [.int .i64 kd, .int .i64 sy, .string nm, .int .i64 nu, .slice a n c]

theorem infoTy : (Tryz.prog.info? 59).map (fun i => (i.zero, i.size, i.bytes)) = some (some (.agg #[.int .i64 0, .int .i64 0, .string ⟨#[]⟩, .int .i64 0, .slice none 0 0]), 5, 64) := by kernel_rfl

/-- The cells of a list of n types, one behind the other. -/
theorem TyRow.cells {d L : Nat} {w : World} : ∀ {n : Nat} {a : Option Addr}, TyRow (d + 1) L w a n → ∃ l : List Value, l.length = n * 5 ∧ (∀ u ∈ l, u.oneCell' = true) ∧ (∀ b o, a = some ⟨b, o, none⟩ → ∀ j u, l[j]? = some u → w.cell? ⟨b, o + j, none⟩ = some u) ∧
    ∀ i, i < n → ∃ (kd sy nu : Int) (nm : ByteArray) (a' : Option Addr) (n' c' : Nat), nm.size ≤ 9223372036854775807 ∧ TyRow d L w a' n' ∧ ∀ j v, (tyC kd sy nu nm a' n' c')[j]? = some v → l[i * 5 + j]? = some v
  | 0, a, _ => ⟨[], rfl, by simp, by simp, fun i hi => absurd hi (by omega)⟩
  | n + 1, a, h => by
    obtain ⟨l, hl, h1, hc, hr⟩ := TyRow.cells (n := n) (a := a) ⟨by have := h.1; omega, fun i hi => h.2 i (by omega)⟩
    obtain ⟨b, o, kd, sy, nu, nm, a', n', c', hA, hnm, hr'⟩ := h.2 n (by omega)
    refine ⟨l ++ tyC kd sy nu nm a' n' c', by simp [hl]; omega, ?_, ?_, ?_⟩
    · intro u hu
      rcases List.mem_append.1 hu with hu | hu
      · exact h1 u hu
      · simp only [List.mem_cons, List.mem_nil_iff, or_false] at hu
        rcases hu with rfl | rfl | rfl | rfl | rfl <;> rfl
    · intro b1 o1 e j u hu
      by_cases hj : j < l.length
      · rw [List.getElem?_append_left hj] at hu
        exact hc b1 o1 e j u hu
      · rw [List.getElem?_append_right (by omega)] at hu
        have e2 : b1 = b ∧ o1 = o := by
          have := e.symm.trans hA.ad
          simpa using this
        obtain ⟨rfl, rfl⟩ := e2
        have hj5 : j - l.length < 5 := by
          have := (List.getElem?_eq_some_iff.1 hu).1
          simpa using this
        have ej : j = n * 5 + (j - l.length) := by omega
        generalize hk : j - l.length = k at *
        rw [ej]
        match k, hu with
        | 0, hu => simp at hu; subst hu; exact hA.k0
        | 1, hu => simp at hu; subst hu; exact hA.k1
        | 2, hu => simp at hu; subst hu; exact hA.k2
        | 3, hu => simp at hu; subst hu; exact hA.k3
        | 4, hu => simp at hu; subst hu; exact hA.k4
        | k + 5, _ => omega
    · intro i hi
      by_cases hin : i < n
      · obtain ⟨kd2, sy2, nu2, nm2, a2, n2, c2, g1, g2, g3⟩ := hr i hin
        refine ⟨kd2, sy2, nu2, nm2, a2, n2, c2, g1, g2, fun j v hv => ?_⟩
        have := g3 j v hv
        have hlt : i * 5 + j < l.length := (List.getElem?_eq_some_iff.1 this).1
        rw [List.getElem?_append_left hlt]
        exact this
      · obtain rfl : i = n := by omega
        refine ⟨kd, sy, nu, nm, a', n', c', hnm, hr', fun j v hv => ?_⟩
        rw [List.getElem?_append_right (by omega), show i * 5 + j - l.length = j from by omega]
        exact hv

/-- A row of one's own that holds the cells of types is a list of types. -/
theorem TyRow.of_row {d L base g n cap : Nat} {w : World} {l : List Value} (h : w.ownsRow base 59 5 (.slice (some ⟨g, 0, none⟩) n cap) n l) (hn : n ≤ 9223372036854775807) (hg : g ≠ L) (hlt : g < w.heap.size)
    (hr : ∀ i, i < n → ∃ (kd sy nu : Int) (nm : ByteArray) (a' : Option Addr) (n' c' : Nat), nm.size ≤ 9223372036854775807 ∧ TyRow d L w a' n' ∧ ∀ j v, (tyC kd sy nu nm a' n' c')[j]? = some v → l[i * 5 + j]? = some v) :
    TyRow (d + 1) L w (some ⟨g, 0, none⟩) n := by
  refine ⟨hn, fun i hi => ?_⟩
  obtain ⟨kd, sy, nu, nm, a', n', c', h1, h2, h3⟩ := hr i hi
  have hc : ∀ j v, (tyC kd sy nu nm a' n' c')[j]? = some v → w.cell? ⟨g, 0 + (i * 5 + j), none⟩ = some v := fun j v hv => by
    have hj : j < 5 := by
      have := (List.getElem?_eq_some_iff.1 hv).1
      simpa using this
    rw [Nat.zero_add]
    exact (h.cellAt (i * 5 + j) (by omega)).trans (h3 j v hv)
  have e : ∀ j, 0 + (i * 5 + j) = 0 + i * 5 + j := fun j => by omega
  refine ⟨g, 0, kd, sy, nu, nm, a', n', c', ⟨rfl, hg, hlt, ?_, ?_, ?_, ?_, ?_⟩, h1, h2⟩
  · have := hc 0 _ rfl; rw [e] at this; exact this
  · have := hc 1 _ rfl; rw [e] at this; exact this
  · have := hc 2 _ rfl; rw [e] at this; exact this
  · have := hc 3 _ rfl; rw [e] at this; exact this
  · have := hc 4 _ rfl; rw [e] at this; exact this
end Go.Proofs.YtkjjieloncdjhaaGreatDoor
namespace Go.Proofs.YtkjjieloncdjhaaGreatDoor
open Go Go.RowKit

theorem own_lit {w : World} {lb : Nat} {l : List Value} (h : Bl w lb 59 l) (hl : l.length = 5) : w.ownsRow lb 59 5 (.slice (some ⟨lb, 0, none⟩) 1 1) 1 l :=
  ⟨by omega, .inr ⟨lb, 1, l.toArray, rfl, Nat.le_refl _, h, Nat.le_refl _, by unfold maxLen; omega, by simp [hl], by rw [List.take_of_length_le (by simp [hl])]⟩⟩

theorem tyC_one {kd sy nu : Int} {nm : ByteArray} {a : Option Addr} {n c : Nat} : ∀ u ∈ tyC kd sy nu nm a n c, u.oneCell' = true := by
  intro u hu
  simp only [List.mem_cons, List.mem_nil_iff, or_false] at hu
  rcases hu with rfl | rfl | rfl | rfl | rfl <;> rfl

theorem Og.grownNew {L lb : Nat} {a w w' : World} (h : Og L a w) (hg : w.grownBy w' (some lb)) (hl : a.heap.size ≤ lb) : Og L a w' :=
  ⟨hg.os.trans h.os, hg.tape.trans h.tape, hg.output.trans h.output, Nat.le_trans h.size hg.size, fun i hi hne => (hg.block i (Nat.lt_of_lt_of_le hi h.size) (by intro e; injection e with e; omega)).trans (h.block i hi hne)⟩

theorem app_run {d L lb : Nat} {W w : World} {kd sy nu : Int} {nm : ByteArray} {a0 la : Option Addr} {n0 c0 ll lc : Nat} (ty : TypeId) (hog : Og L W w) (hnew : W.heap.size ≤ lb) (hlb : Bl w lb 59 (tyC kd sy nu nm a0 n0 c0)) (hne : lb ≠ L) (hLw : LB L w) (hnm : nm.size ≤ 9223372036854775807)
    (h0 : TyRow d L W a0 n0) (hr : TyRow (d + 1) L W la ll) (hll : ll ≤ 1048576) (hnil : la = none → lc = 0) :
    ∃ g cap w', (Builtin.append_ #[34, 34] ty #[.slice (some ⟨lb, 0, none⟩) 1 1, .slice la ll lc]).run Tryz.prog w = .ok (.slice (some ⟨g, 0, none⟩) (1 + ll) cap) w' ∧ TyRow (d + 1) L w' (some ⟨g, 0, none⟩) (1 + ll) ∧ w.grownBy w' (some lb) ∧ LB L w' := by
  obtain ⟨i0, hi0, hz0, hz1, hz2⟩ := info_parts infoTy
  have hown := own_lit hlb rfl
  cases la with
  | none =>
    have hl0 : ll = 0 := by
      cases ll with
      | zero => rfl
      | succ k =>
        obtain ⟨b, o, _, _, _, _, _, _, _, hA, _⟩ := hr.2 0 (by omega)
        have := hA.ad
        cases this
    subst hl0
    have hlc : lc = 0 := hnil rfl
    subst hlc
    refine ⟨lb, 1, w, run_append_owned_none (P := Tryz.prog) (w := w) lb 34 ty 59 i0 5 Tryz.underlying34 hi0 _ 1 _ hown, ?_, World.grownBy.refl w _, hLw⟩
    refine TyRow.of_row hown (by omega) hne hlb.lt (fun i hi => ?_)
    obtain rfl : i = 0 := by omega
    exact ⟨kd, sy, nu, nm, a0, n0, c0, hnm, TyRow.og hog h0, fun j v hv => by simpa using hv⟩
  | some ad =>
    obtain ⟨l, hl, h1, hc, hcells⟩ := TyRow.cells hr
    have hnews : ∀ j u, l[j]? = some u → w.cell? (ad.add j) = some u := by
      intro j u hu
      have hpos : 0 < ll := by
        have := (List.getElem?_eq_some_iff.1 hu).1
        omega
      obtain ⟨b, o, _, _, _, _, _, _, _, hA, _⟩ := hr.2 0 hpos
      have e : ad = ⟨b, o, none⟩ := by simpa using hA.ad
      subst e
      have hadd : (⟨b, o, none⟩ : Addr).add j = ⟨b, o + j, none⟩ := by unfold Addr.add; split <;> simp_all
      rw [hadd]
      exact (hog.cell (p := ⟨b, o + j, none⟩) hA.lt hA.ne).trans (hc b o rfl j u hu)
    obtain ⟨v', w', hrun, hown', hgrow, _, hat⟩ := run_append_own_at (P := Tryz.prog) w lb 34 ty 59 i0 _ 5 64 Tryz.underlying34 hi0 hz0 hz1 hz2 rfl (by decide) _ 1 _ hown ad ll lc l hl hnews h1 (by unfold maxLen; omega) (by omega) (Nat.le_of_lt hlb.lt)
    obtain ⟨g, cap, rfl, _, hlt⟩ := hown'.form (by omega)
    have hgL : g ≠ L := by
      have hLl := hLw.lt
      rcases hat with h | h
      · have : g = lb := by simpa [Value.ownBlock] using h
        omega
      · have : g = w.heap.size := by simpa [Value.ownBlock] using h
        omega
    have hgrow : w.grownBy w' (some lb) := hgrow
    have hLw' : LB L w' := hLw.elim fun z hz => ⟨z, hz.grown hgrow (by intro e; injection e with e; exact hne e.symm)⟩
    have hog' := hog.grownNew hgrow hnew
    refine ⟨g, cap, w', hrun, ?_, hgrow, hLw'⟩
    refine TyRow.of_row hown' (by omega) hgL hlt (fun i hi => ?_)
    match i, hi with
    | 0, _ => exact ⟨kd, sy, nu, nm, a0, n0, c0, hnm, TyRow.og hog' h0, fun j v hv => by
        have hj : j < (tyC kd sy nu nm a0 n0 c0).length := (List.getElem?_eq_some_iff.1 hv).1
        rw [Nat.zero_mul, Nat.zero_add, List.getElem?_append_left hj]
        exact hv⟩
    | i + 1, hi =>
      obtain ⟨kd2, sy2, nu2, nm2, a2, n2, c2, g1, g2, g3⟩ := hcells i (by omega)
      refine ⟨kd2, sy2, nu2, nm2, a2, n2, c2, g1, TyRow.og hog' g2, fun j v hv => ?_⟩
      have hlen : (tyC kd sy nu nm a0 n0 c0).length = 5 := rfl
      rw [List.getElem?_append_right (by omega), hlen, show (i + 1) * 5 + j - 5 = i * 5 + j from by omega]
      exact g3 j v hv

theorem wp_app {d L lb : Nat} {W w : World} {kd sy nu : Int} {nm : ByteArray} {a0 la : Option Addr} {n0 c0 ll lc : Nat} {o : Oper} {a : Act} {K : Act → World → Prop} {Q : Exit → Act → World → Prop} (s x : Operand)
    (ho : o.op = .call { callee := .builtin .append, args := #[s, x], argTypes := #[34, 34] }) (hs : a.eval s = .slice (some ⟨lb, 0, none⟩) 1 1) (hx : a.eval x = .slice la ll lc)
    (hog : Og L W w) (hnew : W.heap.size ≤ lb) (hlb : Bl w lb 59 (tyC kd sy nu nm a0 n0 c0)) (hne : lb ≠ L) (hLw : LB L w) (hnm : nm.size ≤ 9223372036854775807)
    (h0 : TyRow d L W a0 n0) (hr : TyRow (d + 1) L W la ll) (hll : ll ≤ 1048576) (hnil : la = none → lc = 0)
    (h : ∀ g cap w', TyRow (d + 1) L w' (some ⟨g, 0, none⟩) (1 + ll) → w.grownBy w' (some lb) → LB L w' → K (a.put o.dst (.slice (some ⟨g, 0, none⟩) (1 + ll) cap)) w') : o.wp Tryz.prog a w K Q := by
  obtain ⟨g, cap, w', hrun, h2, h3, h4⟩ := app_run o.type hog hnew hlb hne hLw hnm h0 hr hll hnil
  unfold Oper.wp execOp
  simp only [ho, resolve, invoke, builtin, Sem.run_bind, Sem.run_pure, Result.andThen_ok, List.map_toArray, List.map_cons, List.map_nil, hs, hx, hrun]
  exact h g cap w' h2 h3 h4
end Go.Proofs.YtkjjieloncdjhaaGreatDoor
