/- A statement whose order is open and that ends in one operation (a store) for which all others come first: what is known of the cells that it reads is kept up to that operation alone. -/
import Derived.WalkKit
import Derived.OrdersHeld
import Derived.StillTail
import Derived.RegionTactic
namespace Go.Proofs.YtkjjieloncdjhaaGreatDoor
open Go Go.RowKit

def Shut' (p : Prop) : Prop := p
theorem Shut'.out {p : Prop} (h : Shut' p) : p := h

section
variable {P : Program} {ops : Array Oper} {Q : Exit → Act → World → Prop} {S : World → Prop} {c : Nat}

/-- Whatever comes up next: behind it S holds, unless it was operation c; and so on. -/
def anyC (P : Program) (ops : Array Oper) (Q : Exit → Act → World → Prop) (S : World → Prop) (c : Nat) : Nat → Array Bool → Act → World → Prop
  | 0, l, a, w => Region.ready .any ops l = [] ∧ Q .normal a w
  | f + 1, l, a, w => (Region.ready .any ops l = [] → Q .normal a w) ∧
      ∀ i ∈ Region.ready .any ops l, wpOp P ops Q i (fun a' w' => (i = c ∨ l.getD c false = true ∨ S w') ∧ anyC P ops Q S c f (l.setIfInBounds i true) a' w') a w

theorem anyC.all : ∀ {f : Nat} {l : Array Bool} {a : Act} {w : World}, anyC P ops Q S c f l a w → wpAny P .any ops Q f l a w := by
  intro f
  induction f with
  | zero => intro l a w h; exact h
  | succ f ih => intro l a w h; exact ⟨h.1, fun i hi => wpOp_mono (fun _ _ k => ih k.2) (h.2 i hi)⟩

theorem anyC_region {id : Nat} {a : Act} {w : World} (hm : P.follows .mixedOrders = true) (h : anyC P ops Q S c ops.size (Array.replicate ops.size false) a w.drew) :
    (Code.region id ops true).wp P Q a w := wp_region_any hm h.all

/-- An operation that only reads, and for which c waits, may be taken now. -/
theorem anyC_take' {i : Nat} {oi : Oper} {v : Value} {f : Nat} {l : Array Bool} {a : Act} {w : World} (hi : ops[i]? = some oi)
    (hs : Region.noSelect ops = true) (hf : Region.free .any ops l i = true) (hr : (Region.ready .any ops l).contains i = true) (hc : Region.waitsFor .any ops c i = true) (hcl : l.getD c false = false)
    (hQ : ∀ ch a w, Q (.panic ch) (a.put oi.dst v) w → Q (.panic ch) a w) (hy : YieldsIf P ops S oi v a) (hS : S w)
    (h : anyC P ops Q S c f (l.setIfInBounds i true) (a.put oi.dst v) w) : anyC P ops Q S c (f + 1) l a w := by
  obtain ⟨oc, hoc, ec, hec, hbc, honc⟩ := Region.waitsFor_spec hc
  have free := Region.free_spec (md := .any) hi hf
  replace hr : i ∈ Region.ready .any ops l := by simpa using hr
  clear hf
  have notSelf : ∀ {l : Array Bool}, i ∈ Region.ready .any ops l → ∀ {j : Nat} {oj : Oper}, j ∈ Region.ready .any ops l → ops[j]? = some oj → ∀ x ∈ oj.after, Region.binds .any x = true → x.on ≠ i := by
    intro l hr j oj hj hoj x hx hb hxi
    obtain ⟨hju, o', ho', hja⟩ := mem_ready.1 hj
    rw [hoj] at ho'
    injection ho' with ho'
    subst ho'
    have k := hja x hx hb
    have k0 := (mem_ready.1 hr).1
    rw [hxi] at k
    by_cases hlt : i < l.size
    · simp [hlt] at k k0; simp [k] at k0
    · simp [hlt] at k
  have hic : i ≠ c := by
    intro e
    rw [← e] at hoc
    exact notSelf hr hr hoc ec hec hbc honc
  induction f generalizing l a w with
  | zero =>
    refine ⟨fun h0 => absurd hr (by simp [h0]), fun j hj => ?_⟩
    by_cases e : j = i
    · rw [e]; exact hy.wpOp hi hS ⟨.inr (.inr hS), h⟩
    · exact absurd (ready_mono hj e) (by simp [h.1])
  | succ f ih =>
    refine ⟨fun h0 => absurd hr (by simp [h0]), fun j hj => ?_⟩
    by_cases e : j = i
    · rw [e]; exact hy.wpOp hi hS ⟨.inr (.inr hS), h⟩
    · have k1 := h.2 j (ready_mono hj e)
      obtain ⟨hju, oj, hoj, hja⟩ := mem_ready.1 hj
      have apart' := notSelf hr hj hoj
      have ejc : j ≠ c := by
        intro ejc
        subst ejc
        exact notSelf hr hj hoc ec hec hbc honc
      have k2 := wpOp_putIf hoj (free j oj hoj e hju apart') (fun cs b => Region.noSelect_spec hs i oi cs b hi) (fun cs b => Region.noSelect_spec hs j oj cs b hoj) hQ hy k1
      refine wpOp_mono (fun a' w' k3 => ?_) k2
      obtain ⟨hy', hSj, hrest⟩ := k3
      have hS' : S w' := (hSj.resolve_left ejc).resolve_left (by rw [getD_set_ne false hic, hcl]; simp)
      refine ⟨.inr (.inr hS'), ih ?_ hy' hS' ?_ ?_ ?_⟩
      · rw [getD_set_ne false ejc]; exact hcl
      · rw [Array.setIfInBounds_comm _ _ e]; exact hrest
      · intro k ok hk hki hun hno
        refine free k ok hk hki ?_ hno
        by_cases ejk : j = k
        · rw [← ejk]; exact hju
        · rw [getD_set_ne true ejk] at hun; exact hun
      · exact ready_mono hr (Ne.symm e)

/-- An operation that yields its value in whatever world may be taken now. -/
theorem anyC_take0' {i : Nat} {oi : Oper} {v : Value} {f : Nat} {l : Array Bool} {a : Act} {w : World} (hi : ops[i]? = some oi)
    (hs : Region.noSelect ops = true) (hf : Region.free .any ops l i = true) (hr : (Region.ready .any ops l).contains i = true)
    (hQ : ∀ ch a w, Q (.panic ch) (a.put oi.dst v) w → Q (.panic ch) a w) (hy : Yields P ops oi v a) (hic : i ≠ c) (hS : l.getD c false = true ∨ S w)
    (h : anyC P ops Q S c f (l.setIfInBounds i true) (a.put oi.dst v) w) : anyC P ops Q S c (f + 1) l a w := by
  have free := Region.free_spec (md := .any) hi hf
  replace hr : i ∈ Region.ready .any ops l := by simpa using hr
  clear hf
  induction f generalizing l a w with
  | zero =>
    refine ⟨fun h0 => absurd hr (by simp [h0]), fun j hj => ?_⟩
    by_cases e : j = i
    · rw [e]; exact hy.wpOp hi ⟨.inr hS, h⟩
    · exact absurd (ready_mono hj e) (by simp [h.1])
  | succ f ih =>
    refine ⟨fun h0 => absurd hr (by simp [h0]), fun j hj => ?_⟩
    by_cases e : j = i
    · rw [e]; exact hy.wpOp hi ⟨.inr hS, h⟩
    · have k1 := h.2 j (ready_mono hj e)
      obtain ⟨hju, oj, hoj, hja⟩ := mem_ready.1 hj
      have apart' : ∀ x ∈ oj.after, Region.binds .any x = true → x.on ≠ i := by
        intro x hx hb hxi
        have k := hja x hx hb
        have k0 := (mem_ready.1 hr).1
        rw [hxi] at k
        by_cases hlt : i < l.size
        · simp [hlt] at k k0; simp [k] at k0
        · simp [hlt] at k
      have k2 := wpOp_put hoj (free j oj hoj e hju apart') (fun cs b => Region.noSelect_spec hs i oi cs b hi) (fun cs b => Region.noSelect_spec hs j oj cs b hoj) hQ hy k1
      refine wpOp_mono (fun a' w' k3 => ?_) k2
      obtain ⟨hy', hSj, hrest⟩ := k3
      have hcs : (l.setIfInBounds j true).getD c false = true ∨ S w' := by
        rcases hSj with rfl | hSj | hSj
        · left
          have hlt : j < l.size := by
            apply Classical.byContradiction
            intro hn
            simp [hn] at hju
          simp [hlt]
        · rw [getD_set_ne false hic] at hSj
          exact .inl (getD_set_true hSj)
        · exact .inr hSj
      refine ⟨?_, ih hy' hcs ?_ ?_ ?_⟩
      · by_cases ejc : j = c
        · exact .inl ejc
        · rw [getD_set_ne false ejc] at hcs; exact .inr hcs
      · rw [Array.setIfInBounds_comm _ _ e]; exact hrest
      · intro k ok hk hki hun hno
        refine free k ok hk hki ?_ hno
        by_cases ejk : j = k
        · rw [← ejk]; exact hju
        · rw [getD_set_ne true ejk] at hun; exact hun
      · exact ready_mono hr (Ne.symm e)

theorem anyC_take {i : Nat} {oi : Oper} {v : Value} {f : Nat} {l : Array Bool} {a : Act} {w : World} (d : Option Tmp) (hd : (ops[i]?).map (·.dst) = some d) (hi : ops[i]? = some oi)
    (hs : Region.noSelect ops = true) (hf : Region.free .any ops l i = true) (hr : (Region.ready .any ops l).contains i = true) (hc : Region.waitsFor .any ops c i = true) (hcl : l.getD c false = false)
    (hQ : ∀ ch a w, Q (.panic ch) (a.put oi.dst v) w → Q (.panic ch) a w) (hy : YieldsIf P ops S oi v a) (hS : S w)
    (h : anyC P ops Q S c f (l.setIfInBounds i true) (a.put d v) w) : anyC P ops Q S c (f + 1) l a w := by
  have e : oi.dst = d := by rw [hi] at hd; simpa using hd
  exact anyC_take' hi hs hf hr hc hcl hQ hy hS (by rw [e]; exact h)

theorem anyC_take0 {i : Nat} {oi : Oper} {v : Value} {f : Nat} {l : Array Bool} {a : Act} {w : World} (d : Option Tmp) (hd : (ops[i]?).map (·.dst) = some d) (hi : ops[i]? = some oi)
    (hs : Region.noSelect ops = true) (hf : Region.free .any ops l i = true) (hr : (Region.ready .any ops l).contains i = true)
    (hQ : ∀ ch a w, Q (.panic ch) (a.put oi.dst v) w → Q (.panic ch) a w) (hy : Yields P ops oi v a) (hic : i ≠ c) (hS : l.getD c false = true ∨ S w)
    (h : anyC P ops Q S c f (l.setIfInBounds i true) (a.put d v) w) : anyC P ops Q S c (f + 1) l a w := by
  have e : oi.dst = d := by rw [hi] at hd; simpa using hd
  exact anyC_take0' hi hs hf hr hQ hy hic hS (by rw [e]; exact h)

/-- Just one operation can come up. -/
theorem anyC_one {i : Nat} {o : Oper} {f : Nat} {l : Array Bool} {a : Act} {w : World} (hr : Region.ready .any ops l = [i]) (hi : ops[i]? = some o) (hw : Region.wanted o (yielded ops a.tmps) = true)
    (h : ∀ K : Act → World → Prop, Shut' (∀ a' w', (i = c ∨ l.getD c false = true ∨ S w') → anyC P ops Q S c f (l.setIfInBounds i true) a' w' → K a' w') → o.wp P a w K Q) : anyC P ops Q S c (f + 1) l a w := by
  refine ⟨fun h0 => absurd (hr.symm.trans h0) (by simp), fun j hj => ?_⟩
  rw [hr] at hj
  have e : j = i := by simpa using hj
  subst e
  refine wpOp_step hi (fun K' hK => ?_)
  rw [if_pos hw]
  exact h K' (fun a' w' hS hr => hK a' w' ⟨hS, hr⟩)

theorem anyC_end {l : Array Bool} {a : Act} {w : World} (h : Q .normal a w) (hr : Region.ready .any ops l = []) : anyC P ops Q S c 0 l a w := ⟨hr, h⟩

theorem anyC_done {l : Array Bool} {a : Act} {w : World} (hr : Region.ready .any ops l = []) (h : Q .normal a w) : ∀ f, anyC P ops Q S c f l a w
  | 0 => ⟨hr, h⟩
  | _ + 1 => ⟨fun _ => h, by rw [hr]; simp⟩
end
end Go.Proofs.YtkjjieloncdjhaaGreatDoor
