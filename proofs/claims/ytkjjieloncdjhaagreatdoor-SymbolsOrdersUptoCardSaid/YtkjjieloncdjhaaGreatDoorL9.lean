/- The classes of parents. -/
import Derived.Test.YtkjjieloncdjhaaGreatDoorL8
namespace Go.Proofs.YtkjjieloncdjhaaGreatDoor
open Go Go.RowKit

theorem new_at (W : World) (o : Obj) (cs : Array Value) (t : TypeId) : ((W.alloc o).alloc (.cells cs t)).heap[W.heap.size + 1]? = some (.cells cs t (0, 0)) := by
  have h := Go.heap_alloc_new (W.alloc o) (.cells cs t)
  rwa [World.size_alloc] at h

theorem int_one (x : Int) : ∀ u ∈ [Value.int .i64 x], u.oneCell' = true := by
  intro u hu
  simp at hu
  subst hu
  rfl

/-- The relation of the loop that collects. -/
def PRel (w : World) (ts : List Ty) (k : Nat) (v : Value) (wr : World) : Prop := wr.ownsRow w.heap.size 3 1 v (symsOf (ts.take k)).length ((symsOf (ts.take k)).map (Value.int .i64)) ∧ Below w.heap.size w wr

theorem PRel.skip {w wr : World} {ts : List Ty} {k : Nat} {v : Value} {t : Ty} (h : PRel w ts k v wr) (ht : ts[k]? = some t) (hk : (t.kd == 10) = false) (o : Obj) : PRel w ts (k + 1) v (wr.alloc o) := by
  have e : symsOf (ts.take (k + 1)) = symsOf (ts.take k) := by
    obtain ⟨hlt, he⟩ := List.getElem?_eq_some_iff.1 ht
    rw [List.take_succ_eq_append_getElem hlt, symsOf_snoc, he, hk]
    simp
  unfold PRel
  rw [e]
  exact ⟨h.1.alloc _, h.2.alloc (h.2.size) _⟩
theorem PRel.add {w wr w1 : World} {ts : List Ty} {k : Nat} {v v' : Value} {t : Ty} (h : PRel w ts k v wr) (ht : ts[k]? = some t) (hk : (t.kd == 10) = true) {o o' : Obj}
    (hown : w1.ownsRow w.heap.size 3 1 v' ((symsOf (ts.take k)).length + 1) ((symsOf (ts.take k)).map (Value.int .i64) ++ [.int .i64 t.sy])) (hg : ((wr.alloc o).alloc o').grownBy w1 v.ownBlock) : PRel w ts (k + 1) v' w1 := by
  have e : symsOf (ts.take (k + 1)) = symsOf (ts.take k) ++ [t.sy] := by
    obtain ⟨hlt, he⟩ := List.getElem?_eq_some_iff.1 ht
    rw [List.take_succ_eq_append_getElem hlt, symsOf_snoc, he, hk]
    simp
  unfold PRel
  rw [e]
  refine ⟨by simpa using hown, ?_⟩
  exact ((h.2.alloc h.2.size _).alloc (by have := h.2.size; simp; omega) _).grown hg (by have := h.2.size; simp; omega) (fun g hg' => (h.1.lt g hg').1)

def ParRes (w : World) (ts : List Ty) (e : Ending) (w' : World) : Prop := ∃ v, e = .returned v ∧ w'.ownsRow w.heap.size 3 1 v (symsOf ts).length ((symsOf ts).map (Value.int .i64)) ∧ Below w.heap.size w w'

set_option maxHeartbeats 2000000 in
theorem parentsOf_any (A : Option Addr) (n c : Nat) (ts : List Ty) (w : World) (hl : n = ts.length) (hn : n ≤ 1048576) (h : 0 < n → ∃ g o, A = some ⟨g, o, none⟩ ∧ Tys w w.heap.size g o ts) : Calls Tryz.prog 48 #[.slice A n c] w (ParRes w ts) := by
  have HL := Lib.hid hl
  obtain ⟨i0, hi0, hz0, hz1, hz2⟩ := info_parts infoInt
  rcases Nat.eq_zero_or_pos n with h0 | hpos
  · subst h0
    clear h hl
    go_enter Tryz.func48, Tryz.ntmps48
    go_wp2_with fail
    refine wp_loop_rounds 1 ?_
    rw [rounds_succ]
    go_wp2_with fail
    go_ret
    have e : ts = [] := List.eq_nil_of_length_eq_zero HL.out.symm
    exact ⟨_, rfl, by rw [e]; exact World.ownsRow_nil _ _ _ _, Below.refl _ _⟩
  · obtain ⟨g, o, rfl, hT⟩ := h hpos
    have HT := Lib.hid hT
    clear h hT hl
    go_enter Tryz.func48, Tryz.ntmps48
    go_wp2_with fail
    go_loopw [3, 8] (fun v i wr => ∃ k : Nat, k ≤ n ∧ i = .int .i64 k ∧ PRel w ts k v wr) (fun _ i _ => n - (intOf i).toNat)
    case atStart => exact ⟨0, by omega, rfl, World.ownsRow_nil _ _ _ _, Below.refl _ _⟩
    case round =>
      obtain ⟨k, hk, rfl, hR⟩ := hrel
      have HR := Lib.hid hR
      clear hR
      by_cases hlt : k < n
      · obtain ⟨t, ht⟩ : ∃ t, ts[k]? = some t := ⟨_, List.getElem?_eq_getElem (by rw [← HL.out]; exact hlt)⟩
        obtain ⟨q0, q1, q2, q3, q4⟩ := (HT.out.below HR.out.2 HR.out.2.size).2 k t ht
        have HK := Lib.hid ht
        clear ht
        obtain ⟨kd, sy, nm, nu, aa, an, ac⟩ := t
        dsimp only at q0 q1 q2 q3 q4
        have hlen := symsOf_le (ts.take k)
        have hlen2 : (ts.take k).length ≤ k := List.length_take_le _ _
        by_cases h10 : kd = 10
        · subst h10
          have HO1 := Lib.hid HR.out.1
          have hs := HR.out.2.size
          go_wp2_with (at_builtin; refine wpList_append_own _ rfl _ _ 33 rfl w.heap.size 3 i0 (.int .i64 0) 1 8 Tryz.underlying33 hi0 hz0 hz1 hz2 rfl (by decide) _ _ _ rfl ((HO1.out.alloc _).alloc _) ⟨wr.heap.size + 1, 0, none⟩ 1 1 [.int .i64 sy] rfl rfl (World.news_of_block (cs := #[.int .i64 sy]) (t := 3) (fr := (0, 0)) (new_at wr _ _ _)) (int_one sy) (by unfold maxLen; omega) (by omega) (by simp; omega) ?_)
          intro v' w1 hown1 hgrow _
          have HN := Lib.hid (HR.out.add HK.out rfl hown1 hgrow)
          clear hown1 hgrow
          go_wp2_with fail
          go_roundw
          case rel => exact ⟨k + 1, by omega, by go_num, HN.out⟩
          case measure => simp [intOf]; omega
        · have h10' : (kd == 10) = false := by simpa using h10
          have H10 := Lib.hid h10'
          clear h10
          go_wp2_with fail
          go_roundw
          case rel => exact ⟨k + 1, by omega, by go_num, HR.out.skip HK.out H10.out _⟩
          case measure => simp [intOf]; omega
      · have hkn : k = n := by omega
        subst hkn
        go_wp2_with fail
        go_ret
        have e : ts.take ts.length = ts := List.take_length
        refine ⟨_, rfl, ?_⟩
        have := HR.out
        rw [HL.out] at this
        unfold PRel at this
        rw [e] at this
        exact this
end Go.Proofs.YtkjjieloncdjhaaGreatDoor
