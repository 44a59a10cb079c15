/- The reader of tokens: an open bracket is pushed. -/
import Derived.Test.YtpgcklpcohcchaaDoorS6
namespace Go.Proofs.YtpgcklpcohcchaaDoor
open Go Go.RowKit

/-- Behind an append to the reader's open brackets, and the store of their new value. -/
theorem RO.push_close {X : Nat → Prop} {rb gg cap H : Nat} {s : ByteArray} {vo vn : Value} {r : RSt} {bs : List Brk} {b : Brk} {w w0 w1 : World} (h1 : Bl w rb 42 (.string s :: .int .i64 r.pos :: r.fs vo vn)) (h2 : w.ownsRow 0 32 5 vo r.out.length (tcs r.out))
    (h3 : w.ownsRow 0 46 3 vn bs.length (kcs bs)) (h4 : ∀ c, XO X vn c → c < w.heap.size ∧ c ≠ rb ∧ vo.ownBlock ≠ some c) (h5 : ∀ c, X c → vn.ownBlock ≠ some c) (hb : Below w.heap.size w w0) (hg : w0.grownBy w1 vn.ownBlock)
    (ho : w1.ownsRow 0 46 3 (.slice (some ⟨gg, 0, none⟩) (bs.length + 1) cap) (bs.length + 1) (kcs bs ++ b.cs)) (hat : vn.ownBlock = some gg ∨ gg = H) (hH : w.heap.size ≤ H) :
    RO X (w1.setCell ⟨rb, 3, none⟩ (.slice (some ⟨gg, 0, none⟩) (bs.length + 1) cap)) rb s r (b :: bs) ∧ KX X w (w1.setCell ⟨rb, 3, none⟩ (.slice (some ⟨gg, 0, none⟩) (bs.length + 1) cap)) := by
  have b0 := h1.below hb h1.lt
  have b1 := b0.grown hg (Ne.symm (Bl.row_apart h3 h1 (by decide)))
  have r0 := row_keep h2 hb
  have r1 := r0.kept hg (rows_apart r0 (row_keep h3 hb) (by decide))
  have og : Og rb w1 (w1.setCell ⟨rb, 3, none⟩ (.slice (some ⟨gg, 0, none⟩) (bs.length + 1) cap)) := (Og.refl rb w1).set 3 _
  have hsz : w.heap.size ≤ (w1.setCell ⟨rb, 3, none⟩ (.slice (some ⟨gg, 0, none⟩) (bs.length + 1) cap)).heap.size := Nat.le_trans hb.size (Nat.le_trans hg.size og.size)
  have hog := og.row ho (Bl.row_apart ho b1 (by decide))
  have hor := og.row r1 (Bl.row_apart r1 b1 (by decide))
  have hne : ∀ c, X c → gg ≠ c := fun c hc e => by
    subst e
    rcases hat with hat | hat
    · exact h5 _ hc hat
    · have := (h4 _ (.inl hc)).1; omega
  refine ⟨⟨_, ⟨vo, b1.set 3 _, hor, ?_⟩, ?_, ?_⟩, ?_⟩
  · intro c hc
    rcases hc with hc | hc
    · obtain ⟨k1, k2, k3⟩ := h4 c (.inl hc)
      exact ⟨by omega, k2, k3⟩
    · have e1 : gg = c := by simpa [Value.ownBlock] using hc
      subst e1
      refine ⟨(hog.lt gg rfl).2, ?_, ?_⟩
      · intro e
        exact Bl.row_apart hog (b1.set 3 _) (by decide) (by rw [← e]; rfl)
      · rcases rows_apart hor hog (by decide) with e | e
        · rw [e]; simp
        · exact e
  · have e1 : kcs (b :: bs) = kcs bs ++ b.cs := kcs_cons b bs
    rw [e1]
    exact hog
  · intro c hc e
    exact hne c hc (by simpa [Value.ownBlock] using e)
  · refine ⟨(og.os.trans hg.os).trans hb.os, (og.tape.trans hg.tape).trans hb.tape, (og.output.trans hg.output).trans hb.output, hsz, fun k hk => ?_⟩
    obtain ⟨k1, k2, k3⟩ := h4 k (.inl hk)
    have l0 := hb.size
    have l1 := hg.size
    exact ((og.block k (by omega) (by intro e; injection e with e; exact k2 e)).trans (hg.block k (by omega) (Ne.symm (h5 k hk)))).trans (hb.block k k1)

theorem heap1k {cs cs' : Array Value} (h : cs = cs') (w : World) : (w.alloc (.cells cs' 46)).drew.heap[w.heap.size]? = some (.cells cs 46 (0, 0)) := by subst h; exact Go.heap_alloc_new w _

def pushF (s : ByteArray) (n : Nat) (lit : Option Nat) (r : RSt) (bs : List Brk) : Except (Nat × Nat) (RSt × List Brk) :=
  if bs.length = 64 then .error (r.pos, 8) else .ok (markF s n r, ⟨s.extract r.pos (r.pos + n), r.pos, lit⟩ :: bs)

set_option maxRecDepth 100000 in
set_option maxHeartbeats 3200000 in
theorem push_any (X : Nat → Prop) (w : World) (rb : Nat) (s : ByteArray) (r : RSt) (bs : List Brk) (n : Nat) (lit : Option Nat) (h : RO X w rb s r bs) (hs : s.size ≤ 65536) (hi : RI s r) (hp : r.pos + n ≤ s.size) (hn : r.out.length < 4000000) (hbs : bs.length ≤ 64) :
    Calls Tryd.prog 48 #[.pointer (some ⟨rb, 0, none⟩), .int .i64 n, .int .i64 (litI lit)] w (RoRes X w rb s (pushF s n lit r bs)) := by
  obtain ⟨vn, hr, h3, h5⟩ := h
  obtain ⟨vo, h1, h2, h4, ao⟩ := hr.bl
  obtain ⟨ip, it, il, is_, _⟩ := hi
  obtain ⟨rp, ro, rt, rl, rs⟩ := r
  simp only at hp ip it il is_ hn
  obtain ⟨va, vc, rfl⟩ := row_len h3
  have c0 : w.cell? ⟨rb, 0, none⟩ = some (.string s) := h1.cell 0
  have c1 : w.cell? ⟨rb, 1, none⟩ = some (.int .i64 rp) := h1.cell 1
  have c3 : w.cell? ⟨rb, 3, none⟩ = some (.slice va bs.length vc) := h1.cell 3
  have HN := Lib.hid hn
  have H1 := Lib.hid h1
  have H2 := Lib.hid h2
  have H3 := Lib.hid h3
  have H4 := Lib.hid h4
  have H5 := Lib.hid h5
  have ly := h1.lt
  have an := Bl.row_apart h3 h1 (by decide)
  have HAN := Lib.hid an
  have HT := Lib.hid (show rt ≤ rp ∧ rl ≤ rt ∧ rs ≤ rt from ⟨it, il, is_⟩)
  unfold pushF
  simp only
  by_cases h64 : bs.length = 64
  · rw [if_pos h64]
    have hk : KX X w w := KX.refl _ _
    have HK := Lib.hid hk
    have q : (bs.length : Int) = 64 := by omega
    clear hr h1 h2 h3 h4 h5 ao an it il is_ hn hk
    go_enter Tryd.func48, Tryd.ntmps48
    go_wp2_with fail
    refine (fail_any _ _ _).mono ?_
    rintro e w' ⟨rfl, rfl⟩
    exact ⟨rfl, rfl, HK.out⟩
  · rw [if_neg h64]
    have ht : ((bs.length : Int) == 64) = false := by simp; omega
    obtain ⟨i0, hi0, hz0, hz1, hz2⟩ := info_parts Tryd.info46
    obtain ⟨m, hm⟩ : ∃ m, m = rp + n := ⟨_, rfl⟩
    have f2 : ∀ o : Obj, (w.alloc o).frozen? ⟨rb, 3, none⟩ = false := fun o => (h1.alloc o).froz 3
    have hmi : (rp : Int) + (n : Int) = (m : Int) := by omega
    have e2 : IntKind.i64.wrap (m : Int) = (m : Int) := by rw [IntKind.wrap_i64]; omega
    have q1 : (m : Int) ≤ (s.size : Int) := by omega
    have q2 : (0 : Int) ≤ (rp : Int) := by omega
    have q3 : (rp : Int) ≤ (m : Int) := by omega
    have q5 : (m : Int) ≤ 65536 := by omega
    rw [← hm]
    have HM := Lib.hid hm
    have HP := Lib.hid hp
    have HIT := Lib.hid ip
    have HB := Lib.hid (show bs.length < 4000000 by omega)
    have hcs : (Brk.cs ⟨s.extract rp m, rp, lit⟩).toArray = #[.string (s.extract rp m), .int .i64 rp, .int .i64 (litI lit)] := rfl
    have CM := Lib.hid (fun (Z : Nat → Prop) (W : World) (vn' : Value) (hR : RR Z W rb s ⟨rp, ro, rt, rl, rs⟩ vn') => mark_any Z W rb s ⟨rp, ro, rt, rl, rs⟩ vn' n hR hs hp it il is_ hn)
    have hbl := HB.out
    generalize hlen : bs.length = bl at *
    have HLEN := Lib.hid hlen
    clear hr h1 h2 h4 h5 ao hm hp ip it il is_ hn h64 hlen hbl hbs
    go_enter Tryd.func48, Tryd.ntmps48
    go_wp2_with fail
    have hS : (fun w' : World => w'.cell? ⟨rb, 0, none⟩ = some (.string s) ∧ w'.cell? ⟨rb, 1, none⟩ = some (.int .i64 rp) ∧ w'.cell? ⟨rb, 3, none⟩ = some (.slice va bl vc)) w.drew := ⟨c0, c1, c3⟩
    refine anyC_region (c := 30) (S := fun w' : World => w'.cell? ⟨rb, 0, none⟩ = some (.string s) ∧ w'.cell? ⟨rb, 1, none⟩ = some (.int .i64 rp) ∧ w'.cell? ⟨rb, 3, none⟩ = some (.slice va bl vc)) (by kernel_rfl) ?_
    refine anyC_take0 (i := 0) (v := ?_) (some 17) (by rfl) rfl (by kernel_rfl) (by kernel_rfl) (by kernel_rfl) (fun _ _ _ h => h) (Or.inl ⟨by rfl, ?_⟩) (by decide) (Or.inr (by assumption)) ?_
    rotate_left
    · (intro w; go_simp; try with_reducible rfl)
    (try simp only [Act.put, List.setIfInBounds_toArray, List.set_cons_zero, List.set_cons_succ])
    refine anyC_take0 (i := 1) (v := ?_) (some 18) (by rfl) rfl (by kernel_rfl) (by kernel_rfl) (by kernel_rfl) (fun _ _ _ h => h) (Or.inl ⟨by rfl, ?_⟩) (by decide) (Or.inr (by assumption)) ?_
    rotate_left
    · (intro w; go_simp; try with_reducible rfl)
    (try simp only [Act.put, List.setIfInBounds_toArray, List.set_cons_zero, List.set_cons_succ])
    refine anyC_take0 (i := 2) (v := ?_) (some 19) (by rfl) rfl (by kernel_rfl) (by kernel_rfl) (by kernel_rfl) (fun _ _ _ h => h) (Or.inl ⟨by rfl, ?_⟩) (by decide) (Or.inr (by assumption)) ?_
    rotate_left
    · (intro w; go_simp; try with_reducible rfl)
    (try simp only [Act.put, List.setIfInBounds_toArray, List.set_cons_zero, List.set_cons_succ])
    refine anyC_take0 (i := 3) (v := ?_) (some 20) (by rfl) rfl (by kernel_rfl) (by kernel_rfl) (by kernel_rfl) (fun _ _ _ h => h) (Or.inl ⟨by rfl, ?_⟩) (by decide) (Or.inr (by assumption)) ?_
    rotate_left
    · (intro w; go_simp; try with_reducible rfl)
    (try simp only [Act.put, List.setIfInBounds_toArray, List.set_cons_zero, List.set_cons_succ])
    refine anyC_take (i := 4) (v := ?_) (some 21) (by rfl) rfl (by kernel_rfl) (by kernel_rfl) (by kernel_rfl) (by kernel_rfl) (by kernel_rfl) (fun _ _ _ h => h) (Or.inl ⟨by rfl, ?_⟩) (by assumption) ?_
    rotate_left
    · (intro w hSw; (try dsimp only at hSw); go_simp; try with_reducible rfl)
    (try simp only [Act.put, List.setIfInBounds_toArray, List.set_cons_zero, List.set_cons_succ])
    refine anyC_take0 (i := 5) (v := ?_) (some 22) (by rfl) rfl (by kernel_rfl) (by kernel_rfl) (by kernel_rfl) (fun _ _ _ h => h) (Or.inl ⟨by rfl, ?_⟩) (by decide) (Or.inr (by assumption)) ?_
    rotate_left
    · (intro w; go_simp; try with_reducible rfl)
    (try simp only [Act.put, List.setIfInBounds_toArray, List.set_cons_zero, List.set_cons_succ])
    refine anyC_take0 (i := 6) (v := ?_) (some 23) (by rfl) rfl (by kernel_rfl) (by kernel_rfl) (by kernel_rfl) (fun _ _ _ h => h) (Or.inl ⟨by rfl, ?_⟩) (by decide) (Or.inr (by assumption)) ?_
    rotate_left
    · (intro w; go_simp; try with_reducible rfl)
    (try simp only [Act.put, List.setIfInBounds_toArray, List.set_cons_zero, List.set_cons_succ])
    refine anyC_take0 (i := 7) (v := ?_) (some 24) (by rfl) rfl (by kernel_rfl) (by kernel_rfl) (by kernel_rfl) (fun _ _ _ h => h) (Or.inl ⟨by rfl, ?_⟩) (by decide) (Or.inr (by assumption)) ?_
    rotate_left
    · (intro w; go_simp; try with_reducible rfl)
    (try simp only [Act.put, List.setIfInBounds_toArray, List.set_cons_zero, List.set_cons_succ])
    refine anyC_take (i := 8) (v := ?_) (some 25) (by rfl) rfl (by kernel_rfl) (by kernel_rfl) (by kernel_rfl) (by kernel_rfl) (by kernel_rfl) (fun _ _ _ h => h) (Or.inl ⟨by rfl, ?_⟩) (by assumption) ?_
    rotate_left
    · (intro w hSw; (try dsimp only at hSw); go_simp; try with_reducible rfl)
    (try simp only [Act.put, List.setIfInBounds_toArray, List.set_cons_zero, List.set_cons_succ])
    refine anyC_take0 (i := 9) (v := ?_) (some 26) (by rfl) rfl (by kernel_rfl) (by kernel_rfl) (by kernel_rfl) (fun _ _ _ h => h) (Or.inl ⟨by rfl, ?_⟩) (by decide) (Or.inr (by assumption)) ?_
    rotate_left
    · (intro w; go_simp; try with_reducible rfl)
    (try simp only [Act.put, List.setIfInBounds_toArray, List.set_cons_zero, List.set_cons_succ])
    refine anyC_take0 (i := 10) (v := ?_) (some 27) (by rfl) rfl (by kernel_rfl) (by kernel_rfl) (by kernel_rfl) (fun _ _ _ h => h) (Or.inl ⟨by rfl, ?_⟩) (by decide) (Or.inr (by assumption)) ?_
    rotate_left
    · (intro w; go_simp; try with_reducible rfl)
    (try simp only [Act.put, List.setIfInBounds_toArray, List.set_cons_zero, List.set_cons_succ])
    refine anyC_take0 (i := 11) (v := ?_) (some 28) (by rfl) rfl (by kernel_rfl) (by kernel_rfl) (by kernel_rfl) (fun _ _ _ h => h) (Or.inl ⟨by rfl, ?_⟩) (by decide) (Or.inr (by assumption)) ?_
    rotate_left
    · (intro w; go_simp; try with_reducible rfl)
    (try simp only [Act.put, List.setIfInBounds_toArray, List.set_cons_zero, List.set_cons_succ])
    refine anyC_take (i := 12) (v := ?_) (some 29) (by rfl) rfl (by kernel_rfl) (by kernel_rfl) (by kernel_rfl) (by kernel_rfl) (by kernel_rfl) (fun _ _ _ h => h) (Or.inl ⟨by rfl, ?_⟩) (by assumption) ?_
    rotate_left
    · (intro w hSw; (try dsimp only at hSw); go_simp; try with_reducible rfl)
    (try simp only [Act.put, List.setIfInBounds_toArray, List.set_cons_zero, List.set_cons_succ])
    refine anyC_take0 (i := 13) (v := ?_) (some 30) (by rfl) rfl (by kernel_rfl) (by kernel_rfl) (by kernel_rfl) (fun _ _ _ h => h) (Or.inl ⟨by rfl, ?_⟩) (by decide) (Or.inr (by assumption)) ?_
    rotate_left
    · (intro w; go_simp; try with_reducible rfl)
    (try simp only [Act.put, List.setIfInBounds_toArray, List.set_cons_zero, List.set_cons_succ])
    refine anyC_take0 (i := 14) (v := ?_) (some 31) (by rfl) rfl (by kernel_rfl) (by kernel_rfl) (by kernel_rfl) (fun _ _ _ h => h) (Or.inl ⟨by rfl, ?_⟩) (by decide) (Or.inr (by assumption)) ?_
    rotate_left
    · (intro w; go_simp; try with_reducible rfl)
    (try simp only [Act.put, List.setIfInBounds_toArray, List.set_cons_zero, List.set_cons_succ])
    refine anyC_take0 (i := 15) (v := ?_) (some 32) (by rfl) rfl (by kernel_rfl) (by kernel_rfl) (by kernel_rfl) (fun _ _ _ h => h) (Or.inl ⟨by rfl, ?_⟩) (by decide) (Or.inr (by assumption)) ?_
    rotate_left
    · (intro w; go_simp; try with_reducible rfl)
    (try simp only [Act.put, List.setIfInBounds_toArray, List.set_cons_zero, List.set_cons_succ])
    refine anyC_take (i := 16) (v := ?_) (some 33) (by rfl) rfl (by kernel_rfl) (by kernel_rfl) (by kernel_rfl) (by kernel_rfl) (by kernel_rfl) (fun _ _ _ h => h) (Or.inl ⟨by rfl, ?_⟩) (by assumption) ?_
    rotate_left
    · (intro w hSw; (try dsimp only at hSw); go_simp; try with_reducible rfl)
    (try simp only [Act.put, List.setIfInBounds_toArray, List.set_cons_zero, List.set_cons_succ])
    refine anyC_take0 (i := 17) (v := ?_) (some 34) (by rfl) rfl (by kernel_rfl) (by kernel_rfl) (by kernel_rfl) (fun _ _ _ h => h) (Or.inl ⟨by rfl, ?_⟩) (by decide) (Or.inr (by assumption)) ?_
    rotate_left
    · (intro w; go_simp; try with_reducible rfl)
    (try simp only [Act.put, List.setIfInBounds_toArray, List.set_cons_zero, List.set_cons_succ])
    refine anyC_take0 (i := 18) (v := ?_) (some 35) (by rfl) rfl (by kernel_rfl) (by kernel_rfl) (by kernel_rfl) (fun _ _ _ h => h) (Or.inl ⟨by rfl, ?_⟩) (by decide) (Or.inr (by assumption)) ?_
    rotate_left
    · (intro w; go_simp; try with_reducible rfl)
    (try simp only [Act.put, List.setIfInBounds_toArray, List.set_cons_zero, List.set_cons_succ])
    refine anyC_take0 (i := 19) (v := ?_) (some 36) (by rfl) rfl (by kernel_rfl) (by kernel_rfl) (by kernel_rfl) (fun _ _ _ h => h) (Or.inl ⟨by rfl, ?_⟩) (by decide) (Or.inr (by assumption)) ?_
    rotate_left
    · (intro w; go_simp; try with_reducible rfl)
    (try simp only [Act.put, List.setIfInBounds_toArray, List.set_cons_zero, List.set_cons_succ])
    refine anyC_take0 (i := 20) (v := ?_) (some 37) (by rfl) rfl (by kernel_rfl) (by kernel_rfl) (by kernel_rfl) (fun _ _ _ h => h) (Or.inl ⟨by rfl, ?_⟩) (by decide) (Or.inr (by assumption)) ?_
    rotate_left
    · (intro w; go_simp; try with_reducible rfl)
    (try simp only [Act.put, List.setIfInBounds_toArray, List.set_cons_zero, List.set_cons_succ])
    refine anyC_take0 (i := 21) (v := ?_) (some 38) (by rfl) rfl (by kernel_rfl) (by kernel_rfl) (by kernel_rfl) (fun _ _ _ h => h) (Or.inl ⟨by rfl, ?_⟩) (by decide) (Or.inr (by assumption)) ?_
    rotate_left
    · (intro w; go_simp; try with_reducible rfl)
    (try simp only [Act.put, List.setIfInBounds_toArray, List.set_cons_zero, List.set_cons_succ])
    refine anyC_take0 (i := 22) (v := ?_) (some 39) (by rfl) rfl (by kernel_rfl) (by kernel_rfl) (by kernel_rfl) (fun _ _ _ h => h) (Or.inl ⟨by rfl, ?_⟩) (by decide) (Or.inr (by assumption)) ?_
    rotate_left
    · (intro w; go_simp; try with_reducible rfl)
    (try simp only [Act.put, List.setIfInBounds_toArray, List.set_cons_zero, List.set_cons_succ])
    refine anyC_take (i := 23) (v := ?_) (some 40) (by rfl) rfl (by kernel_rfl) (by kernel_rfl) (by kernel_rfl) (by kernel_rfl) (by kernel_rfl) (fun _ _ _ h => h) (Or.inl ⟨by rfl, ?_⟩) (by assumption) ?_
    rotate_left
    · (intro w hSw; (try dsimp only at hSw); go_simp; try with_reducible rfl)
    (try simp only [Act.put, List.setIfInBounds_toArray, List.set_cons_zero, List.set_cons_succ])
    refine anyC_take0 (i := 24) (v := ?_) (some 41) (by rfl) rfl (by kernel_rfl) (by kernel_rfl) (by kernel_rfl) (fun _ _ _ h => h) (Or.inl ⟨by rfl, ?_⟩) (by decide) (Or.inr (by assumption)) ?_
    rotate_left
    · (intro w; go_simp; try with_reducible rfl)
    (try simp only [Act.put, List.setIfInBounds_toArray, List.set_cons_zero, List.set_cons_succ])
    refine anyC_take0 (i := 25) (v := ?_) (some 42) (by rfl) rfl (by kernel_rfl) (by kernel_rfl) (by kernel_rfl) (fun _ _ _ h => h) (Or.inl ⟨by rfl, ?_⟩) (by decide) (Or.inr (by assumption)) ?_
    rotate_left
    · (intro w; go_simp; try with_reducible rfl)
    (try simp only [Act.put, List.setIfInBounds_toArray, List.set_cons_zero, List.set_cons_succ])
    refine anyC_one (i := 26) (by kernel_rfl) rfl (by rfl) (fun K hK => ?_)
    go_simp
    refine hK.out _ _ (.inr (.inr ?_)) ?_
    · exact ⟨cell_alloc1 c0 _, cell_alloc1 c1 _, cell_alloc1 c3 _⟩
    clear hK K hS
    refine anyC_one (i := 27) (by kernel_rfl) rfl (by rfl) (fun K hK => ?_)
    refine wp_append_lies _ _ _ _ (by rfl) 0 46 i0 _ 3 32 Tryd.underlying40 hi0 hz0 hz1 hz2 rfl (by omega) (.slice va bl vc) bl (kcs bs) (by rfl) ((h3.alloc _).drew) ⟨w.heap.size, 0, none⟩ 1 1 (Brk.cs ⟨s.extract rp m, rp, lit⟩) (by rfl) (by rfl) (World.news_of_block (cs := (Brk.cs ⟨s.extract rp m, rp, lit⟩).toArray) (t := 46) (fr := (0, 0)) (heap1k hcs _)) (Brk.one _) (by omega) (by have := HB.out; unfold maxLen; omega) (by have := HB.out; omega) (Nat.zero_le _) (w.heap.size + 1) (by simp) ?_
    intro gg cap w1 hown1 hgrow hat hlt'
    have hS1 : (fun w' : World => w'.cell? ⟨rb, 0, none⟩ = some (.string s) ∧ w'.cell? ⟨rb, 1, none⟩ = some (.int .i64 rp) ∧ w'.cell? ⟨rb, 3, none⟩ = some (.slice va bl vc)) w1 := by
      refine ⟨?_, ?_, ?_⟩
      · rw [hgrow.cell_far _ (by simp; omega) (Ne.symm HAN.out)]; exact cell_alloc1 c0 _
      · rw [hgrow.cell_far _ (by simp; omega) (Ne.symm HAN.out)]; exact cell_alloc1 c1 _
      · rw [hgrow.cell_far _ (by simp; omega) (Ne.symm HAN.out)]; exact cell_alloc1 c3 _
    have e1 : w1.frozen? ⟨rb, 3, none⟩ = false := by
      rw [hgrow.frozen_far _ (by simp; omega) (Ne.symm HAN.out)]; exact f2 _
    refine hK.out _ _ (.inr (.inr hS1)) ?_
    clear hK K
    (try simp only [Act.put, List.setIfInBounds_toArray, List.set_cons_zero, List.set_cons_succ])
    refine anyC_take0 (i := 28) (v := ?_) (some 45) (by rfl) rfl (by kernel_rfl) (by kernel_rfl) (by kernel_rfl) (fun _ _ _ h => h) (Or.inl ⟨by rfl, ?_⟩) (by decide) (Or.inr (by assumption)) ?_
    rotate_left
    · (intro w; go_simp; try with_reducible rfl)
    (try simp only [Act.put, List.setIfInBounds_toArray, List.set_cons_zero, List.set_cons_succ])
    refine anyC_take0 (i := 29) (v := ?_) (some 46) (by rfl) rfl (by kernel_rfl) (by kernel_rfl) (by kernel_rfl) (fun _ _ _ h => h) (Or.inl ⟨by rfl, ?_⟩) (by decide) (Or.inr (by assumption)) ?_
    rotate_left
    · (intro w; go_simp; try with_reducible rfl)
    (try simp only [Act.put, List.setIfInBounds_toArray, List.set_cons_zero, List.set_cons_succ])
    refine anyC_one (i := 30) (by kernel_rfl) rfl (by rfl) (fun K hK => ?_)
    go_simp
    refine hK.out _ _ (.inl rfl) ?_
    apply anyC_end
    rotate_left
    · kernel_rfl
    have hle := HLEN.out
    subst hle
    obtain ⟨r1, r2⟩ := RO.push_close (X := X) (r := ⟨rp, ro, rt, rl, rs⟩) (b := ⟨s.extract rp m, rp, lit⟩) (H := w.heap.size + 1) H1.out H2.out H3.out H4.out H5.out ((Below.refl w.heap.size w).alloc (Nat.le_refl _) (.cells #[.string (s.extract rp m), .int .i64 rp, .int .i64 (litI lit)] 46)).drew hgrow hown1 hat (by omega)
    obtain ⟨vn', hr', ho', hx'⟩ := r1
    have CMM := Lib.hid (CM.out _ _ _ hr')
    have HO := Lib.hid ho'
    have HX := Lib.hid hx'
    have R2 := Lib.hid r2
    clear hr' ho' hx' r2 hS1 hown1 hgrow hat hlt' e1
    go_wp2_with fail
    refine CMM.out.mono ?_
    rintro e w3 ⟨rfl, h6, k6⟩
    have hro := RO.step HO.out HX.out h6 k6
    have HRO := Lib.hid hro
    clear h6 k6 hro
    go_simp
    go_wp2_with fail
    go_end0
    exact ⟨rfl, HRO.out.1, R2.out.trans HRO.out.2⟩
end Go.Proofs.YtpgcklpcohcchaaDoor
