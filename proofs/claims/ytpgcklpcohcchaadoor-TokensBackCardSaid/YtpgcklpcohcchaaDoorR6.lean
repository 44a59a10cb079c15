/- The reader of tokens: a token is added. -/
import Derived.Test.YtpgcklpcohcchaaDoorR5
import Derived.Test.YtpgcklpcohcchaaDoorA13
namespace Go.Proofs.YtpgcklpcohcchaaDoor
open Go Go.RowKit

/-- What the reader knows but for its open brackets. -/
structure RSt where
  pos : Nat
  out : List Tok
  told : Nat
  line : Nat
  start : Nat

/-- The fields of the reader behind its text and place. -/
def RSt.fs (r : RSt) (vo vn : Value) : List Value := [vo, vn, .int .i64 r.told, .int .i64 r.line, .int .i64 r.start]

/-- The reader at rb in memory. -/
def RR (X : Nat → Prop) (w : World) (rb : Nat) (s : ByteArray) (r : RSt) (vn : Value) : Prop :=
  ∃ vo, Bl w rb 42 (.string s :: .int .i64 r.pos :: r.fs vo vn) ∧ w.ownsRow 0 32 5 vo r.out.length (tcs r.out) ∧ ∀ b, X b → b < w.heap.size ∧ b ≠ rb ∧ vo.ownBlock ≠ some b

/-- Line and its beginning at a further offset. -/
def advF (s : ByteArray) : Nat → Nat → Nat → Nat → Nat × Nat
  | 0, _, li, st => (li, st)
  | f + 1, t, li, st => if pk s t = 10 then advF s f (t + 1) (li + 1) (t + 1) else advF s f (t + 1) li st

theorem advF_le (s : ByteArray) : ∀ (f t li st : Nat), li ≤ t → st ≤ t → (advF s f t li st).1 ≤ t + f ∧ (advF s f t li st).2 ≤ t + f := by
  intro f
  induction f with
  | zero => intro t li st h1 h2; exact ⟨h1, h2⟩
  | succ f ih =>
    intro t li st h1 h2
    unfold advF
    split
    · have := ih (t + 1) (li + 1) (t + 1) (by omega) (by omega)
      exact ⟨by omega, by omega⟩
    · have := ih (t + 1) li st (by omega) (by omega)
      exact ⟨by omega, by omega⟩

def addF (s : ByteArray) (kd : Nat) (tx : ByteArray) (p : Nat) (r : RSt) : RSt :=
  let x := advF s (p - r.told) r.told r.line r.start
  { r with told := p, line := x.1, start := x.2, out := r.out ++ [⟨kd, tx, p, x.1, p - x.2⟩] }

/-- Behind an append to the reader's list, and the store of its new value. -/
theorem RR.add_close {X : Nat → Prop} {rb gg cap H : Nat} {s : ByteArray} {vo vn : Value} {r : RSt} {t : Tok} {w w0 w1 : World} (h1 : Bl w rb 42 (.string s :: .int .i64 r.pos :: r.fs vo vn)) (h2 : w.ownsRow 0 32 5 vo r.out.length (tcs r.out))
    (h4 : ∀ b, X b → b < w.heap.size ∧ b ≠ rb ∧ vo.ownBlock ≠ some b) (hb : Below w.heap.size w w0) (hg : w0.grownBy w1 vo.ownBlock)
    (ho : w1.ownsRow 0 32 5 (.slice (some ⟨gg, 0, none⟩) (r.out.length + 1) cap) (r.out.length + 1) (tcs r.out ++ t.cs)) (hat : vo.ownBlock = some gg ∨ gg = H) (hH : w.heap.size ≤ H) :
    RR X (w1.setCell ⟨rb, 2, none⟩ (.slice (some ⟨gg, 0, none⟩) (r.out.length + 1) cap)) rb s { r with out := r.out ++ [t] } vn ∧ KX X w (w1.setCell ⟨rb, 2, none⟩ (.slice (some ⟨gg, 0, none⟩) (r.out.length + 1) cap)) := by
  have b0 := h1.below hb h1.lt
  have b1 := b0.grown hg (Ne.symm (Bl.row_apart h2 h1 (by decide)))
  have og : Og rb w1 (w1.setCell ⟨rb, 2, none⟩ (.slice (some ⟨gg, 0, none⟩) (r.out.length + 1) cap)) := (Og.refl rb w1).set 2 _
  have hsz : w.heap.size ≤ (w1.setCell ⟨rb, 2, none⟩ (.slice (some ⟨gg, 0, none⟩) (r.out.length + 1) cap)).heap.size := Nat.le_trans hb.size (Nat.le_trans hg.size og.size)
  refine ⟨⟨_, b1.set 2 _, ?_, fun b hX => ?_⟩, ?_⟩
  · have := og.row ho (Bl.row_apart ho b1 (by decide))
    simpa [tcs_snoc] using this
  · obtain ⟨k1, k2, k3⟩ := h4 b hX
    refine ⟨by omega, k2, ?_⟩
    intro e
    have e1 : gg = b := by simpa [Value.ownBlock] using e
    rcases hat with hat | hat
    · exact k3 (by rw [hat, e1])
    · omega
  · refine ⟨(og.os.trans hg.os).trans hb.os, (og.tape.trans hg.tape).trans hb.tape, (og.output.trans hg.output).trans hb.output, hsz, fun k hk => ?_⟩
    obtain ⟨k1, k2, k3⟩ := h4 k hk
    have l0 := hb.size
    have l1 := hg.size
    exact ((og.block k (by omega) (by intro e; injection e with e; exact k2 e)).trans (hg.block k (by omega) (Ne.symm k3))).trans (hb.block k k1)

theorem heap1c {cs cs' : Array Value} (h : cs = cs') (w : World) : (w.alloc (.cells cs' 32)).drew.heap[w.heap.size]? = some (.cells cs 32 (0, 0)) := by subst h; exact Go.heap_alloc_new w _

set_option maxRecDepth 100000 in
set_option maxHeartbeats 3200000 in
theorem add_any (X : Nat → Prop) (w : World) (rb : Nat) (s : ByteArray) (r : RSt) (vn : Value) (kd : Nat) (tx : ByteArray) (p : Nat) (h : RR X w rb s r vn) (hs : s.size ≤ 65536) (hp : p ≤ s.size) (ht : r.told ≤ p) (hli : r.line ≤ r.told) (hst : r.start ≤ r.told) (hn : r.out.length < 4000000) :
    Calls Tryd.prog 45 #[.pointer (some ⟨rb, 0, none⟩), .int .i64 kd, .string tx, .int .i64 p] w fun e w' => e = .returned (.tuple #[]) ∧ RR X w' rb s (addF s kd tx p r) vn ∧ KX X w w' := by
  obtain ⟨vo, h1, h2, h4⟩ := h
  obtain ⟨rp, ro, rt, rl, rs⟩ := r
  simp only [RSt.fs] at h1 h2 h4 ht hli hst hn
  obtain ⟨i0, hi0, hz0, hz1, hz2⟩ := info_parts Tryd.info32
  have ao := Bl.row_apart h2 h1 (by decide)
  have H1 := Lib.hid h1
  have H2 := Lib.hid h2
  have H4 := Lib.hid h4
  have HT := Lib.hid ht
  have HL := Lib.hid hli
  have HS := Lib.hid hst
  have HN := Lib.hid hn
  have HAO := Lib.hid ao
  clear h1 h2 h4 ht hli hst hn ao
  go_enter Tryd.func45, Tryd.ntmps45
  go_wp2_with fail
  go_loopg [] (p - rt) (fun gh wr => ∃ t li st : Nat, t + gh = p ∧ li ≤ t ∧ st ≤ t ∧ Bl wr rb 42 [.string s, .int .i64 rp, vo, vn, .int .i64 t, .int .i64 li, .int .i64 st] ∧ Og rb w wr ∧ advF s gh t li st = advF s (p - rt) rt rl rs)
  case atStart => exact ⟨rt, rl, rs, by have := HT.out; omega, HL.out, HS.out, H1.out, Og.refl _ _, rfl⟩
  case round =>
    obtain ⟨t, li, st, htp, hli, hst, hB, hO, hV⟩ := hrel
    have c0 : wr.cell? ⟨rb, 0, none⟩ = some (.string s) := hB.cell 0
    have c2 : wr.cell? ⟨rb, 2, none⟩ = some vo := hB.cell 2
    have c4 : wr.cell? ⟨rb, 4, none⟩ = some (.int .i64 t) := hB.cell 4
    have c5 : wr.cell? ⟨rb, 5, none⟩ = some (.int .i64 li) := hB.cell 5
    have c6 : wr.cell? ⟨rb, 6, none⟩ = some (.int .i64 st) := hB.cell 6
    have f4 : ∀ n, (wr.drewN n).frozen? ⟨rb, 4, none⟩ = false := fun n => hB.froz 4
    have f5 : ∀ n, (wr.drewN n).frozen? ⟨rb, 5, none⟩ = false := fun n => hB.froz 5
    have f6 : ∀ n, (wr.drewN n).frozen? ⟨rb, 6, none⟩ = false := fun n => hB.froz 6
    have HB := Lib.hid hB
    have HO := Lib.hid hO
    have HV := Lib.hid hV
    clear hV
    by_cases hlt : t < p
    · clear hB hO
      have htb : (t : Int) ≤ 65536 := by omega
      have hlb : (li : Int) ≤ 65536 := by omega
      have q1 : (t : Int) < (p : Int) := by omega
      have q2 : (t : Int) < (s.size : Int) := by omega
      obtain ⟨g', rfl⟩ : ∃ g', gk = g' + 1 := ⟨gk - 1, by omega⟩
      have hts : t < s.size := by omega
      have hp' := pk_lt hts
      obtain ⟨b, hb⟩ : ∃ b, s[t] = b := ⟨_, rfl⟩
      rw [hb] at hp'
      by_cases h10 : b = 10
      · subst h10
        have hv : advF s (g' + 1) t li st = advF s g' (t + 1) (li + 1) (t + 1) := by
          conv => lhs; unfold advF
          rw [if_pos hp']
        have HV1 := Lib.hid hv
        clear hv hp' c2
        go_wp2_with fail
        go_quiet (fail)
        go_wp2_with fail
        go_roundg g'
        case rel => exact ⟨t + 1, li + 1, t + 1, by omega, by omega, by omega, (((HB.out.drewN _).set 5 _).set 6 _).set 4 _, (((HO.out.drewN _).set 5 _).set 6 _).set 4 _, HV1.out.symm.trans HV.out⟩
        case measure => omega
      · have q10 := u8_ne (n := 10) (by decide) h10
        have hv : advF s (g' + 1) t li st = advF s g' (t + 1) li st := by
          conv => lhs; unfold advF
          rw [if_neg (by rw [hp']; exact h10)]
        have HV1 := Lib.hid hv
        clear hv hp' c2
        go_wp2_with fail
        go_quiet (fail)
        go_wp2_with fail
        go_roundg g'
        case rel => exact ⟨t + 1, li, st, by omega, by omega, by omega, (HB.out.drewN _).set 4 _, (HO.out.drewN _).set 4 _, HV1.out.symm.trans HV.out⟩
        case measure => omega
    · have q1 : ¬ (t : Int) < (p : Int) := by omega
      have htp' : t = p := by omega
      subst htp'
      have hgk : gk = 0 := by omega
      subst hgk
      have hz : advF s 0 t li st = (li, st) := rfl
      have HV1 := Lib.hid (hz.symm.trans HV.out)
      have h2' := hO.row H2.out HAO.out
      have h4' : ∀ b, X b → b < wr.heap.size ∧ b ≠ rb ∧ vo.ownBlock ≠ some b := fun b hb => by
        obtain ⟨k1, k2, k3⟩ := H4.out b hb
        exact ⟨Nat.lt_of_lt_of_le k1 hO.size, k2, k3⟩
      have hKW : KX X w wr := ⟨hO.os, hO.tape, hO.output, hO.size, fun b hb => hO.block b (H4.out b hb).1 (by intro e; injection e with e; exact (H4.out b hb).2.1 e)⟩
      have HH4 := Lib.hid h4'
      have HKW := Lib.hid hKW
      have ly := hB.lt
      have l2 := h2'.lt
      have qs : IntKind.i64.wrap ((t : Int) - (st : Int)) = ((t - st : Nat) : Int) := by rw [IntKind.wrap_i64]; omega
      have hcs : (Tok.cs ⟨kd, tx, t, li, t - st⟩).toArray = #[.int .i64 kd, .string tx, .int .i64 t, .int .i64 li, .int .i64 (t - st : Nat)] := by
        rfl
      have f2 : ∀ o : Obj, (wr.alloc o).frozen? ⟨rb, 2, none⟩ = false := fun o => (hB.alloc o).froz 2
      have hNN := HN.out
      clear hz hlt h4' hKW hO
      go_wp2_with fail
      have hS : (fun w' : World => w'.cell? ⟨rb, 2, none⟩ = some vo ∧ w'.cell? ⟨rb, 5, none⟩ = some (.int .i64 li) ∧ w'.cell? ⟨rb, 6, none⟩ = some (.int .i64 st)) wr.drew := ⟨c2, c5, c6⟩
      refine anyC_region (c := 23) (S := fun w' : World => w'.cell? ⟨rb, 2, none⟩ = some vo ∧ w'.cell? ⟨rb, 5, none⟩ = some (.int .i64 li) ∧ w'.cell? ⟨rb, 6, none⟩ = some (.int .i64 st)) (by kernel_rfl) ?_
      refine anyC_take0 (i := 0) (v := ?_) (some 46) (by rfl) rfl (by kernel_rfl) (by kernel_rfl) (by kernel_rfl) (fun _ _ _ h => h) (Or.inl ⟨by rfl, ?_⟩) (by decide) (Or.inr (by assumption)) ?_
      rotate_left
      · (intro w; go_simp; try with_reducible rfl)
      (try simp only [Act.put, List.setIfInBounds_toArray, List.set_cons_zero, List.set_cons_succ])
      refine anyC_take0 (i := 1) (v := ?_) (some 47) (by rfl) rfl (by kernel_rfl) (by kernel_rfl) (by kernel_rfl) (fun _ _ _ h => h) (Or.inl ⟨by rfl, ?_⟩) (by decide) (Or.inr (by assumption)) ?_
      rotate_left
      · (intro w; go_simp; try with_reducible rfl)
      (try simp only [Act.put, List.setIfInBounds_toArray, List.set_cons_zero, List.set_cons_succ])
      refine anyC_take0 (i := 2) (v := ?_) (some 48) (by rfl) rfl (by kernel_rfl) (by kernel_rfl) (by kernel_rfl) (fun _ _ _ h => h) (Or.inl ⟨by rfl, ?_⟩) (by decide) (Or.inr (by assumption)) ?_
      rotate_left
      · (intro w; go_simp; try with_reducible rfl)
      (try simp only [Act.put, List.setIfInBounds_toArray, List.set_cons_zero, List.set_cons_succ])
      refine anyC_take0 (i := 3) (v := ?_) (some 49) (by rfl) rfl (by kernel_rfl) (by kernel_rfl) (by kernel_rfl) (fun _ _ _ h => h) (Or.inl ⟨by rfl, ?_⟩) (by decide) (Or.inr (by assumption)) ?_
      rotate_left
      · (intro w; go_simp; try with_reducible rfl)
      (try simp only [Act.put, List.setIfInBounds_toArray, List.set_cons_zero, List.set_cons_succ])
      refine anyC_take (i := 4) (v := ?_) (some 50) (by rfl) rfl (by kernel_rfl) (by kernel_rfl) (by kernel_rfl) (by kernel_rfl) (by kernel_rfl) (fun _ _ _ h => h) (Or.inl ⟨by rfl, ?_⟩) (by assumption) ?_
      rotate_left
      · (intro w hSw; (try dsimp only at hSw); go_simp; try with_reducible rfl)
      (try simp only [Act.put, List.setIfInBounds_toArray, List.set_cons_zero, List.set_cons_succ])
      refine anyC_take0 (i := 5) (v := ?_) (some 51) (by rfl) rfl (by kernel_rfl) (by kernel_rfl) (by kernel_rfl) (fun _ _ _ h => h) (Or.inl ⟨by rfl, ?_⟩) (by decide) (Or.inr (by assumption)) ?_
      rotate_left
      · (intro w; go_simp; try with_reducible rfl)
      (try simp only [Act.put, List.setIfInBounds_toArray, List.set_cons_zero, List.set_cons_succ])
      refine anyC_take0 (i := 6) (v := ?_) (some 52) (by rfl) rfl (by kernel_rfl) (by kernel_rfl) (by kernel_rfl) (fun _ _ _ h => h) (Or.inl ⟨by rfl, ?_⟩) (by decide) (Or.inr (by assumption)) ?_
      rotate_left
      · (intro w; go_simp; try with_reducible rfl)
      (try simp only [Act.put, List.setIfInBounds_toArray, List.set_cons_zero, List.set_cons_succ])
      refine anyC_take0 (i := 7) (v := ?_) (some 53) (by rfl) rfl (by kernel_rfl) (by kernel_rfl) (by kernel_rfl) (fun _ _ _ h => h) (Or.inl ⟨by rfl, ?_⟩) (by decide) (Or.inr (by assumption)) ?_
      rotate_left
      · (intro w; go_simp; try with_reducible rfl)
      (try simp only [Act.put, List.setIfInBounds_toArray, List.set_cons_zero, List.set_cons_succ])
      refine anyC_take0 (i := 8) (v := ?_) (some 54) (by rfl) rfl (by kernel_rfl) (by kernel_rfl) (by kernel_rfl) (fun _ _ _ h => h) (Or.inl ⟨by rfl, ?_⟩) (by decide) (Or.inr (by assumption)) ?_
      rotate_left
      · (intro w; go_simp; try with_reducible rfl)
      (try simp only [Act.put, List.setIfInBounds_toArray, List.set_cons_zero, List.set_cons_succ])
      refine anyC_take0 (i := 9) (v := ?_) (some 55) (by rfl) rfl (by kernel_rfl) (by kernel_rfl) (by kernel_rfl) (fun _ _ _ h => h) (Or.inl ⟨by rfl, ?_⟩) (by decide) (Or.inr (by assumption)) ?_
      rotate_left
      · (intro w; go_simp; try with_reducible rfl)
      (try simp only [Act.put, List.setIfInBounds_toArray, List.set_cons_zero, List.set_cons_succ])
      refine anyC_take0 (i := 10) (v := ?_) (some 56) (by rfl) rfl (by kernel_rfl) (by kernel_rfl) (by kernel_rfl) (fun _ _ _ h => h) (Or.inl ⟨by rfl, ?_⟩) (by decide) (Or.inr (by assumption)) ?_
      rotate_left
      · (intro w; go_simp; try with_reducible rfl)
      (try simp only [Act.put, List.setIfInBounds_toArray, List.set_cons_zero, List.set_cons_succ])
      refine anyC_take (i := 11) (v := ?_) (some 57) (by rfl) rfl (by kernel_rfl) (by kernel_rfl) (by kernel_rfl) (by kernel_rfl) (by kernel_rfl) (fun _ _ _ h => h) (Or.inl ⟨by rfl, ?_⟩) (by assumption) ?_
      rotate_left
      · (intro w hSw; (try dsimp only at hSw); go_simp; try with_reducible rfl)
      (try simp only [Act.put, List.setIfInBounds_toArray, List.set_cons_zero, List.set_cons_succ])
      refine anyC_take0 (i := 12) (v := ?_) (some 58) (by rfl) rfl (by kernel_rfl) (by kernel_rfl) (by kernel_rfl) (fun _ _ _ h => h) (Or.inl ⟨by rfl, ?_⟩) (by decide) (Or.inr (by assumption)) ?_
      rotate_left
      · (intro w; go_simp; try with_reducible rfl)
      (try simp only [Act.put, List.setIfInBounds_toArray, List.set_cons_zero, List.set_cons_succ])
      refine anyC_take0 (i := 13) (v := ?_) (some 59) (by rfl) rfl (by kernel_rfl) (by kernel_rfl) (by kernel_rfl) (fun _ _ _ h => h) (Or.inl ⟨by rfl, ?_⟩) (by decide) (Or.inr (by assumption)) ?_
      rotate_left
      · (intro w; go_simp; try with_reducible rfl)
      (try simp only [Act.put, List.setIfInBounds_toArray, List.set_cons_zero, List.set_cons_succ])
      refine anyC_take0 (i := 14) (v := ?_) (some 60) (by rfl) rfl (by kernel_rfl) (by kernel_rfl) (by kernel_rfl) (fun _ _ _ h => h) (Or.inl ⟨by rfl, ?_⟩) (by decide) (Or.inr (by assumption)) ?_
      rotate_left
      · (intro w; go_simp; try with_reducible rfl)
      (try simp only [Act.put, List.setIfInBounds_toArray, List.set_cons_zero, List.set_cons_succ])
      refine anyC_take0 (i := 15) (v := ?_) (some 61) (by rfl) rfl (by kernel_rfl) (by kernel_rfl) (by kernel_rfl) (fun _ _ _ h => h) (Or.inl ⟨by rfl, ?_⟩) (by decide) (Or.inr (by assumption)) ?_
      rotate_left
      · (intro w; go_simp; try with_reducible rfl)
      (try simp only [Act.put, List.setIfInBounds_toArray, List.set_cons_zero, List.set_cons_succ])
      refine anyC_take (i := 16) (v := ?_) (some 62) (by rfl) rfl (by kernel_rfl) (by kernel_rfl) (by kernel_rfl) (by kernel_rfl) (by kernel_rfl) (fun _ _ _ h => h) (Or.inl ⟨by rfl, ?_⟩) (by assumption) ?_
      rotate_left
      · (intro w hSw; (try dsimp only at hSw); go_simp; try with_reducible rfl)
      (try simp only [Act.put, List.setIfInBounds_toArray, List.set_cons_zero, List.set_cons_succ])
      refine anyC_take0 (i := 17) (v := ?_) (some 63) (by rfl) rfl (by kernel_rfl) (by kernel_rfl) (by kernel_rfl) (fun _ _ _ h => h) (Or.inl ⟨by rfl, ?_⟩) (by decide) (Or.inr (by assumption)) ?_
      rotate_left
      · (intro w; go_simp; try with_reducible rfl)
      (try simp only [Act.put, List.setIfInBounds_toArray, List.set_cons_zero, List.set_cons_succ])
      refine anyC_take0 (i := 18) (v := ?_) (some 64) (by rfl) rfl (by kernel_rfl) (by kernel_rfl) (by kernel_rfl) (fun _ _ _ h => h) (Or.inl ⟨by rfl, ?_⟩) (by decide) (Or.inr (by assumption)) ?_
      rotate_left
      · (intro w; go_simp; try with_reducible rfl)
      (try simp only [Act.put, List.setIfInBounds_toArray, List.set_cons_zero, List.set_cons_succ])
      refine anyC_one (i := 19) (by kernel_rfl) rfl (by rfl) (fun K hK => ?_)
      go_simp
      refine hK.out _ _ (.inr (.inr ?_)) ?_
      · exact ⟨cell_alloc1 c2 _, cell_alloc1 c5 _, cell_alloc1 c6 _⟩
      clear hK K hS
      refine anyC_one (i := 20) (by kernel_rfl) rfl (by rfl) (fun K hK => ?_)
      refine wp_append_lies _ _ _ _ (by rfl) 0 32 i0 _ 5 48 Tryd.underlying23 hi0 hz0 hz1 hz2 rfl (by omega) vo ro.length (tcs ro) (by rfl) ((h2'.alloc _).drew) ⟨wr.heap.size, 0, none⟩ 1 1 (Tok.cs ⟨kd, tx, t, li, t - st⟩) (by rfl) (by rfl) (World.news_of_block (cs := (Tok.cs ⟨kd, tx, t, li, t - st⟩).toArray) (t := 32) (fr := (0, 0)) (heap1c hcs _)) (Tok.one _) (by omega) (by unfold maxLen; omega) (by omega) (Nat.zero_le _) (wr.heap.size + 1) (by simp) ?_
      intro gg cap w1 hown1 hgrow hat hlt'
      have hS1 : (fun w' : World => w'.cell? ⟨rb, 2, none⟩ = some vo ∧ w'.cell? ⟨rb, 5, none⟩ = some (.int .i64 li) ∧ w'.cell? ⟨rb, 6, none⟩ = some (.int .i64 st)) w1 := by
        refine ⟨?_, ?_, ?_⟩
        · rw [hgrow.cell_far _ (by simp; omega) (Ne.symm HAO.out)]; exact cell_alloc1 c2 _
        · rw [hgrow.cell_far _ (by simp; omega) (Ne.symm HAO.out)]; exact cell_alloc1 c5 _
        · rw [hgrow.cell_far _ (by simp; omega) (Ne.symm HAO.out)]; exact cell_alloc1 c6 _
      have k1 : w1.cell? ⟨rb, 2, none⟩ = some vo := hS1.1
      have e1 : w1.frozen? ⟨rb, 2, none⟩ = false := by
        rw [hgrow.frozen_far _ (by simp; omega) (Ne.symm HAO.out)]; exact f2 _
      refine hK.out _ _ (.inr (.inr hS1)) ?_
      clear hK K
      (try simp only [Act.put, List.setIfInBounds_toArray, List.set_cons_zero, List.set_cons_succ])
      refine anyC_take0 (i := 21) (v := ?_) (some 67) (by rfl) rfl (by kernel_rfl) (by kernel_rfl) (by kernel_rfl) (fun _ _ _ h => h) (Or.inl ⟨by rfl, ?_⟩) (by decide) (Or.inr (by assumption)) ?_
      rotate_left
      · (intro w; go_simp; try with_reducible rfl)
      (try simp only [Act.put, List.setIfInBounds_toArray, List.set_cons_zero, List.set_cons_succ])
      refine anyC_take0 (i := 22) (v := ?_) (some 68) (by rfl) rfl (by kernel_rfl) (by kernel_rfl) (by kernel_rfl) (fun _ _ _ h => h) (Or.inl ⟨by rfl, ?_⟩) (by decide) (Or.inr (by assumption)) ?_
      rotate_left
      · (intro w; go_simp; try with_reducible rfl)
      (try simp only [Act.put, List.setIfInBounds_toArray, List.set_cons_zero, List.set_cons_succ])
      refine anyC_one (i := 23) (by kernel_rfl) rfl (by rfl) (fun K hK => ?_)
      go_simp
      refine hK.out _ _ (.inl rfl) ?_
      apply anyC_end
      rotate_left
      · kernel_rfl
      go_wp2
      go_end0
      obtain ⟨r1, r2⟩ := RR.add_close (X := X) (r := ⟨rp, ro, t, li, st⟩) (t := ⟨kd, tx, t, li, t - st⟩) (vn := vn) (H := wr.heap.size + 1) HB.out h2' HH4.out ((Below.refl wr.heap.size wr).alloc (Nat.le_refl _) (.cells #[.int .i64 kd, .string tx, .int .i64 t, .int .i64 li, .int .i64 (t - st : Nat)] 32)).drew hgrow hown1 hat (by omega)
      have hadd : addF s kd tx t ⟨rp, ro, rt, rl, rs⟩ = ⟨rp, ro ++ [⟨kd, tx, t, li, t - st⟩], t, li, st⟩ := by
        unfold addF; simp only []; rw [← HV1.out]
      rw [hadd]
      exact ⟨rfl, r1, HKW.out.trans r2⟩
end Go.Proofs.YtpgcklpcohcchaaDoor
