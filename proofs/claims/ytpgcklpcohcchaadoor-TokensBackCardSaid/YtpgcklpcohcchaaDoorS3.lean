/- The reader of tokens: the characters of a literal. -/
import Derived.Test.YtpgcklpcohcchaaDoorS2
import Derived.Lib.SlBytesRow
import Derived.Lib.BufferRead
namespace Go.Proofs.YtpgcklpcohcchaaDoor
open Go Go.RowKit

/-- The characters from a place on, in front of the byte a or b: the bytes that they stand for, and the place behind them; or a fault's place. -/
def charsF (s : ByteArray) (lit tok : Nat) (a b : UInt8) : Nat → Nat → List UInt8 → Except Nat (List UInt8 × Nat)
  | 0, k, l => .ok (l, k)
  | f + 1, k, l => if pk s k = a ∨ pk s k = b then .ok (l, k)
    else match nextF s lit k with
      | .error x => .error x
      | .ok (c, k1) => if c = 92 then (match escF s lit tok k1 with
          | .error x => .error x
          | .ok (v, k2) => charsF s lit tok a b f k2 (l ++ [v]))
        else charsF s lit tok a b f k1 (l ++ [c])

theorem charsF_le {s : ByteArray} {lit tok : Nat} {a b : UInt8} : ∀ (f k : Nat) (l : List UInt8) {l' : List UInt8} {k' : Nat}, k ≤ s.size → charsF s lit tok a b f k l = .ok (l', k') → k' ≤ s.size ∧ k ≤ k' ∧ l'.length ≤ l.length + (k' - k) := by
  intro f
  induction f with
  | zero =>
    intro k l l' k' hk h
    unfold charsF at h
    injection h with h; injection h with h1 h2
    subst h1 h2
    exact ⟨hk, Nat.le_refl _, by omega⟩
  | succ f ih =>
    intro k l l' k' hk h
    unfold charsF at h
    split at h
    · injection h with h; injection h with h1 h2
      subst h1 h2
      exact ⟨hk, Nat.le_refl _, by omega⟩
    · split at h
      · cases h
      · rename_i c k1 hn
        have e1 := nextF_le hn
        split at h
        · split at h
          · cases h
          · rename_i v k2 he
            have e2 := escF_le he
            have := ih k2 _ e2.1 h
            simp at this
            exact ⟨this.1, by omega, by omega⟩
        · have := ih k1 _ e1.1 h
          simp at this
          exact ⟨this.1, by omega, by omega⟩

def bcs (l : List UInt8) : List Value := l.map fun b => .int .u8 b.toNat

def ChRes (rb : Nat) (s : ByteArray) (l : List Value) (w : World) (x : Except Nat (List UInt8 × Nat)) (e : Ending) (w' : World) : Prop :=
  match x with
  | .ok (o, k) => e = .returned (.string ⟨o.toArray⟩) ∧ Bl w' rb 42 (.string s :: .int .i64 k :: l) ∧ Og rb w w'
  | .error a => e = .panicked (fv a 27) ∧ Og rb w w'

theorem Tryd.info5 : (Tryd.prog.info? 5).map (fun i => (i.zero, i.size, i.bytes)) = some (some (.int .u8 0), 1, 1) := by kernel_rfl

theorem Og.row_new {rb : Nat} {w W W' : World} {e : TypeId} {v v' : Value} {n n' size : Nat} {xs xs' : List Value} (hO : Og rb w W) (ho : W.ownsRow w.heap.size e size v n xs) (hg : W.grownBy W' v.ownBlock) : Og rb w W' := by
  refine ⟨hg.os.trans hO.os, hg.tape.trans hO.tape, hg.output.trans hO.output, Nat.le_trans hO.size hg.size, fun i hi hne => ?_⟩
  refine (hg.block i (Nat.lt_of_lt_of_le hi hO.size) ?_).trans (hO.block i hi hne)
  intro e
  have := ho.lt i e.symm
  omega

/-- string(out) of a row of bytes. -/
theorem conv_row (w : World) (base n : Nat) (v : Value) (o : List UInt8) (h : w.ownsRow base 5 1 v n (bcs o)) (hn : n = o.length) : (convert 48 9 v).run Tryd.prog w = .ok (.string ⟨o.toArray⟩) w := by
  rcases h.2 with ⟨rfl, hx⟩ | ⟨g, cap, cur, rfl, _, hh, _⟩
  · have : o = [] := List.eq_nil_of_length_eq_zero (by omega)
    subst this
    exact Lib.run_convert_nil_bytes w 48 9 5 0 Tryd.underlying48 Tryd.underlying5 Tryd.underlying9
  · subst hn
    exact Lib.run_convert_whole w 48 5 9 Tryd.underlying48 Tryd.underlying5 Tryd.underlying9 g 0 ⟨o.toArray⟩ (fun i hi => by
      have hi' : i < o.length := by simpa [ByteArray.size] using hi
      rw [Nat.zero_add, h.cellAt i (by omega)]
      simp [bcs, List.getElem?_map, List.getElem?_eq_getElem hi']
      rfl) cap

theorem chars_rel {rb : Nat} {w w2 w3 : World} {l' : List Value} {va v' : Value} {o : List UInt8} {v : UInt8} {ob : Obj} (hrw : rb < w.heap.size) (HB : Bl w2 rb 42 l') (HOO : Og rb w w2) (HOW2 : w2.ownsRow w.heap.size 5 1 va o.length (bcs o))
    (hown3 : w3.ownsRow w.heap.size 5 1 v' (o.length + 1) (bcs o ++ [.int .u8 v.toNat])) (hgrow : (w2.alloc ob).grownBy w3 va.ownBlock) :
    w3.ownsRow w.heap.size 5 1 v' (o ++ [v]).length (bcs (o ++ [v])) ∧ Bl w3 rb 42 l' ∧ Og rb w w3 := by
  refine ⟨by simpa [bcs] using hown3, (HB.alloc _).grown hgrow ?_, Og.row_new (v' := v') (n' := 0) (xs' := []) (HOO.alloc _) (HOW2.alloc _) hgrow⟩
  intro e
  have := HOW2.lt rb e.symm
  omega

theorem one_byte (v : UInt8) : ∀ u ∈ [Value.int .u8 (v.toNat : Int)], u.oneCell' = true := by
  intro u hu; simp at hu; subst hu; rfl

set_option maxRecDepth 100000 in
set_option maxHeartbeats 1600000 in
theorem chars_any (rb : Nat) (s : ByteArray) (lit tok : Nat) (a b : UInt8) (p : Nat) (l : List Value) (w : World) (hs : s.size ≤ 65536) (hp : p ≤ s.size) (h : Bl w rb 42 (.string s :: .int .i64 p :: l)) :
    Calls Tryd.prog 68 #[.pointer (some ⟨rb, 0, none⟩), .int .i64 lit, .int .i64 tok, .int .u8 a.toNat, .int .u8 b.toNat] w (ChRes rb s l w (charsF s lit tok a b (s.size + 1) p [])) := by
  have H := Lib.hid h
  have HP := Lib.hid hp
  have hrw : rb < w.heap.size := h.lt
  obtain ⟨i0, hi0, hz0, hz1, hz2⟩ := info_parts Tryd.info5
  clear h hp
  go_enter Tryd.func68, Tryd.ntmps68
  go_wp2_with fail
  go_loopg [11] (s.size + 1) (fun gh v wr => ∃ (k : Nat) (o : List UInt8) (va : Value), va = v ∧ s.size < k + gh ∧ k ≤ s.size ∧ o.length ≤ k ∧ wr.ownsRow w.heap.size 5 1 va o.length (bcs o) ∧ Bl wr rb 42 (.string s :: .int .i64 k :: l) ∧ Og rb w wr ∧ charsF s lit tok a b gh k o = charsF s lit tok a b (s.size + 1) p [])
  case atStart => exact ⟨p, [], _, rfl, by omega, HP.out, by simp, World.ownsRow_nil _ _ _ _, H.out, Og.refl _ _, rfl⟩
  case round =>
    obtain ⟨k, o, va, rfl, hk, hks, hol, hown, hB, hO, hV⟩ := hrel
    obtain ⟨g', rfl⟩ : ∃ g', gk = g' + 1 := ⟨gk - 1, by omega⟩
    have c0 : wr.cell? ⟨rb, 0, none⟩ = some (.string s) := hB.cell 0
    have c1 : wr.cell? ⟨rb, 1, none⟩ = some (.int .i64 k) := hB.cell 1
    have C0 := Lib.hid (peek0 rb s k wr hs (by omega) c0 c1)
    have CN := Lib.hid (fun n => next_any rb s lit k l (wr.drewN n) hs hks (hB.drewN n))
    have HOW := Lib.hid hown
    have HB := Lib.hid hB
    have HO := Lib.hid hO
    have HV := Lib.hid hV
    clear hown hB hO hV c0 c1
    obtain ⟨c, hc⟩ : ∃ c, pk s k = c := ⟨_, rfl⟩
    rw [hc] at C0
    have hv : charsF s lit tok a b (g' + 1) k o = if c = a ∨ c = b then .ok (o, k)
      else match nextF s lit k with
        | .error x => .error x
        | .ok (c, k1) => if c = 92 then (match escF s lit tok k1 with
            | .error x => .error x
            | .ok (v, k2) => charsF s lit tok a b g' k2 (o ++ [v]))
          else charsF s lit tok a b g' k1 (o ++ [c]) := by
      conv => lhs; unfold charsF
      rw [hc]
    have HV0 := Lib.hid (hv.symm.trans HV.out)
    clear hv
    by_cases hab : c = a ∨ c = b
    · have HC := Lib.hid (fun n => conv_row (wr.drewN n) w.heap.size _ va o (by exact HOW.out) rfl)
      have HV1 := Lib.hid ((if_pos hab).symm.trans HV0.out)
      by_cases hca : c = a
      · subst hca
        clear hab
        go_wp2_with fail
        refine (C0.out).mono ?_
        rintro e w1 ⟨rfl, n1, rfl⟩
        go_simp
        have hcc := HC.out n1
        go_wp2_with fail
        go_ret
        rw [← HV1.out]
        exact ⟨rfl, HB.out.drewN _, HO.out.drewN _⟩
      · have hcb : c = b := hab.resolve_left hca
        subst hcb
        have q1 : ((c.toNat : Int) == (a.toNat : Int)) = false := by
          simp only [beq_eq_false_iff_ne, ne_eq, Int.natCast_inj]
          exact fun e => hca (UInt8.toNat_inj.mp e)
        have q2 : (c.toNat == a.toNat) = false := by
          simp only [beq_eq_false_iff_ne, ne_eq]
          exact fun e => hca (UInt8.toNat_inj.mp e)
        have q3 : ¬ c.toNat = a.toNat := fun e => hca (UInt8.toNat_inj.mp e)
        clear hab
        go_wp2_with fail
        refine (C0.out).mono ?_
        rintro e w1 ⟨rfl, n1, rfl⟩
        go_simp
        have hcc := HC.out n1
        go_wp2_with fail
        go_ret
        rw [← HV1.out]
        exact ⟨rfl, HB.out.drewN _, HO.out.drewN _⟩
    · have hna : ¬ c.toNat = a.toNat := fun e => hab (.inl (UInt8.toNat_inj.mp e))
      have hnb : ¬ c.toNat = b.toNat := fun e => hab (.inr (UInt8.toNat_inj.mp e))
      have q1 : ((c.toNat : Int) == (a.toNat : Int)) = false := by
        simp only [beq_eq_false_iff_ne, ne_eq, Int.natCast_inj]; exact hna
      have q2 : ((c.toNat : Int) == (b.toNat : Int)) = false := by
        simp only [beq_eq_false_iff_ne, ne_eq, Int.natCast_inj]; exact hnb
      have q3 : (c.toNat == a.toNat) = false := by simpa using hna
      have q4 : (c.toNat == b.toNat) = false := by simpa using hnb
      have q5 : ¬ c = a := fun e => hab (.inl e)
      have q6 : ¬ c = b := fun e => hab (.inr e)
      have HV1 := Lib.hid ((if_neg hab).symm.trans HV0.out)
      clear HV0 hab
      cases hn : nextF s lit k with
      | error x =>
        rw [hn] at CN HV1
        clear hn
        go_wp2_with fail
        refine (C0.out).mono ?_
        rintro e w1 ⟨rfl, n1, rfl⟩
        go_simp
        go_wp2_with fail
        refine (CN.out _).mono ?_
        rintro e w1 ⟨rfl, hO1⟩
        rw [← HV1.out]
        exact ⟨rfl, rfl, (HO.out.drewN _).trans hO1⟩
      | ok y =>
        obtain ⟨c', k1⟩ := y
        have hk1 := nextF_le hn
        obtain rfl : c' = c := hk1.2.2.1.trans hc
        rw [hn] at CN HV1
        have hk1a := hk1.1
        have hk1b := hk1.2.1
        clear hn hk1
        by_cases h92 : c' = 92
        · have HV2 := Lib.hid ((if_pos h92).symm.trans HV1.out)
          subst h92
          have r1 : ((92 : Int) == (a.toNat : Int)) = false := q1
          have r2 : ((92 : Int) == (b.toNat : Int)) = false := q2
          have r3 : ¬ (92 : Int) = (a.toNat : Int) := by simpa using r1
          have r4 : ¬ (92 : Int) = (b.toNat : Int) := by simpa using r2
          have r5 : ¬ 92 = a.toNat := hna
          have r6 : ¬ 92 = b.toNat := hnb
          cases he : escF s lit tok k1 with
          | error x =>
            have HE := Lib.hid (fun w1 hB => esc_any rb s lit tok k1 l w1 hs hk1a hB)
            rw [he] at HE HV2
            clear he HV1
            go_wp2_with fail
            refine (C0.out).mono ?_
            rintro e w1 ⟨rfl, n1, rfl⟩
            go_simp
            go_wp2_with fail
            refine (CN.out _).mono ?_
            rintro e w1 ⟨rfl, hB1, hO1⟩
            have HB1 := Lib.hid hB1
            have HO1 := Lib.hid hO1
            clear hB1 hO1
            go_simp
            go_wp2_with fail
            refine (HE.out _ HB1.out).mono ?_
            rintro e w2 ⟨rfl, hO2⟩
            rw [← HV2.out]
            exact ⟨rfl, rfl, ((HO.out.drewN _).trans HO1.out).trans hO2⟩
          | ok y =>
            obtain ⟨v, k2⟩ := y
            have hk2 := escF_le he
            have HE := Lib.hid (fun w1 hB => esc_any rb s lit tok k1 l w1 hs hk1a hB)
            rw [he] at HE HV2
            clear he HV1
            go_wp2_with fail
            refine (C0.out).mono ?_
            rintro e w1 ⟨rfl, n1, rfl⟩
            go_simp
            go_wp2_with fail
            refine (CN.out _).mono ?_
            rintro e w1 ⟨rfl, hB1, hO1⟩
            have HB1 := Lib.hid hB1
            have HO1 := Lib.hid hO1
            clear hB1 hO1
            go_simp
            go_wp2_with fail
            refine (HE.out _ HB1.out).mono ?_
            rintro e w2 ⟨rfl, hB2, hO2⟩
            have HB2 := Lib.hid hB2
            have HOO := Lib.hid (((HO.out.drewN _).trans HO1.out).trans hO2)
            have hown2 : w2.ownsRow w.heap.size 5 1 va o.length (bcs o) := by
              refine HOW.out.kept ((((Og.refl rb wr).drewN n1).trans HO1.out).trans hO2) (.inr ?_)
              intro e
              have := HOW.out.lt rb e
              omega
            have HOW2 := Lib.hid hown2
            have hsz2 : w.heap.size ≤ w2.heap.size := HOO.out.size
            clear hB2 hO2 hown2
            go_simp
            go_wp2_with (at_builtin; refine wpList_append_own _ rfl _ _ 48 rfl w.heap.size 5 i0 (.int .u8 0) 1 1 Tryd.underlying48 hi0 hz0 hz1 hz2 rfl (by decide) _ _ _ rfl (HOW2.out.alloc _) ⟨w2.heap.size, 0, none⟩ 1 1 [.int .u8 v.toNat] rfl rfl (World.news_of_block (cs := #[.int .u8 v.toNat]) (t := 5) (fr := (0, 0)) (Go.heap_alloc_new w2 _)) (one_byte v) (by unfold maxLen; omega) (by omega) (by simp; omega) ?_)
            intro v' w3 hown3 hgrow _
            have HR := Lib.hid (chars_rel (by omega) HB2.out HOO.out HOW2.out hown3 hgrow)
            clear hown3 hgrow
            go_wp2_with fail
            go_roundg g'
            case rel => exact ⟨k2, o ++ [v], v', rfl, by omega, hk2.1, by simp; omega, HR.out.1, HR.out.2.1, HR.out.2.2, HV2.out⟩
            case measure => omega
        · have HV2 := Lib.hid ((if_neg h92).symm.trans HV1.out)
          have q92 : ((c'.toNat : Int) == 92) = false := u8eq c' 92 (by decide) h92
          clear HV1 h92
          go_wp2_with fail
          refine (C0.out).mono ?_
          rintro e w1 ⟨rfl, n1, rfl⟩
          go_simp
          go_wp2_with fail
          refine (CN.out _).mono ?_
          rintro e w2 ⟨rfl, hB2, hO2⟩
          have HB2 := Lib.hid hB2
          have HOO := Lib.hid ((HO.out.drewN _).trans hO2)
          have hown2 : w2.ownsRow w.heap.size 5 1 va o.length (bcs o) := by
            refine HOW.out.kept (((Og.refl rb wr).drewN n1).trans hO2) (.inr ?_)
            intro e
            have := HOW.out.lt rb e
            omega
          have HOW2 := Lib.hid hown2
          have hsz2 : w.heap.size ≤ w2.heap.size := HOO.out.size
          clear hB2 hO2 hown2
          go_simp
          go_wp2_with (at_builtin; refine wpList_append_own _ rfl _ _ 48 rfl w.heap.size 5 i0 (.int .u8 0) 1 1 Tryd.underlying48 hi0 hz0 hz1 hz2 rfl (by decide) _ _ _ rfl (HOW2.out.alloc _) ⟨w2.heap.size, 0, none⟩ 1 1 [.int .u8 c'.toNat] rfl rfl (World.news_of_block (cs := #[.int .u8 c'.toNat]) (t := 5) (fr := (0, 0)) (Go.heap_alloc_new w2 _)) (one_byte c') (by unfold maxLen; omega) (by omega) (by simp; omega) ?_)
          intro v' w3 hown3 hgrow _
          have HR := Lib.hid (chars_rel (by omega) HB2.out HOO.out HOW2.out hown3 hgrow)
          clear hown3 hgrow
          go_wp2_with fail
          go_roundg g'
          case rel => exact ⟨k1, o ++ [c'], v', rfl, by omega, hk1a, by simp; omega, HR.out.1, HR.out.2.1, HR.out.2.2, HV2.out⟩
          case measure => omega
end Go.Proofs.YtpgcklpcohcchaaDoor
