/- Closing the indentations that end in front of a token. -/
import Derived.Test.YtpgcklpcohcchaaDoorA8
import Derived.Deep.LoopGhost
namespace Go.Proofs.YtpgcklpcohcchaaDoor
open Go Go.RowKit

theorem cell_alloc2 {w : World} {a : Addr} {v : Value} (h : w.cell? a = some v) (o p : Obj) : ((w.alloc o).alloc p).cell? a = some v := by
  rw [World.cell?_alloc_some _ _ _ (by rw [World.cell?_alloc_some _ _ _ (by rw [h]; rfl), h]; rfl), World.cell?_alloc_some _ _ _ (by rw [h]; rfl), h]

/-- What a method of the layout leaves: the next state, or a panic with a fault. -/
def Res (X : Nat → Prop) (w : World) (yb : Nat) (lv : Value) (x : Except (Nat × Nat) LS) (e : Ending) (w' : World) : Prop :=
  match x with
  | .error f => e = .panicked (fv f.1 f.2) ∧ KX X w w'
  | .ok s => e = .returned (.tuple #[]) ∧ LR X w' yb lv s ∧ KX X w w'

theorem Res.err {X : Nat → Prop} {w w' : World} {yb : Nat} {lv : Value} {x : Except (Nat × Nat) LS} {b : Bool} {a c : Nat} {s : LS} (hx : x = if b then .error (a, c) else .ok s) (hb : b = true) (hk : KX X w w') : Res X w yb lv x (.panicked (fv a c)) w' := by
  subst hx; subst hb; exact ⟨rfl, hk⟩
theorem Res.ok {X : Nat → Prop} {w w' : World} {yb : Nat} {lv : Value} {x : Except (Nat × Nat) LS} {b : Bool} {a c : Nat} {s : LS} (hx : x = if b then .error (a, c) else .ok s) (hb : b = false) (hl : LR X w' yb lv s) (hk : KX X w w') : Res X w yb lv x (.returned (.tuple #[])) w' := by
  subst hx; subst hb; exact ⟨rfl, hl, hk⟩
theorem outs_yes {l : List UInt8} {a b : Nat} {c : Bool} (h : l = [] ∧ (a < b ∨ c = true ∧ b < a)) : (l.isEmpty && (decide (a < b) || c && decide (b < a))) = true := by
  obtain ⟨rfl, h | ⟨rfl, h⟩⟩ := h <;> simp [h]
theorem outs_no {l : List UInt8} {a b : Nat} {c : Bool} (h : ¬ (l = [] ∧ (a < b ∨ c = true ∧ b < a))) : (l.isEmpty && (decide (a < b) || c && decide (b < a))) = false := by
  rw [Bool.eq_false_iff]
  intro hh
  apply h
  simpa using hh
theorem cell_alloc1 {w : World} {a : Addr} {v : Value} (h : w.cell? a = some v) (o : Obj) : (w.alloc o).cell? a = some v := by
  rw [World.cell?_alloc_some _ _ _ (by rw [h]; rfl), h]

/-- Indentations are closed as long as the token's column is less than their width. -/
def outLoop (t : Tok) : List Reg → List Tok → Bool → List Tok × List Reg × Bool
  | r :: r2 :: rs, o, c => if r.mark.toList.isEmpty && decide (t.col < r.width) then outLoop t (r2 :: rs) (o ++ [t.as 13]) true else (o, r :: r2 :: rs, c)
  | rs, o, c => (o, rs, c)

def outsF (t : Tok) (s : LS) : Except (Nat × Nat) LS :=
  match outLoop t s.regs s.out false with
  | (o, r :: rs, c) => if r.mark.toList.isEmpty && (decide (t.col < r.width) || c && decide (r.width < t.col)) then .error (t.pos, 23) else .ok { s with out := o, regs := r :: rs }
  | (o, [], _) => .ok { s with out := o, regs := [] }

set_option maxRecDepth 100000 in
set_option maxHeartbeats 6400000 in
theorem outdents_any (X : Nat → Prop) (w : World) (yb : Nat) (lv : Value) (s : LS) (t : Tok) (h : LR X w yb lv s) (hr : s.regs ≠ []) (hn : s.out.length + s.regs.length < 4000000) :
    Calls Tryd.prog 61 #[.pointer (some ⟨yb, 0, none⟩), .agg t.cs.toArray] w (Res X w yb lv (outsF t s)) := by
  have hb0 := (Below.refl w.heap.size w).alloc (Nat.le_refl _) (.cells t.cs.toArray 32)
  have hL0 := h.more hb0 w.heap.size (Nat.le_refl _) (by simp)
  have HX := Lib.hid h.lt
  have hbl : Bl (w.alloc (.cells t.cs.toArray 32)) w.heap.size 32 t.cs := by simpa using Bl.new w 32 t.cs
  obtain ⟨tk, ts, ta, tl, tc⟩ := t
  unfold Tok.cs at hb0 hL0 hbl ⊢
  have HB0 := Lib.hid hb0
  have HL0 := Lib.hid hL0
  have HBL := Lib.hid hbl
  have HR := Lib.hid hr
  have HN := Lib.hid hn
  clear hb0 hL0 hbl h hr hn
  go_enter Tryd.func61, Tryd.ntmps61
  go_wp2
  go_loopg [4] s.regs.length (fun g s4 wr => ∃ (o : List Tok) (rg : List Reg) (cl : Bool), s4 = .bool cl ∧ rg ≠ [] ∧ g = rg.length ∧ LR (fun b => X b ∨ b = w.heap.size) wr yb lv ⟨o, rg, s.first⟩ ∧
      KX (fun b => X b ∨ b = w.heap.size) (w.alloc (.cells #[.int .i64 tk, .string ts, .int .i64 ta, .int .i64 tl, .int .i64 tc] 32)) wr ∧ outLoop ⟨tk, ts, ta, tl, tc⟩ rg o cl = outLoop ⟨tk, ts, ta, tl, tc⟩ s.regs s.out false ∧ o.length + rg.length = s.out.length + s.regs.length)
  case atStart => exact ⟨s.out, s.regs, false, rfl, HR.out, rfl, HL0.out, KX.refl _ _, rfl, rfl⟩
  case round =>
    obtain ⟨o, rg, cl, rfl, hne, hg, hL, hK, hO, hLen⟩ := hrel
    obtain ⟨⟨rm, rw_, ri⟩, rs, rfl⟩ : ∃ r rs, rg = r :: rs := by
      cases rg with
      | nil => exact absurd rfl hne
      | cons r rs => exact ⟨r, rs, rfl⟩
    have hbw : Bl wr w.heap.size 32 [.int .i64 tk, .string ts, .int .i64 ta, .int .i64 tl, .int .i64 tc] := hK.bl (.inr rfl) HBL.out
    have k4 : wr.cell? ⟨w.heap.size, 4, none⟩ = some (.int .i64 tc) := hbw.cell 4
    have HLT := Lib.hid hL.lt
    have hLd := hL.keep ((Below.refl wr.heap.size wr).drew)
    have HLD := Lib.hid hLd
    have CI := Lib.hid (indented_any _ wr.drew yb lv _ hLd (by have := HN.out; simp; simp at hLen; omega))
    have HL := Lib.hid hL
    have HK := Lib.hid hK
    have HO := Lib.hid hO
    have HG := Lib.hid hg
    have HLEN := Lib.hid hLen
    have HBW := Lib.hid hbw
    clear hL hK hO hg hLen hne hLd hbw
    by_cases hi : indB (⟨rm, rw_, ri⟩ :: rs) = true
    · obtain ⟨r2, rs', rfl⟩ : ∃ r2 rs', rs = r2 :: rs' := by
        cases rs with
        | nil => simp [indB] at hi
        | cons r2 rs' => exact ⟨r2, rs', rfl⟩
      have hem : rm.toList = [] := by simpa [indB] using hi
      simp only [hi] at CI
      have HEM := Lib.hid hem
      have hf1 := fld1 rm rw_ ri
      have HI : Hid (Bl wr w.heap.size 32 [.int .i64 tk, .string ts, .int .i64 ta, .int .i64 tl, .int .i64 tc]) := HBW.out
      clear hi hem
      by_cases hc : tc < rw_
      · go_wp2_with fail
        have hS : (fun w' : World => w'.cell? ⟨w.heap.size, 4, none⟩ = some (.int .i64 tc)) wr.drew := k4
        refine anyC_region (c := 8) (S := fun w' : World => w'.cell? ⟨w.heap.size, 4, none⟩ = some (.int .i64 tc)) (by kernel_rfl) ?_
        refine anyC_take0 (i := 0) (v := ?_) (some 6) (by rfl) rfl (by kernel_rfl) (by kernel_rfl) (by kernel_rfl) (fun _ _ _ h => h) (Or.inl ⟨by rfl, ?_⟩) (by decide) (Or.inr (by assumption)) ?_
        rotate_left
        · (intro w; go_simp; try with_reducible rfl)
        (try simp only [Act.put, List.setIfInBounds_toArray, List.set_cons_zero, List.set_cons_succ])
        refine anyC_one (i := 1) (by kernel_rfl) rfl (by rfl) (fun K hK => ?_)
        go_simp
        refine CI.out.mono ?_
        rintro e w2 ⟨rfl, hB⟩
        (try simp only [Act.put, List.setIfInBounds_toArray, List.set_cons_zero, List.set_cons_succ])
        have hS2 : (fun w' : World => w'.cell? ⟨w.heap.size, 4, none⟩ = some (.int .i64 tc)) w2 := ((KX.below hB HLT.out).cell (.inr rfl)).trans k4
        refine hK.out _ _ (.inr (.inr hS2)) ?_
        have cj := inner_any _ w2 yb lv _ ⟨rm, rw_, ri⟩ (r2 :: rs') (HLD.out.keep hB) rfl (by have h1 := HN.out; have h2 := HLEN.out; simp at h2 ⊢; omega)
        simp only [Reg.cs] at cj
        have CJ := Lib.hid cj
        have HB := Lib.hid hB
        clear hK K hS cj hB
        refine anyC_take0 (i := 2) (v := ?_) (some 8) (by rfl) rfl (by kernel_rfl) (by kernel_rfl) (by kernel_rfl) (fun _ _ _ h => h) (Or.inl ⟨by rfl, ?_⟩) (by decide) (Or.inr (by assumption)) ?_
        rotate_left
        · (intro w; go_simp; try with_reducible rfl)
        (try simp only [Act.put, List.setIfInBounds_toArray, List.set_cons_zero, List.set_cons_succ])
        refine anyC_take0 (i := 3) (v := ?_) (some 9) (by rfl) rfl (by kernel_rfl) (by kernel_rfl) (by kernel_rfl) (fun _ _ _ h => h) (Or.inl ⟨by rfl, ?_⟩) (by decide) (Or.inr (by assumption)) ?_
        rotate_left
        · (intro w; go_simp; try with_reducible rfl)
        (try simp only [Act.put, List.setIfInBounds_toArray, List.set_cons_zero, List.set_cons_succ])
        refine anyC_take0 (i := 5) (v := ?_) (some 11) (by rfl) rfl (by kernel_rfl) (by kernel_rfl) (by kernel_rfl) (fun _ _ _ h => h) (Or.inl ⟨by rfl, ?_⟩) (by decide) (Or.inr (by assumption)) ?_
        rotate_left
        · (intro w; go_simp; try with_reducible rfl)
        (try simp only [Act.put, List.setIfInBounds_toArray, List.set_cons_zero, List.set_cons_succ])
        refine anyC_take (i := 4) (v := ?_) (some 10) (by rfl) rfl (by kernel_rfl) (by kernel_rfl) (by kernel_rfl) (by kernel_rfl) (by kernel_rfl) (fun _ _ _ h => h) (Or.inl ⟨by rfl, ?_⟩) (by assumption) ?_
        rotate_left
        · (intro w hSw; (try dsimp only at hSw); go_simp; try with_reducible rfl)
        (try simp only [Act.put, List.setIfInBounds_toArray, List.set_cons_zero, List.set_cons_succ])
        refine anyC_one (i := 6) (by kernel_rfl) rfl (by rfl) (fun K hK => ?_)
        go_simp
        refine CJ.out.mono ?_
        rintro e w3 ⟨rfl, rfl⟩
        (try simp only [Act.put, List.setIfInBounds_toArray, List.set_cons_zero, List.set_cons_succ])
        have hS3 : (fun w' : World => w'.cell? ⟨w.heap.size, 4, none⟩ = some (.int .i64 tc)) (w2.alloc (.cells #[.string rm, .int .i64 rw_, .int .i64 ri] 75)).drew := cell_alloc1 hS2 _
        refine hK.out _ _ (.inr (.inr hS3)) ?_
        clear hK K CJ CI hS2
        refine anyC_take0 (i := 7) (v := ?_) (some 13) (by rfl) rfl (by kernel_rfl) (by kernel_rfl) (by kernel_rfl) (fun _ _ _ h => h) (Or.inl ⟨by rfl, ?_⟩) (by decide) (Or.inr (by assumption)) ?_
        rotate_left
        · (intro w; go_simp; try with_reducible rfl)
        (try simp only [Act.put, List.setIfInBounds_toArray, List.set_cons_zero, List.set_cons_succ])
        refine anyC_one (i := 8) (by kernel_rfl) rfl (by rfl) (fun K hK => ?_)
        go_simp
        refine hK.out _ _ (.inl rfl) ?_
        clear hK K
        (try simp only [Act.put, List.setIfInBounds_toArray, List.set_cons_zero, List.set_cons_succ])
        refine anyC_take0 (i := 9) (v := ?_) (some 15) (by rfl) rfl (by kernel_rfl) (by kernel_rfl) (by kernel_rfl) (fun _ _ _ h => h) (Or.inl ⟨by rfl, ?_⟩) (by decide) (Or.inl (by kernel_rfl)) ?_
        rotate_left
        · (intro w; go_simp; try with_reducible rfl)
        (try simp only [Act.put, List.setIfInBounds_toArray, List.set_cons_zero, List.set_cons_succ])
        apply anyC_end
        rotate_left
        · kernel_rfl
        have k0' := cell_alloc1 (((KX.below HB.out HLT.out).bl (.inr rfl) HBW.out).cell 0)
        have k1' := cell_alloc1 (((KX.below HB.out HLT.out).bl (.inr rfl) HBW.out).cell 1)
        have k2' := cell_alloc1 (((KX.below HB.out HLT.out).bl (.inr rfl) HBW.out).cell 2)
        have k3' := cell_alloc1 (((KX.below HB.out HLT.out).bl (.inr rfl) HBW.out).cell 3)
        have k4' := cell_alloc1 (((KX.below HB.out HLT.out).bl (.inr rfl) HBW.out).cell 4)
        have hbl := ((Below.refl w2.heap.size w2).alloc (Nat.le_refl _) (.cells #[.string rm, .int .i64 rw_, .int .i64 ri] 75)).drew
        have cd := outdent_any _ _ yb lv _ ⟨tk, ts, ta, tl, tc⟩ ⟨rm, rw_, ri⟩ (r2 :: rs') ((HLD.out.keep HB.out).keep hbl) rfl (by have h1 := HN.out; have h2 := HLEN.out; simp at h2 ⊢; omega) (by have h1 := HN.out; have h2 := HLEN.out; simp at h2 ⊢; omega)
        simp only [Tok.cs] at cd
        have CD := Lib.hid cd
        have HBL2 := Lib.hid hbl
        have HC := Lib.hid hc
        clear cd hbl hc hf1
        go_wp2_with (go_at_call 66; refine CD.out.mono ?_; rintro e w3 ⟨rfl, hL3, hK3⟩)
        go_roundg (r2 :: rs').length
        case rel =>
          refine ⟨_, _, true, rfl, by simp, rfl, hL3, ?_, ?_, ?_⟩
          · exact (HK.out.trans ((KX.refl _ wr).drew.trans (KX.below HB.out HLT.out))).trans ((KX.below HBL2.out (HLD.out.keep HB.out).lt).trans hK3)
          · rw [← HO.out]; simp [outLoop, HEM.out, HC.out]
          · have := HLEN.out; simp at this ⊢; omega
        case measure => rw [HG.out]; simp
      · have hstop : outLoop ⟨tk, ts, ta, tl, tc⟩ (⟨rm, rw_, ri⟩ :: r2 :: rs') o cl = (o, ⟨rm, rw_, ri⟩ :: r2 :: rs', cl) := by simp [outLoop, hc]
        have HS := Lib.hid hstop
        clear hstop
        go_wp2_with fail
        have hS : (fun w' : World => w'.cell? ⟨w.heap.size, 4, none⟩ = some (.int .i64 tc)) wr.drew := k4
        refine anyC_region (c := 8) (S := fun w' : World => w'.cell? ⟨w.heap.size, 4, none⟩ = some (.int .i64 tc)) (by kernel_rfl) ?_
        refine anyC_take0 (i := 0) (v := ?_) (some 6) (by rfl) rfl (by kernel_rfl) (by kernel_rfl) (by kernel_rfl) (fun _ _ _ h => h) (Or.inl ⟨by rfl, ?_⟩) (by decide) (Or.inr (by assumption)) ?_
        rotate_left
        · (intro w; go_simp; try with_reducible rfl)
        (try simp only [Act.put, List.setIfInBounds_toArray, List.set_cons_zero, List.set_cons_succ])
        refine anyC_one (i := 1) (by kernel_rfl) rfl (by rfl) (fun K hK => ?_)
        go_simp
        refine CI.out.mono ?_
        rintro e w2 ⟨rfl, hB⟩
        (try simp only [Act.put, List.setIfInBounds_toArray, List.set_cons_zero, List.set_cons_succ])
        have hS2 : (fun w' : World => w'.cell? ⟨w.heap.size, 4, none⟩ = some (.int .i64 tc)) w2 := ((KX.below hB HLT.out).cell (.inr rfl)).trans k4
        refine hK.out _ _ (.inr (.inr hS2)) ?_
        have cj := inner_any _ w2 yb lv _ ⟨rm, rw_, ri⟩ (r2 :: rs') (HLD.out.keep hB) rfl (by have h1 := HN.out; have h2 := HLEN.out; simp at h2 ⊢; omega)
        simp only [Reg.cs] at cj
        have CJ := Lib.hid cj
        have HB := Lib.hid hB
        clear hK K hS cj hB
        refine anyC_take0 (i := 2) (v := ?_) (some 8) (by rfl) rfl (by kernel_rfl) (by kernel_rfl) (by kernel_rfl) (fun _ _ _ h => h) (Or.inl ⟨by rfl, ?_⟩) (by decide) (Or.inr (by assumption)) ?_
        rotate_left
        · (intro w; go_simp; try with_reducible rfl)
        (try simp only [Act.put, List.setIfInBounds_toArray, List.set_cons_zero, List.set_cons_succ])
        refine anyC_take0 (i := 3) (v := ?_) (some 9) (by rfl) rfl (by kernel_rfl) (by kernel_rfl) (by kernel_rfl) (fun _ _ _ h => h) (Or.inl ⟨by rfl, ?_⟩) (by decide) (Or.inr (by assumption)) ?_
        rotate_left
        · (intro w; go_simp; try with_reducible rfl)
        (try simp only [Act.put, List.setIfInBounds_toArray, List.set_cons_zero, List.set_cons_succ])
        refine anyC_take0 (i := 5) (v := ?_) (some 11) (by rfl) rfl (by kernel_rfl) (by kernel_rfl) (by kernel_rfl) (fun _ _ _ h => h) (Or.inl ⟨by rfl, ?_⟩) (by decide) (Or.inr (by assumption)) ?_
        rotate_left
        · (intro w; go_simp; try with_reducible rfl)
        (try simp only [Act.put, List.setIfInBounds_toArray, List.set_cons_zero, List.set_cons_succ])
        refine anyC_take (i := 4) (v := ?_) (some 10) (by rfl) rfl (by kernel_rfl) (by kernel_rfl) (by kernel_rfl) (by kernel_rfl) (by kernel_rfl) (fun _ _ _ h => h) (Or.inl ⟨by rfl, ?_⟩) (by assumption) ?_
        rotate_left
        · (intro w hSw; (try dsimp only at hSw); go_simp; try with_reducible rfl)
        (try simp only [Act.put, List.setIfInBounds_toArray, List.set_cons_zero, List.set_cons_succ])
        refine anyC_one (i := 6) (by kernel_rfl) rfl (by rfl) (fun K hK => ?_)
        go_simp
        refine CJ.out.mono ?_
        rintro e w3 ⟨rfl, rfl⟩
        (try simp only [Act.put, List.setIfInBounds_toArray, List.set_cons_zero, List.set_cons_succ])
        have hS3 : (fun w' : World => w'.cell? ⟨w.heap.size, 4, none⟩ = some (.int .i64 tc)) (w2.alloc (.cells #[.string rm, .int .i64 rw_, .int .i64 ri] 75)).drew := cell_alloc1 hS2 _
        refine hK.out _ _ (.inr (.inr hS3)) ?_
        clear hK K CJ CI hS2
        refine anyC_take0 (i := 7) (v := ?_) (some 13) (by rfl) rfl (by kernel_rfl) (by kernel_rfl) (by kernel_rfl) (fun _ _ _ h => h) (Or.inl ⟨by rfl, ?_⟩) (by decide) (Or.inr (by assumption)) ?_
        rotate_left
        · (intro w; go_simp; try with_reducible rfl)
        (try simp only [Act.put, List.setIfInBounds_toArray, List.set_cons_zero, List.set_cons_succ])
        refine anyC_one (i := 8) (by kernel_rfl) rfl (by rfl) (fun K hK => ?_)
        go_simp
        refine hK.out _ _ (.inl rfl) ?_
        clear hK K
        (try simp only [Act.put, List.setIfInBounds_toArray, List.set_cons_zero, List.set_cons_succ])
        refine anyC_take0 (i := 9) (v := ?_) (some 15) (by rfl) rfl (by kernel_rfl) (by kernel_rfl) (by kernel_rfl) (fun _ _ _ h => h) (Or.inl ⟨by rfl, ?_⟩) (by decide) (Or.inl (by kernel_rfl)) ?_
        rotate_left
        · (intro w; go_simp; try with_reducible rfl)
        (try simp only [Act.put, List.setIfInBounds_toArray, List.set_cons_zero, List.set_cons_succ])
        apply anyC_end
        rotate_left
        · kernel_rfl
        have hB5 : Below wr.drew.heap.size wr.drew ((w2.alloc (.cells #[.string rm, .int .i64 rw_, .int .i64 ri] 75)).drew) := HB.out.trans (((Below.refl w2.heap.size w2).alloc (Nat.le_refl _) _).drew.mono HB.out.size)
        clear HB hS3
        generalize (w2.alloc (.cells #[.string rm, .int .i64 rw_, .int .i64 ri] 75)).drew = w5 at *
        have hB := hB5
        clear hB5
        have k4' : w5.cell? ⟨w.heap.size, 4, none⟩ = some (.int .i64 tc) := ((KX.below hB HLT.out).cell (.inr rfl)).trans k4
        have k2' : w5.cell? ⟨w.heap.size, 2, none⟩ = some (.int .i64 ta) := ((KX.below hB HLT.out).cell (.inr rfl)).trans (HBW.out.cell 2)
        have cj := inner_any _ w5 yb lv _ ⟨rm, rw_, ri⟩ (r2 :: rs') (HLD.out.keep hB) rfl (by have h1 := HN.out; have h2 := HLEN.out; simp at h2 ⊢; omega)
        simp only [Reg.cs] at cj
        have CJ := Lib.hid cj
        have q4 := cell_alloc2 k4'
        have q2 := cell_alloc2 k2'
        have HB := Lib.hid hB
        clear cj hB k4 k4' k2'
        have hval : outsF ⟨tk, ts, ta, tl, tc⟩ s = if rm.toList.isEmpty && (decide (tc < rw_) || cl && decide (rw_ < tc)) then .error (ta, 23) else .ok { s with out := o, regs := ⟨rm, rw_, ri⟩ :: r2 :: rs' } := by
          unfold outsF; rw [← HO.out, HS.out]
        have HV := Lib.hid hval
        have HKF : Hid (KX X w w5) := ((KX.below HB0.out HX.out).trans ((HK.out.mono (fun _ hk => .inl hk)).trans ((KX.refl X wr).drew.trans (KX.below HB.out (fun k hk => HLT.out k (.inl hk))))))
        have HLF : Hid (LR X w5 yb lv ⟨o, ⟨rm, rw_, ri⟩ :: r2 :: rs', s.first⟩) := (HLD.out.keep HB.out).mono (fun _ hk => .inl hk)
        clear hval
        go_wp2_with (first | (go_at_call 58; refine CJ.out.mono ?_; rintro e w' ⟨rfl, rfl⟩) | (go_at_call 14; refine (fail_any _ _ _).mono ?_; rintro e w' ⟨rfl, rfl⟩))
        all_goals
          have hbl := (((Below.refl w5.heap.size w5).alloc (Nat.le_refl _) (.cells #[.string rm, .int .i64 rw_, .int .i64 ri] 75)).alloc (by simp) (.cells #[.string rm, .int .i64 rw_, .int .i64 ri] 75)).drew
          first
          | exact ⟨rfl, Res.err HV.out (outs_yes ⟨by assumption, by first | exact .inl (by omega) | exact .inr ⟨by assumption, by omega⟩⟩) (HKF.out.trans (KX.below hbl HLF.out.lt))⟩
          | (go_end0
             exact Res.ok HV.out (outs_no (by rintro ⟨p1, p2 | ⟨p3, p4⟩⟩ <;> first | contradiction | omega)) (HLF.out.keep hbl) (HKF.out.trans (KX.below hbl HLF.out.lt)))
    · have hi' : indB (⟨rm, rw_, ri⟩ :: rs) = false := by simpa using hi
      simp only [hi'] at CI
      have hstop : outLoop ⟨tk, ts, ta, tl, tc⟩ (⟨rm, rw_, ri⟩ :: rs) o cl = (o, ⟨rm, rw_, ri⟩ :: rs, cl) := by
        cases rs with
        | nil => rfl
        | cons r2 rs => simp [indB] at hi'; simp [outLoop, hi']
      have HS := Lib.hid hstop
      clear hi hi' hstop
      go_wp2_with fail
      have hS : (fun _ : World => True) wr.drew := trivial
      refine anyC_region (c := 99) (S := fun _ : World => True) (by kernel_rfl) ?_
      refine anyC_take0 (i := 0) (v := ?_) (some 6) (by rfl) rfl (by kernel_rfl) (by kernel_rfl) (by kernel_rfl) (fun _ _ _ h => h) (Or.inl ⟨by rfl, ?_⟩) (by decide) (Or.inr (by assumption)) ?_
      rotate_left
      · (intro w; go_simp; try with_reducible rfl)
      (try simp only [Act.put, List.setIfInBounds_toArray, List.set_cons_zero, List.set_cons_succ])
      refine anyC_one (i := 1) (by kernel_rfl) rfl (by rfl) (fun K hK => ?_)
      go_simp
      refine CI.out.mono ?_
      rintro e w2 ⟨rfl, hB⟩
      (try simp only [Act.put, List.setIfInBounds_toArray, List.set_cons_zero, List.set_cons_succ])
      have hS2 : (fun _ : World => True) w2 := trivial
      refine hK.out _ _ (.inr (.inr hS2)) ?_
      clear hK K hS
      refine anyC_take0 (i := 2) (v := ?_) (some 8) (by rfl) rfl (by kernel_rfl) (by kernel_rfl) (by kernel_rfl) (fun _ _ _ h => h) (Or.inl ⟨by rfl, ?_⟩) (by decide) (Or.inr (by assumption)) ?_
      rotate_left
      · (intro w; go_simp; try with_reducible rfl)
      (try simp only [Act.put, List.setIfInBounds_toArray, List.set_cons_zero, List.set_cons_succ])
      refine anyC_take0 (i := 3) (v := undef) (some 9) (by rfl) rfl (by kernel_rfl) (by kernel_rfl) (by kernel_rfl) (fun _ _ _ h => h) (Or.inr ⟨by rfl, rfl⟩) (by decide) (Or.inr (by assumption)) ?_
      (try simp only [Act.put, List.setIfInBounds_toArray, List.set_cons_zero, List.set_cons_succ])
      refine anyC_take0 (i := 5) (v := undef) (some 11) (by rfl) rfl (by kernel_rfl) (by kernel_rfl) (by kernel_rfl) (fun _ _ _ h => h) (Or.inr ⟨by rfl, rfl⟩) (by decide) (Or.inr (by assumption)) ?_
      (try simp only [Act.put, List.setIfInBounds_toArray, List.set_cons_zero, List.set_cons_succ])
      refine anyC_take0 (i := 4) (v := undef) (some 10) (by rfl) rfl (by kernel_rfl) (by kernel_rfl) (by kernel_rfl) (fun _ _ _ h => h) (Or.inr ⟨by rfl, rfl⟩) (by decide) (Or.inr (by assumption)) ?_
      (try simp only [Act.put, List.setIfInBounds_toArray, List.set_cons_zero, List.set_cons_succ])
      refine anyC_take0 (i := 6) (v := undef) (some 12) (by rfl) rfl (by kernel_rfl) (by kernel_rfl) (by kernel_rfl) (fun _ _ _ h => h) (Or.inr ⟨by rfl, rfl⟩) (by decide) (Or.inr (by assumption)) ?_
      (try simp only [Act.put, List.setIfInBounds_toArray, List.set_cons_zero, List.set_cons_succ])
      refine anyC_take0 (i := 7) (v := undef) (some 13) (by rfl) rfl (by kernel_rfl) (by kernel_rfl) (by kernel_rfl) (fun _ _ _ h => h) (Or.inr ⟨by rfl, rfl⟩) (by decide) (Or.inr (by assumption)) ?_
      (try simp only [Act.put, List.setIfInBounds_toArray, List.set_cons_zero, List.set_cons_succ])
      refine anyC_take0 (i := 8) (v := undef) (some 14) (by rfl) rfl (by kernel_rfl) (by kernel_rfl) (by kernel_rfl) (fun _ _ _ h => h) (Or.inr ⟨by rfl, rfl⟩) (by decide) (Or.inr (by assumption)) ?_
      (try simp only [Act.put, List.setIfInBounds_toArray, List.set_cons_zero, List.set_cons_succ])
      refine anyC_take0 (i := 9) (v := ?_) (some 15) (by rfl) rfl (by kernel_rfl) (by kernel_rfl) (by kernel_rfl) (fun _ _ _ h => h) (Or.inl ⟨by rfl, ?_⟩) (by decide) (Or.inr (by assumption)) ?_
      rotate_left
      · (intro w; go_simp; try with_reducible rfl)
      (try simp only [Act.put, List.setIfInBounds_toArray, List.set_cons_zero, List.set_cons_succ])
      apply anyC_end
      rotate_left
      · kernel_rfl
      clear hS2 CI
      have k4' : w2.cell? ⟨w.heap.size, 4, none⟩ = some (.int .i64 tc) := ((KX.below hB HLT.out).cell (.inr rfl)).trans k4
      have k2' : w2.cell? ⟨w.heap.size, 2, none⟩ = some (.int .i64 ta) := ((KX.below hB HLT.out).cell (.inr rfl)).trans (HBW.out.cell 2)
      have cj := inner_any _ w2 yb lv _ ⟨rm, rw_, ri⟩ rs (HLD.out.keep hB) rfl (by have h1 := HN.out; have h2 := HLEN.out; simp at h2 ⊢; omega)
      simp only [Reg.cs] at cj
      have CJ := Lib.hid cj
      have q4 := cell_alloc2 k4'
      have q2 := cell_alloc2 k2'
      have HB := Lib.hid hB
      clear cj hB k4 k4' k2'
      have hval : outsF ⟨tk, ts, ta, tl, tc⟩ s = if rm.toList.isEmpty && (decide (tc < rw_) || cl && decide (rw_ < tc)) then .error (ta, 23) else .ok { s with out := o, regs := ⟨rm, rw_, ri⟩ :: rs } := by
        unfold outsF; rw [← HO.out, HS.out]
      have HV := Lib.hid hval
      have HKF : Hid (KX X w w2) := ((KX.below HB0.out HX.out).trans ((HK.out.mono (fun _ hk => .inl hk)).trans ((KX.refl X wr).drew.trans (KX.below HB.out (fun k hk => HLT.out k (.inl hk))))))
      have HLF : Hid (LR X w2 yb lv ⟨o, ⟨rm, rw_, ri⟩ :: rs, s.first⟩) := (HLD.out.keep HB.out).mono (fun _ hk => .inl hk)
      clear hval
      go_wp2_with (first | (go_at_call 58; refine CJ.out.mono ?_; rintro e w' ⟨rfl, rfl⟩) | (go_at_call 14; refine (fail_any _ _ _).mono ?_; rintro e w' ⟨rfl, rfl⟩))
      all_goals
        have hbl := (((Below.refl w2.heap.size w2).alloc (Nat.le_refl _) (.cells #[.string rm, .int .i64 rw_, .int .i64 ri] 75)).alloc (by simp) (.cells #[.string rm, .int .i64 rw_, .int .i64 ri] 75)).drew
        first
        | exact ⟨rfl, Res.err HV.out (outs_yes ⟨by assumption, by first | exact .inl (by omega) | exact .inr ⟨by assumption, by omega⟩⟩) (HKF.out.trans (KX.below hbl HLF.out.lt))⟩
        | (go_end0
           exact Res.ok HV.out (outs_no (by rintro ⟨p1, p2 | ⟨p3, p4⟩⟩ <;> first | contradiction | omega)) (HLF.out.keep hbl) (HKF.out.trans (KX.below hbl HLF.out.lt)))
end Go.Proofs.YtpgcklpcohcchaaDoor
