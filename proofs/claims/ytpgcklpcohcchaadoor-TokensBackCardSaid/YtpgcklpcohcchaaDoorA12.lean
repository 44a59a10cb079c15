/- Closing a bracket of the layout. -/
import Derived.Test.YtpgcklpcohcchaaDoorA11
namespace Go.Proofs.YtpgcklpcohcchaaDoor
open Go Go.RowKit

/-- The indentations inside of the innermost bracket are closed in front of a token. -/
def clLoop (t : Tok) : List Reg → List Tok → List Tok × List Reg
  | r :: r2 :: rs, o => if r.mark.toList.isEmpty then clLoop t (r2 :: rs) (o ++ [t.as 13]) else (o, r :: r2 :: rs)
  | rs, o => (o, rs)

def closeF (i : Nat) (t : Tok) (s : LS) : Except (Nat × Nat) LS :=
  match clLoop t s.regs s.out with
  | (o, r :: rs) => if !((clo r.mark.toList).toList == t.text.toList) then .error (i, 27) else .ok { s with out := o, regs := rs }
  | (o, []) => .ok { s with out := o, regs := [] }

set_option maxRecDepth 100000 in
set_option maxHeartbeats 6400000 in
theorem close_any (X : Nat → Prop) (w : World) (yb : Nat) (lv : Value) (s : LS) (ts : List Tok) (i : Nat) (t : Tok) (h : LR X w yb lv s) (hl : LL X w lv ts) (hi : ts[i]? = some t) (hn' : ts.length ≤ 1000000) (hr : s.regs ≠ []) (hn : s.out.length + s.regs.length < 4000000) :
    Calls Tryd.prog 64 #[.pointer (some ⟨yb, 0, none⟩), .int .i64 i] w (Res X w yb lv (closeF i t s)) := by
  have hlt : i < ts.length := (List.getElem?_eq_some_iff.1 hi).1
  have q2 : (0 : Int) ≤ (i : Int) := by omega
  have q3 : (i : Int) < (ts.length : Int) := by omega
  obtain ⟨g, cap, hlv, hg⟩ : ∃ g cap, lv = .slice (some ⟨g, 0, none⟩) ts.length cap ∧ g < w.heap.size := by
    obtain ⟨g, cap, h1, h2, _⟩ := hl.tok hi
    exact ⟨g, cap, h1, h2⟩
  have cells : ∀ W, LL X W lv ts → W.cell? ⟨g, i * 5, none⟩ = some (.int .i64 t.kind) ∧ W.cell? ⟨g, i * 5 + 1, none⟩ = some (.string t.text) ∧ W.cell? ⟨g, i * 5 + 2, none⟩ = some (.int .i64 t.pos) ∧
      W.cell? ⟨g, i * 5 + 3, none⟩ = some (.int .i64 t.line) ∧ W.cell? ⟨g, i * 5 + 4, none⟩ = some (.int .i64 t.col) := by
    intro W hW
    obtain ⟨g', cap', e1, _, e2⟩ := hW.tok hi
    rw [hlv] at e1
    simp only [Value.slice.injEq, Option.some.injEq, Addr.mk.injEq, true_and, and_true] at e1
    obtain ⟨rfl, rfl⟩ := e1
    exact e2
  have HX := Lib.hid h.lt
  have HL0 := Lib.hid h
  have HLL := Lib.hid hl
  have HR := Lib.hid hr
  have HN := Lib.hid hn
  have CELLS := Lib.hid cells
  obtain ⟨tk, tx, ta, tl, tc⟩ := t
  subst hlv
  have HI := Lib.hid hi
  clear hi hlt h hl hr hn cells
  generalize hlen : ts.length = len at *
  have HLEN0 := Lib.hid hlen
  clear hlen
  go_enter Tryd.func64, Tryd.ntmps64
  go_wp2
  go_loopg [] s.regs.length (fun gh wr => ∃ (o : List Tok) (rg : List Reg), rg ≠ [] ∧ gh = rg.length ∧ LR X wr yb (.slice (some ⟨g, 0, none⟩) len cap) ⟨o, rg, s.first⟩ ∧ KX X w wr ∧
      clLoop ⟨tk, tx, ta, tl, tc⟩ rg o = clLoop ⟨tk, tx, ta, tl, tc⟩ s.regs s.out ∧ o.length + rg.length = s.out.length + s.regs.length)
  case atStart => exact ⟨s.out, s.regs, HR.out, rfl, HL0.out, KX.refl _ _, rfl, rfl⟩
  case round =>
    obtain ⟨o, rg, hne, hgh, hL, hK, hO, hLen⟩ := hrel
    obtain ⟨⟨rm, rw_, ri⟩, rs, rfl⟩ : ∃ r rs, rg = r :: rs := by
      cases rg with
      | nil => exact absurd rfl hne
      | cons r rs => exact ⟨r, rs, rfl⟩
    have CI := Lib.hid (indented_any _ wr yb _ _ hL (by have := HN.out; simp; simp at hLen; omega))
    have HL := Lib.hid hL
    have HK := Lib.hid hK
    have HO := Lib.hid hO
    have HG := Lib.hid hgh
    have HLEN := Lib.hid hLen
    clear hL hK hO hgh hLen hne
    by_cases hi : indB (⟨rm, rw_, ri⟩ :: rs) = true
    · obtain ⟨r2, rs', rfl⟩ : ∃ r2 rs', rs = r2 :: rs' := by
        cases rs with
        | nil => simp [indB] at hi
        | cons r2 rs' => exact ⟨r2, rs', rfl⟩
      have hem : rm.toList = [] := by simpa [indB] using hi
      simp only [hi] at CI
      have HEM := Lib.hid hem
      clear hi hem
      go_wp2_with fail
      refine CI.out.mono ?_
      rintro e w2 ⟨rfl, hB⟩
      have HB := Lib.hid hB
      have hK2 := HK.out.trans (KX.below HB.out HL.out.lt)
      obtain ⟨k0, k1, k2, k3, k4⟩ := CELLS.out w2 (HLL.out.kx hK2)
      have c0 : w2.cell? ⟨yb, 0, none⟩ = some (.slice (some ⟨g, 0, none⟩) len cap) := by
        obtain ⟨vo, vr, h1, _⟩ := HL.out.keep HB.out
        exact h1.cell 0
      have cd := outdent_any X w2 yb _ _ ⟨tk, tx, ta, tl, tc⟩ ⟨rm, rw_, ri⟩ (r2 :: rs') (HL.out.keep HB.out) rfl (by have h1 := HN.out; have h2 := HLEN.out; simp at h2 ⊢; omega) (by have h1 := HN.out; have h2 := HLEN.out; simp at h2 ⊢; omega)
      simp only [Tok.cs] at cd k0 k1 k2 k3 k4
      have CD := Lib.hid cd
      have HK2 := Lib.hid hK2
      clear cd hB hK2 CI
      go_wp2_with (go_at_call 66; refine CD.out.mono ?_; rintro e w3 ⟨rfl, hL3, hK3⟩)
      go_roundg (r2 :: rs').length
      case rel =>
        refine ⟨_, _, by simp, rfl, hL3, HK2.out.trans hK3, ?_, ?_⟩
        · rw [← HO.out]; simp [clLoop, HEM.out]
        · have := HLEN.out; simp at this ⊢; omega
      case measure => rw [HG.out]; simp
    · have hi' : indB (⟨rm, rw_, ri⟩ :: rs) = false := by simpa using hi
      simp only [hi'] at CI
      have hstop : clLoop ⟨tk, tx, ta, tl, tc⟩ (⟨rm, rw_, ri⟩ :: rs) o = (o, ⟨rm, rw_, ri⟩ :: rs) := by
        cases rs with
        | nil => rfl
        | cons r2 rs => simp [indB] at hi'; simp [clLoop, hi']
      have HS := Lib.hid hstop
      have hval : closeF i ⟨tk, tx, ta, tl, tc⟩ s = if !((clo rm.toList).toList == tx.toList) then .error (i, 27) else .ok { s with out := o, regs := rs } := by
        unfold closeF; rw [← HO.out, HS.out]
      have HV := Lib.hid hval
      clear hi hi' hstop hval
      go_wp2_with fail
      refine CI.out.mono ?_
      rintro e w2 ⟨rfl, hB⟩
      have HB := Lib.hid hB
      have hK2 := HK.out.trans (KX.below HB.out HL.out.lt)
      obtain ⟨k0, k1, k2, k3, k4⟩ := CELLS.out w2 (HLL.out.kx hK2)
      have c0 : w2.cell? ⟨yb, 0, none⟩ = some (.slice (some ⟨g, 0, none⟩) len cap) := by
        obtain ⟨vo, vr, h1, _⟩ := HL.out.keep HB.out
        exact h1.cell 0
      have hLd := (HL.out.keep HB.out).keep ((Below.refl w2.heap.size w2).drew)
      have cj := inner_any X w2.drew yb _ _ ⟨rm, rw_, ri⟩ rs hLd rfl (by have h1 := HN.out; have h2 := HLEN.out; simp at h2 ⊢; omega)
      simp only [Reg.cs] at cj
      have CJ := Lib.hid cj
      have HK2 := Lib.hid hK2
      have HLD := Lib.hid hLd
      have hf0 := fld0 rm rw_ ri
      have c0' := cell_alloc1 c0
      have k1' := cell_alloc1 k1
      clear cj hB hK2 CI k0 k2 k3 k4 hLd
      go_wp2_with fail
      go_region_held3 (fun w' => w'.cell? ⟨yb, 0, none⟩ = some (.slice (some ⟨g, 0, none⟩) len cap) ∧ w'.cell? ⟨g, i * 5 + 1, none⟩ = some (.string tx))
        (go_keep) (first | (go_at_call 58; refine CJ.out.mono ?_; rintro e w3 ⟨rfl, rfl⟩) | (go_at_call 49; refine (closing_any _ _).mono ?_; rintro e w3 ⟨rfl, rfl⟩))
      have hB5 := ((Below.refl w2.heap.size w2).alloc (Nat.le_refl _) (.cells #[.string rm, .int .i64 rw_, .int .i64 ri] 75)).drew.drew
      have HL5 := Lib.hid ((HL.out.keep HB.out).keep hB5)
      have HK5 := Lib.hid (HK2.out.trans (KX.below hB5 (HL.out.keep HB.out).lt))
      clear HLD CJ hf0 c0 c0' k1 k1' hB5
      go_wp2_with fail
      · have hm : (!(clo rm.toList).toList == tx.toList) = true := by assumption
        refine (fail_any _ _ _).mono ?_
        rintro e w' ⟨rfl, rfl⟩
        exact ⟨rfl, Res.err HV.out hm HK5.out⟩
      · have hm' : (!(clo rm.toList).toList == tx.toList) = false := by assumption
        have HM := Lib.hid hm'
        clear hm'
        generalize (w2.alloc (.cells #[.string rm, .int .i64 rw_, .int .i64 ri] 75)).drew.drew = w5 at *
        obtain ⟨vo, vr, h1, h2, h3, h4⟩ := HL5.out
        simp only [List.length_cons] at h3
        obtain ⟨g2, cap2, rfl, _, _⟩ := h3.form (by omega)
        have c2 : w5.cell? ⟨yb, 2, none⟩ = some (.slice (some ⟨g2, 0, none⟩) (rs.length + 1) cap2) := h1.cell 2
        have f2 : w5.frozen? ⟨yb, 2, none⟩ = false := h1.froz 2
        have hcap : rs.length + 1 ≤ cap2 := by
          rcases h3.2 with ⟨hv, _⟩ | ⟨g', cap', cur, hv, _, _, hc, _⟩
          · cases hv
          · injection hv with _ _ hv; omega
        have hrs : rs.length < 4000000 := by have h1 := HN.out; have h2 := HLEN.out; simp at h2 ⊢; omega
        have hcl := LR.pop_close (s := { s with out := o, regs := ⟨rm, rw_, ri⟩ :: rs }) h1 h2 h3 h4
        have HC := Lib.hid hcl
        clear hcl h1 h2 h3 h4
        generalize rs.length = n at *
        have q1 : IntKind.i64.wrap (n : Int) = (n : Int) := by rw [IntKind.wrap_i64]; omega
        have q4 : IntKind.i64.wrap ((n : Int) + 1 - 1) = (n : Int) := by rw [IntKind.wrap_i64]; omega
        have q2 : (0 : Int) ≤ (n : Int) := by omega
        have q3 : (n : Int) ≤ (cap2 : Int) := by omega
        have hS : (fun w' : World => w'.cell? ⟨yb, 2, none⟩ = some (.slice (some ⟨g2, 0, none⟩) (n + 1) cap2)) w5.drew := c2
        refine anyC_region (c := 14) (S := fun w' : World => w'.cell? ⟨yb, 2, none⟩ = some (.slice (some ⟨g2, 0, none⟩) (n + 1) cap2)) (by kernel_rfl) ?_
        refine anyC_take0 (i := 0) (v := ?_) (some 30) (by rfl) rfl (by kernel_rfl) (by kernel_rfl) (by kernel_rfl) (fun _ _ _ h => h) (Or.inl ⟨by rfl, ?_⟩) (by decide) (Or.inr (by assumption)) ?_
        rotate_left
        · (intro w; go_simp; try with_reducible rfl)
        (try simp only [Act.put, List.setIfInBounds_toArray, List.set_cons_zero, List.set_cons_succ])
        refine anyC_take0 (i := 1) (v := ?_) (some 31) (by rfl) rfl (by kernel_rfl) (by kernel_rfl) (by kernel_rfl) (fun _ _ _ h => h) (Or.inl ⟨by rfl, ?_⟩) (by decide) (Or.inr (by assumption)) ?_
        rotate_left
        · (intro w; go_simp; try with_reducible rfl)
        (try simp only [Act.put, List.setIfInBounds_toArray, List.set_cons_zero, List.set_cons_succ])
        refine anyC_take0 (i := 2) (v := ?_) (some 32) (by rfl) rfl (by kernel_rfl) (by kernel_rfl) (by kernel_rfl) (fun _ _ _ h => h) (Or.inl ⟨by rfl, ?_⟩) (by decide) (Or.inr (by assumption)) ?_
        rotate_left
        · (intro w; go_simp; try with_reducible rfl)
        (try simp only [Act.put, List.setIfInBounds_toArray, List.set_cons_zero, List.set_cons_succ])
        refine anyC_take0 (i := 3) (v := ?_) (some 33) (by rfl) rfl (by kernel_rfl) (by kernel_rfl) (by kernel_rfl) (fun _ _ _ h => h) (Or.inl ⟨by rfl, ?_⟩) (by decide) (Or.inr (by assumption)) ?_
        rotate_left
        · (intro w; go_simp; try with_reducible rfl)
        (try simp only [Act.put, List.setIfInBounds_toArray, List.set_cons_zero, List.set_cons_succ])
        refine anyC_take (i := 4) (v := ?_) (some 34) (by rfl) rfl (by kernel_rfl) (by kernel_rfl) (by kernel_rfl) (by kernel_rfl) (by kernel_rfl) (fun _ _ _ h => h) (Or.inl ⟨by rfl, ?_⟩) (by assumption) ?_
        rotate_left
        · (intro w hSw; (try dsimp only at hSw); go_simp; try with_reducible rfl)
        (try simp only [Act.put, List.setIfInBounds_toArray, List.set_cons_zero, List.set_cons_succ])
        refine anyC_take0 (i := 5) (v := ?_) (some 35) (by rfl) rfl (by kernel_rfl) (by kernel_rfl) (by kernel_rfl) (fun _ _ _ h => h) (Or.inl ⟨by rfl, ?_⟩) (by decide) (Or.inr (by assumption)) ?_
        rotate_left
        · (intro w; go_simp; try with_reducible rfl)
        (try simp only [Act.put, List.setIfInBounds_toArray, List.set_cons_zero, List.set_cons_succ])
        refine anyC_take0 (i := 6) (v := ?_) (some 36) (by rfl) rfl (by kernel_rfl) (by kernel_rfl) (by kernel_rfl) (fun _ _ _ h => h) (Or.inl ⟨by rfl, ?_⟩) (by decide) (Or.inr (by assumption)) ?_
        rotate_left
        · (intro w; go_simp; try with_reducible rfl)
        (try simp only [Act.put, List.setIfInBounds_toArray, List.set_cons_zero, List.set_cons_succ])
        refine anyC_take0 (i := 7) (v := ?_) (some 37) (by rfl) rfl (by kernel_rfl) (by kernel_rfl) (by kernel_rfl) (fun _ _ _ h => h) (Or.inl ⟨by rfl, ?_⟩) (by decide) (Or.inr (by assumption)) ?_
        rotate_left
        · (intro w; go_simp; try with_reducible rfl)
        (try simp only [Act.put, List.setIfInBounds_toArray, List.set_cons_zero, List.set_cons_succ])
        refine anyC_take (i := 8) (v := ?_) (some 38) (by rfl) rfl (by kernel_rfl) (by kernel_rfl) (by kernel_rfl) (by kernel_rfl) (by kernel_rfl) (fun _ _ _ h => h) (Or.inl ⟨by rfl, ?_⟩) (by assumption) ?_
        rotate_left
        · (intro w hSw; (try dsimp only at hSw); go_simp; try with_reducible rfl)
        (try simp only [Act.put, List.setIfInBounds_toArray, List.set_cons_zero, List.set_cons_succ])
        refine anyC_take0 (i := 9) (v := ?_) (some 39) (by rfl) rfl (by kernel_rfl) (by kernel_rfl) (by kernel_rfl) (fun _ _ _ h => h) (Or.inl ⟨by rfl, ?_⟩) (by decide) (Or.inr (by assumption)) ?_
        rotate_left
        · (intro w; go_simp; try with_reducible rfl)
        (try simp only [Act.put, List.setIfInBounds_toArray, List.set_cons_zero, List.set_cons_succ])
        refine anyC_take0 (i := 10) (v := ?_) (some 40) (by rfl) rfl (by kernel_rfl) (by kernel_rfl) (by kernel_rfl) (fun _ _ _ h => h) (Or.inl ⟨by rfl, ?_⟩) (by decide) (Or.inr (by assumption)) ?_
        rotate_left
        · (intro w; go_simp; try with_reducible rfl)
        (try simp only [Act.put, List.setIfInBounds_toArray, List.set_cons_zero, List.set_cons_succ])
        refine anyC_take0 (i := 11) (v := ?_) (some 41) (by rfl) rfl (by kernel_rfl) (by kernel_rfl) (by kernel_rfl) (fun _ _ _ h => h) (Or.inl ⟨by rfl, ?_⟩) (by decide) (Or.inr (by assumption)) ?_
        rotate_left
        · (intro w; go_simp; try with_reducible rfl)
        (try simp only [Act.put, List.setIfInBounds_toArray, List.set_cons_zero, List.set_cons_succ])
        refine anyC_take0 (i := 12) (v := ?_) (some 42) (by rfl) rfl (by kernel_rfl) (by kernel_rfl) (by kernel_rfl) (fun _ _ _ h => h) (Or.inl ⟨by rfl, ?_⟩) (by decide) (Or.inr (by assumption)) ?_
        rotate_left
        · (intro w; go_simp; try with_reducible rfl)
        (try simp only [Act.put, List.setIfInBounds_toArray, List.set_cons_zero, List.set_cons_succ])
        refine anyC_take0 (i := 13) (v := ?_) (some 43) (by rfl) rfl (by kernel_rfl) (by kernel_rfl) (by kernel_rfl) (fun _ _ _ h => h) (Or.inl ⟨by rfl, ?_⟩) (by decide) (Or.inr (by assumption)) ?_
        rotate_left
        · (intro w; go_simp; try with_reducible rfl)
        (try simp only [Act.put, List.setIfInBounds_toArray, List.set_cons_zero, List.set_cons_succ])
        refine anyC_one (i := 14) (by kernel_rfl) rfl (by rfl) (fun K hK => ?_)
        go_simp
        refine hK.out _ _ (.inl rfl) ?_
        apply anyC_end
        rotate_left
        · kernel_rfl
        go_wp2
        go_end0
        exact Res.ok HV.out HM.out HC.out.1 (HK5.out.trans HC.out.2)
end Go.Proofs.YtpgcklpcohcchaaDoor
