/- The end of the layout. -/
import Derived.Test.YtpgcklpcohcchaaDoorA16
namespace Go.Proofs.YtpgcklpcohcchaaDoor
open Go Go.RowKit

/-- The last token of a list with layout. -/
def stopT (ts : List Tok) : Tok :=
  match ts.getLast? with
  | none => ⟨14, ⟨#[]⟩, 0, 0, 0⟩
  | some l => ⟨14, ⟨#[]⟩, l.pos + 1, l.line + 1, 0⟩

def endF (ts : List Tok) (s : LS) : Except (Nat × Nat) LS :=
  match clLoop (stopT ts) s.regs s.out with
  | (o, r :: r2 :: rs) => .error (r.index, 27)
  | (o, rs) => .ok { s with out := o ++ [stopT ts], regs := rs }

theorem clLoop_len (t : Tok) : ∀ (rg : List Reg) (o : List Tok), (clLoop t rg o).1.length + (clLoop t rg o).2.length = o.length + rg.length := by
  intro rg
  induction rg with
  | nil => intro o; rfl
  | cons r rs ih =>
    intro o
    cases rs with
    | nil => rfl
    | cons r2 rs =>
      unfold clLoop
      split
      · rw [ih]; simp; omega
      · rfl

set_option maxRecDepth 100000 in
set_option maxHeartbeats 12800000 in
theorem end_any (X : Nat → Prop) (w : World) (yb : Nat) (lv : Value) (s : LS) (ts : List Tok) (l : Tok) (h : LR X w yb lv s) (hl : LL X w lv ts) (hla : ts.getLast? = some l) (hn' : ts.length ≤ 1000000) (hn : s.out.length + s.regs.length < 3999000) (hre : s.regs ≠ []) (hp : l.pos ≤ 1000000) (hp2 : l.line ≤ 1000000) :
    Calls Tryd.prog 42 #[.pointer (some ⟨yb, 0, none⟩)] w (Res X w yb lv (endF ts s)) := by
  obtain ⟨n, hlen⟩ : ∃ n, ts.length = n + 1 := by
    cases ts with
    | nil => simp at hla
    | cons a b => exact ⟨b.length, rfl⟩
  have hi : ts[n]? = some l := by
    rw [List.getLast?_eq_getElem?, hlen] at hla
    simpa using hla
  have hst : stopT ts = ⟨14, ⟨#[]⟩, l.pos + 1, l.line + 1, 0⟩ := by unfold stopT; rw [hla]
  obtain ⟨g, cap, hlv, hg, k0, k1, k2, k3, k4⟩ := hl.tok hi
  have c0 : w.cell? ⟨yb, 0, none⟩ = some lv := by
    obtain ⟨vo, vr, h1, _⟩ := h
    exact h1.cell 0
  have hb0 := (Below.refl w.heap.size w).alloc (Nat.le_refl _) (.cells (Tok.cs (stopT ts)).toArray 32)
  have hL0 := h.more hb0 w.heap.size (Nat.le_refl _) (by simp)
  have hbl : Bl (w.alloc (.cells (Tok.cs (stopT ts)).toArray 32)) w.heap.size 32 (Tok.cs (stopT ts)) := by simpa using Bl.new w 32 (Tok.cs (stopT ts))
  have hKW := KX.below hb0 h.lt
  rw [hst] at hb0 hL0 hbl hKW
  obtain ⟨lk, lx, la, ll, lc⟩ := l
  simp only [Tok.cs] at k0 k1 k2 k3 k4 hb0 hL0 hbl hKW hst hp hp2
  subst hlv
  rw [hlen] at c0 hL0 ⊢
  have hL0' : LR (fun b => X b ∨ b = w.heap.size) (w.alloc (.cells #[.int .i64 14, .string ⟨#[]⟩, .int .i64 ((la : Int) + 1), .int .i64 ((ll : Int) + 1), .int .i64 0] 32)) yb (.slice (some ⟨g, 0, none⟩) (n + 1) cap) s := hL0
  have hbl' : Bl (w.alloc (.cells #[.int .i64 14, .string ⟨#[]⟩, .int .i64 ((la : Int) + 1), .int .i64 ((ll : Int) + 1), .int .i64 0] 32)) w.heap.size 32 (Tok.cs ⟨14, ⟨#[]⟩, la + 1, ll + 1, 0⟩) := hbl
  have hKW' : KX X w (w.alloc (.cells #[.int .i64 14, .string ⟨#[]⟩, .int .i64 ((la : Int) + 1), .int .i64 ((ll : Int) + 1), .int .i64 0] 32)) := hKW
  have HL0 := Lib.hid hL0'
  have HBL := Lib.hid hbl'
  have HKW := Lib.hid hKW'
  have c0' := cell_alloc1 c0
  have k2' := cell_alloc1 k2
  have k3' := cell_alloc1 k3
  clear hL0' hbl' hKW'
  have HST := Lib.hid hst
  have HR := Lib.hid hre
  have HN := Lib.hid hn
  have q2 : (0 : Int) ≤ (n : Int) := by omega
  have q3 : (n : Int) < (n : Int) + 1 := by omega
  have q4 : IntKind.i64.wrap ((n : Int) + 1 - 1) = (n : Int) := by rw [IntKind.wrap_i64]; omega
  have q4' : IntKind.i64.wrap (n : Int) = (n : Int) := by rw [IntKind.wrap_i64]; omega
  have q5 : (0 : Int) < (n : Int) + 1 := by omega
  have q6 : (la : Int) ≤ 1000000 := by omega
  have q7 : (ll : Int) ≤ 1000000 := by omega
  have hn2 : n ≤ 1000000 := by omega
  have n0 := World.new_ne w _ c0
  have n1 := World.new_ne w _ k0
  clear h hl hla hi hn' hn hre hp hp2 hlen hb0 hL0 hbl hKW hst
  go_enter Tryd.func42, Tryd.ntmps42
  go_wp2
  clear c0 c0' k0 k1 k2 k3 k4 k2' k3' q2 q3 q4 q4' q5 q6 q7 n0 n1 hg hn2
  have hte : Tok.cs ⟨14, ⟨#[]⟩, la + 1, ll + 1, 0⟩ = [.int .i64 14, .string ⟨#[]⟩, .int .i64 ((la : Int) + 1), .int .i64 ((ll : Int) + 1), .int .i64 0] := rfl
  have HTE := Lib.hid hte
  clear hte
  generalize w.alloc (.cells #[.int .i64 14, .string ⟨#[]⟩, .int .i64 ((la : Int) + 1), .int .i64 ((ll : Int) + 1), .int .i64 0] 32) = W0 at *
  generalize w.heap.size = bx at *
  go_loopg [] s.regs.length (fun gh wr => ∃ (o : List Tok) (rg : List Reg), rg ≠ [] ∧ gh = rg.length ∧ LR (fun b => X b ∨ b = bx) wr yb (.slice (some ⟨g, 0, none⟩) (n + 1) cap) ⟨o, rg, s.first⟩ ∧ KX (fun b => X b ∨ b = bx) W0 wr ∧
      clLoop ⟨14, ⟨#[]⟩, la + 1, ll + 1, 0⟩ rg o = clLoop ⟨14, ⟨#[]⟩, la + 1, ll + 1, 0⟩ s.regs s.out ∧ o.length + rg.length = s.out.length + s.regs.length)
  case atStart => exact ⟨s.out, s.regs, HR.out, rfl, HL0.out, KX.refl _ _, rfl, rfl⟩
  case round =>
    obtain ⟨o, rg, hne, hgh, hL, hK, hO, hLen⟩ := hrel
    obtain ⟨⟨rm, rw_, ri⟩, rs, rfl⟩ : ∃ r rs, rg = r :: rs := by
      cases rg with
      | nil => exact absurd rfl hne
      | cons r rs => exact ⟨r, rs, rfl⟩
    have CI := Lib.hid (indented_any _ wr yb _ _ hL (by have := HN.out; simp; simp at hLen; omega))
    have HL := Lib.hid hL
    have HK := Lib.hid hK
    have HO := Lib.hid hO
    have HG := Lib.hid hgh
    have HLEN := Lib.hid hLen
    clear hL hK hO hgh hLen hne
    by_cases hi : indB (⟨rm, rw_, ri⟩ :: rs) = true
    · obtain ⟨r2, rs', rfl⟩ : ∃ r2 rs', rs = r2 :: rs' := by
        cases rs with
        | nil => simp [indB] at hi
        | cons r2 rs' => exact ⟨r2, rs', rfl⟩
      have hem : rm.toList = [] := by simpa [indB] using hi
      simp only [hi] at CI
      have HEM := Lib.hid hem
      clear hi hem
      go_wp2_with fail
      refine CI.out.mono ?_
      rintro e w2 ⟨rfl, hB⟩
      have hK2 := HK.out.trans (KX.below hB HL.out.lt)
      have hbx := hK2.bl (.inr rfl) HBL.out
      rw [HTE.out] at hbx
      have k0 : w2.cell? ⟨bx, 0, none⟩ = some (.int .i64 14) := hbx.cell 0
      have k1 : w2.cell? ⟨bx, 1, none⟩ = some (.string ⟨#[]⟩) := hbx.cell 1
      have k2 : w2.cell? ⟨bx, 2, none⟩ = some (.int .i64 ((la : Int) + 1)) := hbx.cell 2
      have k3 : w2.cell? ⟨bx, 3, none⟩ = some (.int .i64 ((ll : Int) + 1)) := hbx.cell 3
      have k4 : w2.cell? ⟨bx, 4, none⟩ = some (.int .i64 0) := hbx.cell 4
      have cd := outdent_any _ w2 yb _ _ ⟨14, ⟨#[]⟩, la + 1, ll + 1, 0⟩ ⟨rm, rw_, ri⟩ (r2 :: rs') (HL.out.keep hB) rfl (by have h1 := HN.out; have h2 := HLEN.out; simp at h2 ⊢; omega) (by have h1 := HN.out; have h2 := HLEN.out; simp at h2 ⊢; omega)
      rw [HTE.out] at cd
      have CD := Lib.hid cd
      have HK2 := Lib.hid hK2
      clear cd hB hK2 CI hbx
      go_wp2_with (go_at_call 66; refine CD.out.mono ?_; rintro e w3 ⟨rfl, hL3, hK3⟩)
      go_roundg (r2 :: rs').length
      case rel =>
        refine ⟨_, _, by simp, rfl, hL3, HK2.out.trans hK3, ?_, ?_⟩
        · rw [← HO.out]; simp [clLoop, HEM.out]
        · have := HLEN.out; simp at this ⊢; omega
      case measure => rw [HG.out]; simp
    · have hi' : indB (⟨rm, rw_, ri⟩ :: rs) = false := by simpa using hi
      simp only [hi'] at CI
      have hstop : clLoop ⟨14, ⟨#[]⟩, la + 1, ll + 1, 0⟩ (⟨rm, rw_, ri⟩ :: rs) o = (o, ⟨rm, rw_, ri⟩ :: rs) := by
        cases rs with
        | nil => rfl
        | cons r2 rs => simp [indB] at hi'; simp [clLoop, hi']
      have HS := Lib.hid hstop
      clear hi hi' hstop
      go_wp2_with fail
      refine CI.out.mono ?_
      rintro e W ⟨rfl, hB⟩
      have hK2 := HK.out.trans (KX.below hB HL.out.lt)
      have hbx := hK2.bl (.inr rfl) HBL.out
      have hL := HL.out.keep hB
      have HK2 := Lib.hid hK2
      clear hB hK2 CI
      cases rs with
      | cons r2 rs' =>
        have hv : endF ts s = .error (ri, 27) := by unfold endF; rw [HST.out, ← HO.out, HS.out]
        have HV := Lib.hid hv
        have c2 : ∃ a c, W.cell? ⟨yb, 2, none⟩ = some (.slice a (rs'.length + 1 + 1) c) := by
          obtain ⟨vo, vr, h1, h2, h3, h4⟩ := hL
          obtain ⟨a, c, rfl⟩ := row_len h3
          exact ⟨a, c, h1.cell 2⟩
        obtain ⟨va, vc, c2⟩ := c2
        have cj := inner_any _ W yb _ _ ⟨rm, rw_, ri⟩ (r2 :: rs') hL rfl (by have h1 := HN.out; have h2 := HLEN.out; simp at h2 ⊢; omega)
        simp only [Reg.cs] at cj
        have CJ := Lib.hid cj
        have HL2 := Lib.hid hL
        have hf2 := fld2 rm rw_ ri
        clear hv cj hL hbx
        generalize rs'.length = m at *
        have hm : (1 : Int) < (m : Int) + 1 + 1 := by omega
        go_wp2_with (first | (go_at_call 58; refine CJ.out.mono ?_; rintro e W3 ⟨rfl, rfl⟩) | (go_at_call 14; refine (fail_any _ _ _).mono ?_; rintro e W4 ⟨rfl, rfl⟩))
        rw [HV.out]
        exact ⟨rfl, rfl, HKW.out.trans ((HK2.out.mono (fun _ h => .inl h)).trans (KX.below ((Below.refl _ _).alloc (Nat.le_refl _) _).drew (fun k hk => HL2.out.lt k (.inl hk))))⟩
      | nil =>
        have hv : endF ts s = .ok { s with out := o ++ [⟨14, ⟨#[]⟩, la + 1, ll + 1, 0⟩], regs := [⟨rm, rw_, ri⟩] } := by unfold endF; rw [HST.out, ← HO.out, HS.out]
        have HV := Lib.hid hv
        have c2 : ∃ a c, W.cell? ⟨yb, 2, none⟩ = some (.slice a 1 c) := by
          obtain ⟨vo, vr, h1, h2, h3, h4⟩ := hL
          obtain ⟨a, c, rfl⟩ := row_len h3
          exact ⟨a, c, h1.cell 2⟩
        obtain ⟨va, vc, c2⟩ := c2
        obtain ⟨s1, hs1⟩ : ∃ s1 : LS, s1 = { s with out := o, regs := [⟨rm, rw_, ri⟩] } := ⟨_, rfl⟩
        have hl1 : s1.out.length < 4000000 := by rw [hs1]; have h1 := HN.out; have h2 := HLEN.out; simp at h2 ⊢; omega
        rw [show (⟨o, [⟨rm, rw_, ri⟩], s.first⟩ : LS) = s1 from hs1.symm] at hL
        have HS1 := Lib.hid hs1
        clear hv hs1
        go_wp2_with fail
        clear c2
        have hpc : ((14 : Nat) : Int) = 14 := rfl
        clear hpc
        obtain ⟨vo, vr, h1, h2, h3, h4⟩ := hL
        obtain ⟨i0, hi0, hz0, hz1, hz2⟩ := info_parts Tryd.info32
        have c1 : W.cell? ⟨yb, 1, none⟩ = some vo := h1.cell 1
        have f2 : ∀ o : Obj, (W.alloc o).frozen? ⟨yb, 1, none⟩ = false := fun o => (h1.alloc o).froz 1
        have b0 : W.cell? ⟨bx, 0, none⟩ = some (.int .i64 14) := hbx.cell 0
        have b1 : W.cell? ⟨bx, 1, none⟩ = some (.string ⟨#[]⟩) := hbx.cell 1
        have b2 : W.cell? ⟨bx, 2, none⟩ = some (.int .i64 ((la : Int) + 1)) := hbx.cell 2
        have b3 : W.cell? ⟨bx, 3, none⟩ = some (.int .i64 ((ll : Int) + 1)) := hbx.cell 3
        have b4 : W.cell? ⟨bx, 4, none⟩ = some (.int .i64 0) := hbx.cell 4
        have ly := h1.lt
        have lb := hbx.lt
        have ao := Bl.row_apart h2 h1 (by decide)
        have ab : vo.ownBlock ≠ some bx := (h4 bx (.inr rfl)).2.2.1
        have HBX := Lib.hid hbx
        clear hbx
        have hS : (fun w' : World => w'.cell? ⟨yb, 1, none⟩ = some vo ∧ w'.cell? ⟨bx, 0, none⟩ = some (.int .i64 14) ∧ w'.cell? ⟨bx, 1, none⟩ = some (.string ⟨#[]⟩) ∧ w'.cell? ⟨bx, 2, none⟩ = some (.int .i64 ((la : Int) + 1)) ∧ w'.cell? ⟨bx, 3, none⟩ = some (.int .i64 ((ll : Int) + 1)) ∧ w'.cell? ⟨bx, 4, none⟩ = some (.int .i64 0)) W.drew := ⟨c1, b0, b1, b2, b3, b4⟩
        refine anyC_region (c := 10) (S := fun w' : World => w'.cell? ⟨yb, 1, none⟩ = some vo ∧ w'.cell? ⟨bx, 0, none⟩ = some (.int .i64 14) ∧ w'.cell? ⟨bx, 1, none⟩ = some (.string ⟨#[]⟩) ∧ w'.cell? ⟨bx, 2, none⟩ = some (.int .i64 ((la : Int) + 1)) ∧ w'.cell? ⟨bx, 3, none⟩ = some (.int .i64 ((ll : Int) + 1)) ∧ w'.cell? ⟨bx, 4, none⟩ = some (.int .i64 0)) (by kernel_rfl) ?_
        refine anyC_take0 (i := 0) (v := ?_) (some 49) (by rfl) rfl (by kernel_rfl) (by kernel_rfl) (by kernel_rfl) (fun _ _ _ h => h) (Or.inl ⟨by rfl, ?_⟩) (by decide) (Or.inr (by assumption)) ?_
        rotate_left
        · (intro w; go_simp; try with_reducible rfl)
        (try simp only [Act.put, List.setIfInBounds_toArray, List.set_cons_zero, List.set_cons_succ])
        refine anyC_take0 (i := 1) (v := ?_) (some 50) (by rfl) rfl (by kernel_rfl) (by kernel_rfl) (by kernel_rfl) (fun _ _ _ h => h) (Or.inl ⟨by rfl, ?_⟩) (by decide) (Or.inr (by assumption)) ?_
        rotate_left
        · (intro w; go_simp; try with_reducible rfl)
        (try simp only [Act.put, List.setIfInBounds_toArray, List.set_cons_zero, List.set_cons_succ])
        refine anyC_take0 (i := 2) (v := ?_) (some 51) (by rfl) rfl (by kernel_rfl) (by kernel_rfl) (by kernel_rfl) (fun _ _ _ h => h) (Or.inl ⟨by rfl, ?_⟩) (by decide) (Or.inr (by assumption)) ?_
        rotate_left
        · (intro w; go_simp; try with_reducible rfl)
        (try simp only [Act.put, List.setIfInBounds_toArray, List.set_cons_zero, List.set_cons_succ])
        refine anyC_take0 (i := 3) (v := ?_) (some 52) (by rfl) rfl (by kernel_rfl) (by kernel_rfl) (by kernel_rfl) (fun _ _ _ h => h) (Or.inl ⟨by rfl, ?_⟩) (by decide) (Or.inr (by assumption)) ?_
        rotate_left
        · (intro w; go_simp; try with_reducible rfl)
        (try simp only [Act.put, List.setIfInBounds_toArray, List.set_cons_zero, List.set_cons_succ])
        refine anyC_take (i := 4) (v := ?_) (some 53) (by rfl) rfl (by kernel_rfl) (by kernel_rfl) (by kernel_rfl) (by kernel_rfl) (by kernel_rfl) (fun _ _ _ h => h) (Or.inl ⟨by rfl, ?_⟩) (by assumption) ?_
        rotate_left
        · (intro w hSw; (try dsimp only at hSw); go_simp; try with_reducible rfl)
        (try simp only [Act.put, List.setIfInBounds_toArray, List.set_cons_zero, List.set_cons_succ])
        refine anyC_take (i := 5) (v := ?_) (some 54) (by rfl) rfl (by kernel_rfl) (by kernel_rfl) (by kernel_rfl) (by kernel_rfl) (by kernel_rfl) (fun _ _ _ h => h) (Or.inl ⟨by rfl, ?_⟩) (by assumption) ?_
        rotate_left
        · (intro w hSw; (try dsimp only at hSw); go_simp; try with_reducible rfl)
        (try simp only [Act.put, List.setIfInBounds_toArray, List.set_cons_zero, List.set_cons_succ])
        refine anyC_one (i := 6) (by kernel_rfl) rfl (by rfl) (fun K hK => ?_)
        go_simp
        refine hK.out _ _ (.inr (.inr ?_)) ?_
        · exact ⟨cell_alloc1 c1 _, cell_alloc1 b0 _, cell_alloc1 b1 _, cell_alloc1 b2 _, cell_alloc1 b3 _, cell_alloc1 b4 _⟩
        clear hK K hS
        refine anyC_one (i := 7) (by kernel_rfl) rfl (by rfl) (fun K hK => ?_)
        refine wp_append_lies _ _ _ _ (by rfl) 0 32 i0 _ 5 48 Tryd.underlying23 hi0 hz0 hz1 hz2 rfl (by omega) vo s1.out.length (tcs s1.out) (by rfl) ((h2.alloc _).drew) ⟨W.heap.size, 0, none⟩ 1 1 (Tok.cs ⟨14, ⟨#[]⟩, la + 1, ll + 1, 0⟩) (by rfl) (by rfl) (World.news_of_block (cs := (Tok.cs ⟨14, ⟨#[]⟩, la + 1, ll + 1, 0⟩).toArray) (t := 32) (fr := (0, 0)) (heap1 _ _)) (Tok.one _) (by omega) (by unfold maxLen; omega) (by omega) (Nat.zero_le _) (W.heap.size + 1) (by simp) ?_
        intro gg cap w1 hown1 hgrow hat hlt'
        have hS1 : (fun w' : World => w'.cell? ⟨yb, 1, none⟩ = some vo ∧ w'.cell? ⟨bx, 0, none⟩ = some (.int .i64 14) ∧ w'.cell? ⟨bx, 1, none⟩ = some (.string ⟨#[]⟩) ∧ w'.cell? ⟨bx, 2, none⟩ = some (.int .i64 ((la : Int) + 1)) ∧ w'.cell? ⟨bx, 3, none⟩ = some (.int .i64 ((ll : Int) + 1)) ∧ w'.cell? ⟨bx, 4, none⟩ = some (.int .i64 0)) w1 := by
          refine ⟨?_, ?_, ?_, ?_, ?_, ?_⟩
          · rw [hgrow.cell_far _ (by simp; omega) (Ne.symm ao)]; exact cell_alloc1 c1 _
          · rw [hgrow.cell_far _ (by simp; omega) (Ne.symm ab)]; exact cell_alloc1 b0 _
          · rw [hgrow.cell_far _ (by simp; omega) (Ne.symm ab)]; exact cell_alloc1 b1 _
          · rw [hgrow.cell_far _ (by simp; omega) (Ne.symm ab)]; exact cell_alloc1 b2 _
          · rw [hgrow.cell_far _ (by simp; omega) (Ne.symm ab)]; exact cell_alloc1 b3 _
          · rw [hgrow.cell_far _ (by simp; omega) (Ne.symm ab)]; exact cell_alloc1 b4 _
        have k1 : w1.cell? ⟨yb, 1, none⟩ = some vo := hS1.1
        have e1 : w1.frozen? ⟨yb, 1, none⟩ = false := by
          rw [hgrow.frozen_far _ (by simp; omega) (Ne.symm ao)]; exact f2 _
        refine hK.out _ _ (.inr (.inr hS1)) ?_
        clear hK K
        (try simp only [Act.put, List.setIfInBounds_toArray, List.set_cons_zero, List.set_cons_succ])
        refine anyC_take0 (i := 8) (v := ?_) (some 57) (by rfl) rfl (by kernel_rfl) (by kernel_rfl) (by kernel_rfl) (fun _ _ _ h => h) (Or.inl ⟨by rfl, ?_⟩) (by decide) (Or.inr (by assumption)) ?_
        rotate_left
        · (intro w; go_simp; try with_reducible rfl)
        (try simp only [Act.put, List.setIfInBounds_toArray, List.set_cons_zero, List.set_cons_succ])
        refine anyC_take0 (i := 9) (v := ?_) (some 58) (by rfl) rfl (by kernel_rfl) (by kernel_rfl) (by kernel_rfl) (fun _ _ _ h => h) (Or.inl ⟨by rfl, ?_⟩) (by decide) (Or.inr (by assumption)) ?_
        rotate_left
        · (intro w; go_simp; try with_reducible rfl)
        (try simp only [Act.put, List.setIfInBounds_toArray, List.set_cons_zero, List.set_cons_succ])
        refine anyC_one (i := 10) (by kernel_rfl) rfl (by rfl) (fun K hK => ?_)
        go_simp
        refine hK.out _ _ (.inl rfl) ?_
        apply anyC_end
        rotate_left
        · kernel_rfl
        go_wp2
        go_end0
        obtain ⟨r1, r2⟩ := LR.put_close (X := fun b => X b ∨ b = bx) (t := ⟨14, ⟨#[]⟩, la + 1, ll + 1, 0⟩) (H := W.heap.size + 1) h1 h2 h3 h4 ((Below.refl W.heap.size W).alloc (Nat.le_refl _) (.cells (Tok.cs ⟨14, ⟨#[]⟩, la + 1, ll + 1, 0⟩).toArray 32)).drew hgrow hown1 hat (by omega)
        have e1 := HS1.out
        subst e1
        rw [HV.out]
        exact ⟨rfl, r1.mono (fun _ hk => .inl hk), HKW.out.trans ((HK2.out.mono (fun _ hk => .inl hk)).trans (r2.mono (fun _ hk => .inl hk)))⟩
end Go.Proofs.YtpgcklpcohcchaaDoor
