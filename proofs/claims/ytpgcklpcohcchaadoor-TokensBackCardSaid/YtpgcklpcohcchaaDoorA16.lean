/- What the beginning of a line does to the layout. -/
import Derived.Test.YtpgcklpcohcchaaDoorA14
import Derived.Test.YtpgcklpcohcchaaDoorA15
namespace Go.Proofs.YtpgcklpcohcchaaDoor
open Go Go.RowKit

/-- What the beginning of a line does to the layout: the token t has the number i, u stands in front of it. -/
def lineF1 (i : Nat) (u t : Tok) (r : Reg) (s : LS) : Except (Nat × Nat) LS :=
  if opensT u && decide (r.width < t.col) then
    (if s.regs.length = 64 then .error (i, 8) else .ok { s with out := s.out ++ [t.as 12], regs := ⟨⟨#[]⟩, t.col, i⟩ :: s.regs })
  else outsF t s
def lineF2 (ts : List Tok) (i : Nat) (u t : Tok) (s : LS) : LS :=
  if !contT ts i t && !unfT u then { s with out := s.out ++ [t.as 11] } else s
def lineF (ts : List Tok) (i : Nat) (u t : Tok) (s : LS) : Except (Nat × Nat) LS :=
  match s.regs with
  | [] => .ok s
  | r :: _ =>
    if r.mark.toList == [40] || r.mark.toList == [91] then .ok s
    else match lineF1 i u t r s with
      | .error f => .error f
      | .ok s => .ok (lineF2 ts i u t s)

theorem outLoop_len (t : Tok) : ∀ (rg : List Reg) (o : List Tok) (c : Bool), (outLoop t rg o c).1.length + (outLoop t rg o c).2.1.length = o.length + rg.length := by
  intro rg
  induction rg with
  | nil => intro o c; rfl
  | cons r rs ih =>
    intro o c
    cases rs with
    | nil => rfl
    | cons r2 rs =>
      unfold outLoop
      split
      · rw [ih]; simp; omega
      · rfl
theorem outsF_len {t : Tok} {s s1 : LS} (h : outsF t s = .ok s1) : s1.out.length + s1.regs.length = s.out.length + s.regs.length := by
  have hl := outLoop_len t s.regs s.out false
  unfold outsF at h
  revert h hl
  generalize outLoop t s.regs s.out false = x
  obtain ⟨o, rg, c⟩ := x
  intro h hl
  cases rg with
  | nil => simp only [Except.ok.injEq] at h; rw [← h]; exact hl
  | cons r rs =>
    simp only at h
    split at h
    · cases h
    · simp only [Except.ok.injEq] at h; rw [← h]; exact hl

/-- What is known between the calls of the method. -/
def LnS (X : Nat → Prop) (w W : World) (yb : Nat) (lv : Value) (s : LS) (ts : List Tok) (bi bu bt : Nat) (r : List Value) (u t : List Value) : Prop :=
  LR (fun b => ((X b ∨ b = bi) ∨ b = bu) ∨ b = bt) W yb lv s ∧ Bl W bi 75 r ∧ Bl W bu 32 u ∧ Bl W bt 32 t ∧ KX X w W ∧ LL (fun b => ((X b ∨ b = bi) ∨ b = bu) ∨ b = bt) W lv ts
theorem LnS.below {X : Nat → Prop} {w W W' : World} {yb : Nat} {lv : Value} {s : LS} {ts : List Tok} {bi bu bt : Nat} {r u t : List Value} (h : LnS X w W yb lv s ts bi bu bt r u t) (hb : Below W.heap.size W W') : LnS X w W' yb lv s ts bi bu bt r u t := by
  obtain ⟨h1, h2, h3, h4, h5, h6⟩ := h
  exact ⟨h1.keep hb, h2.below hb h2.lt, h3.below hb h3.lt, h4.below hb h4.lt, h5.trans (KX.below hb (fun k hk => h1.lt k (.inl (.inl (.inl hk))))), h6.below hb⟩
theorem LnS.step {X : Nat → Prop} {w W W' : World} {yb : Nat} {lv : Value} {s s' : LS} {ts : List Tok} {bi bu bt : Nat} {r u t : List Value} (h : LnS X w W yb lv s ts bi bu bt r u t) (hl : LR (fun b => ((X b ∨ b = bi) ∨ b = bu) ∨ b = bt) W' yb lv s')
    (hk : KX (fun b => ((X b ∨ b = bi) ∨ b = bu) ∨ b = bt) W W') : LnS X w W' yb lv s' ts bi bu bt r u t := by
  obtain ⟨h1, h2, h3, h4, h5, h6⟩ := h
  exact ⟨hl, hk.bl (.inl (.inl (.inr rfl))) h2, hk.bl (.inl (.inr rfl)) h3, hk.bl (.inr rfl) h4, h5.trans (hk.mono (fun _ hh => .inl (.inl (.inl hh)))), h6.kx hk⟩
theorem LnS.two {X : Nat → Prop} {w W : World} {yb : Nat} {lv : Value} {s : LS} {ts : List Tok} {bi : Nat} {r : List Value} {u t : Tok} (first : Bool) (h1 : LR (fun b => X b ∨ b = bi) W yb lv s) (h2 : Bl W bi 75 r) (h5 : KX X w W) (h6 : LL (fun b => X b ∨ b = bi) W lv ts) :
    LnS X w ((W.alloc (.cells (if first then u.cs.toArray else t.cs.toArray) 32)).alloc (.cells (if first then t.cs.toArray else u.cs.toArray) 32)).drew yb lv s ts bi (if first then W.heap.size else W.heap.size + 1) (if first then W.heap.size + 1 else W.heap.size) r u.cs t.cs := by
  have hb : ∀ o p : Obj, Below W.heap.size W ((W.alloc o).alloc p).drew := fun o p => (((Below.refl W.heap.size W).alloc (Nat.le_refl _) o).alloc (by simp) p).drew
  have n1 : ∀ (a b : List Value), Bl ((W.alloc (.cells a.toArray 32)).alloc (.cells b.toArray 32)).drew W.heap.size 32 a := fun a b => ((Bl.new W 32 a).alloc _).drew
  have n2 : ∀ (a b : List Value), Bl ((W.alloc (.cells a.toArray 32)).alloc (.cells b.toArray 32)).drew (W.heap.size + 1) 32 b := fun a b => by
    simpa using (Bl.new (W.alloc (.cells a.toArray 32)) 32 b).drew
  have lb : ∀ o p : Obj, W.heap.size + 1 < ((W.alloc o).alloc p).drew.heap.size := fun o p => by
    show _ < ((W.alloc o).alloc p).heap.size
    simp
  have step : ∀ (o p : Obj) (g g' : Nat), (g = W.heap.size ∧ g' = W.heap.size + 1) ∨ (g = W.heap.size + 1 ∧ g' = W.heap.size) → LR (fun b => ((X b ∨ b = bi) ∨ b = g) ∨ b = g') ((W.alloc o).alloc p).drew yb lv s := by
    intro o p g g' hg
    have l1 := lb o p
    obtain ⟨vo, vr, a1, a2, a3, a4⟩ := h1
    refine ⟨vo, vr, a1.grown (grown_of_below (hb o p)) (by simp), row_keep a2 (hb o p), row_keep a3 (hb o p), fun b hX => ?_⟩
    have fresh : ∀ b, W.heap.size ≤ b → b < ((W.alloc o).alloc p).drew.heap.size → b < ((W.alloc o).alloc p).drew.heap.size ∧ b ≠ yb ∧ vo.ownBlock ≠ some b ∧ vr.ownBlock ≠ some b := by
      intro b l2 l3
      refine ⟨l3, ?_, ?_, ?_⟩
      · have := a1.lt; omega
      · intro e; have := (a2.lt _ e).2; omega
      · intro e; have := (a3.lt _ e).2; omega
    rcases hX with (hX | hX) | hX
    · obtain ⟨k1, k2, k3, k4⟩ := a4 b hX
      exact ⟨by omega, k2, k3, k4⟩
    · exact fresh b (by omega) (by omega)
    · exact fresh b (by omega) (by omega)
  cases first with
  | true => exact ⟨step _ _ _ _ (.inl ⟨rfl, rfl⟩), h2.below (hb _ _) h2.lt, n1 _ _, n2 _ _, h5.trans (KX.below (hb _ _) (fun k hk => h1.lt k (.inl hk))), (h6.below (hb _ _)).mono (fun _ h => .inl (.inl h))⟩
  | false => exact ⟨step _ _ _ _ (.inr ⟨rfl, rfl⟩), h2.below (hb _ _) h2.lt, n2 _ _, n1 _ _, h5.trans (KX.below (hb _ _) (fun k hk => h1.lt k (.inl hk))), (h6.below (hb _ _)).mono (fun _ h => .inl (.inl h))⟩

/-- Whether a token goes on with a statement, whatever it is. -/
theorem cont_any (X : Nat → Prop) (w : World) (yb : Nat) (lv : Value) (s : LS) (ts : List Tok) (i : Nat) (t : Tok) (h : LR X w yb lv s) (hl : LL X w lv ts) (hi : ts[i]? = some t) (hn : ts.length ≤ 1000000)
    (hp : ∀ n, ts[i + 1]? = some n → t.pos ≤ n.pos ∧ n.pos ≤ 1000000 ∧ t.text.size ≤ 1000000) :
    Calls Tryd.prog 62 #[.pointer (some ⟨yb, 0, none⟩), .int .i64 i] w fun e w' => e = .returned (.bool (contT ts i t)) ∧ Below w.heap.size w w' := by
  by_cases hk : t.kind = 2
  · cases hi1 : ts[i + 1]? with
    | none =>
      have h1 := List.getElem?_eq_none_iff.1 hi1
      have h2 := (List.getElem?_eq_some_iff.1 hi).1
      exact cont_last X w yb lv s ts i t h hl hi hk hn (by omega)
    | some n =>
      obtain ⟨p1, p2, p3⟩ := hp n hi1
      exact cont_op X w yb lv s ts i t n h hl hi hk hn hi1 p1 p2 p3
  · exact cont_plain X w yb lv s ts i t h hl hi hk hn

set_option maxRecDepth 100000 in
set_option maxHeartbeats 12800000 in
theorem line_any (X : Nat → Prop) (w : World) (yb : Nat) (lv : Value) (s : LS) (ts : List Tok) (j : Nat) (u t : Tok) (h : LR X w yb lv s) (hl : LL X w lv ts) (hj : ts[j]? = some u) (hi : ts[j + 1]? = some t) (hn' : ts.length ≤ 1000000) (hn : s.out.length + s.regs.length < 3999000) (hre : s.regs ≠ []) (hreg : s.regs.length ≤ 64)
    (hp : ∀ n, ts[j + 1 + 1]? = some n → t.pos ≤ n.pos ∧ n.pos ≤ 1000000 ∧ t.text.size ≤ 1000000) :
    Calls Tryd.prog 40 #[.pointer (some ⟨yb, 0, none⟩), .int .i64 (j + 1 : Nat)] w (Res X w yb lv (lineF ts (j + 1) u t s)) := by
  have hlt : j + 1 < ts.length := (List.getElem?_eq_some_iff.1 hi).1
  obtain ⟨g, cap, hlv, hg, m0, m1, m2, m3, m4⟩ := hl.tok hj
  obtain ⟨g', cap', hlv', _, k0, k1, k2, k3, k4⟩ := hl.tok hi
  rw [hlv] at hlv'
  simp only [Value.slice.injEq, Option.some.injEq, Addr.mk.injEq, true_and, and_true] at hlv'
  obtain ⟨rfl, rfl⟩ := hlv'
  obtain ⟨⟨rm, rw_, ri⟩, rs, hrs⟩ : ∃ r rs, s.regs = r :: rs := by
    cases hr : s.regs with
    | nil => exact absurd hr hre
    | cons r rs => exact ⟨r, rs, rfl⟩
  have c0 : w.cell? ⟨yb, 0, none⟩ = some lv := by
    obtain ⟨vo, vr, h1, _⟩ := h
    exact h1.cell 0
  have cj := inner_any X w yb lv s ⟨rm, rw_, ri⟩ rs h hrs (by have := congrArg List.length hrs; simp at this; omega)
  simp only [Reg.cs] at cj
  have CJ := Lib.hid cj
  obtain ⟨uk, ux, ua, ul, uc⟩ := u
  obtain ⟨tk, tx, ta, tl, tc⟩ := t
  simp only at m0 m1 m2 m3 m4 k0 k1 k2 k3 k4
  subst hlv
  have HL := Lib.hid h
  have HLL := Lib.hid hl
  have HI := Lib.hid hi
  have HRS := Lib.hid hrs
  have HN := Lib.hid hn
  have HREG := Lib.hid hreg
  have hcont : ∀ (Y : Nat → Prop) (W : World) (s1 : LS), LR Y W yb (.slice (some ⟨g, 0, none⟩) ts.length cap) s1 → LL Y W (.slice (some ⟨g, 0, none⟩) ts.length cap) ts → Calls Tryd.prog 62 #[.pointer (some ⟨yb, 0, none⟩), .int .i64 (j + 1 : Nat)] W fun e w' => e = .returned (.bool (contT ts (j + 1) ⟨tk, tx, ta, tl, tc⟩)) ∧ Below W.heap.size W w' :=
    fun Y W s1 h1 h2 => cont_any Y W yb _ s1 ts (j + 1) _ h1 h2 hi hn' hp
  have CONT := Lib.hid hcont
  have q2 : (0 : Int) ≤ (j : Int) := by omega
  have q3 : (j : Int) < (ts.length : Int) := by omega
  have q4 : IntKind.i64.wrap ((j : Int) + 1 - 1) = (j : Int) := by rw [IntKind.wrap_i64]; omega
  have q4' : IntKind.i64.wrap (j : Int) = (j : Int) := by rw [IntKind.wrap_i64]; omega
  have q5 : (0 : Int) ≤ (j : Int) + 1 := by omega
  have q6 : (j : Int) + 1 < (ts.length : Int) := by omega
  have q7 : ((j : Int) + 1).toNat = j + 1 := by omega
  have HN' := Lib.hid hn'
  clear h hl hj hi hrs hn hre cj hlt hn' hreg hp hcont
  generalize hlen : ts.length = len at *
  have HLEN0 := Lib.hid hlen
  clear hlen
  have w2c := cell_alloc2 c0
  have z0 := cell_alloc2 k0
  have z1 := cell_alloc2 k1
  have z2 := cell_alloc2 k2
  have z3 := cell_alloc2 k3
  have z4 := cell_alloc2 k4
  have y0 := cell_alloc2 m0
  have y1 := cell_alloc2 m1
  have y2 := cell_alloc2 m2
  have y3 := cell_alloc2 m3
  have y4 := cell_alloc2 m4
  by_cases hb : (rm.toList == [40] || rm.toList == [91]) = true
  · have hx : lineF ts (j + 1) ⟨uk, ux, ua, ul, uc⟩ ⟨tk, tx, ta, tl, tc⟩ s = .ok s := by unfold lineF; rw [HRS.out]; simp only [hb, if_true]
    have HX := Lib.hid hx
    have HB := Lib.hid hb
    clear hx hb
    go_enter Tryd.func40, Tryd.ntmps40
    go_wp2_with (go_at_call 58; refine CJ.out.mono ?_; rintro e w2 ⟨rfl, rfl⟩)
    all_goals first
      | (exfalso
         have hP := HB.out
         simp_all
         done)
      | skip
    all_goals
      rw [HX.out]
      have hbl := (((Below.refl w.heap.size w).alloc (Nat.le_refl _) (.cells #[.string rm, .int .i64 rw_, .int .i64 ri] 75)).alloc (by simp) (.cells #[.string rm, .int .i64 rw_, .int .i64 ri] 75)).drew
      refine bodyPost_ret (results_none rfl _ _ _) rfl ⟨rfl, HL.out.keep hbl, KX.below hbl HL.out.lt⟩
  · have HB := Lib.hid hb
    have hbf : (rm.toList == [40] || rm.toList == [91]) = false := by simpa using hb
    have HBF := Lib.hid hbf
    clear hb hbf
    go_enter Tryd.func40, Tryd.ntmps40
    go_wp2_with (go_at_call 58; refine CJ.out.mono ?_; rintro e w2 ⟨rfl, rfl⟩)
    all_goals first
      | (exfalso
         have hP := HB.out
         simp_all
         done)
      | skip
    have hbl := (((Below.refl w.heap.size w).alloc (Nat.le_refl _) (.cells #[.string rm, .int .i64 rw_, .int .i64 ri] 75)).alloc (by simp) (.cells #[.string rm, .int .i64 rw_, .int .i64 ri] 75)).drew
    have hLi := HL.out.more hbl (w.heap.size + 1) (by omega) (by simp)
    have hbi : Bl ((w.alloc (.cells #[.string rm, .int .i64 rw_, .int .i64 ri] 75)).alloc (.cells #[.string rm, .int .i64 rw_, .int .i64 ri] 75)).drew (w.heap.size + 1) 75 [.string rm, .int .i64 rw_, .int .i64 ri] := by
      simpa using (Bl.new (w.alloc (.cells #[.string rm, .int .i64 rw_, .int .i64 ri] 75)) 75 [.string rm, .int .i64 rw_, .int .i64 ri]).drew
    have hKw := KX.below hbl HL.out.lt
    have hLL := (HLL.out.below hbl).mono (Y := fun b => X b ∨ b = w.heap.size + 1) (fun _ h => .inl h)
    replace w2c := w2c (.cells #[.string rm, .int .i64 rw_, .int .i64 ri] 75) (.cells #[.string rm, .int .i64 rw_, .int .i64 ri] 75)
    replace z0 := z0 (.cells #[.string rm, .int .i64 rw_, .int .i64 ri] 75) (.cells #[.string rm, .int .i64 rw_, .int .i64 ri] 75)
    replace z1 := z1 (.cells #[.string rm, .int .i64 rw_, .int .i64 ri] 75) (.cells #[.string rm, .int .i64 rw_, .int .i64 ri] 75)
    replace z2 := z2 (.cells #[.string rm, .int .i64 rw_, .int .i64 ri] 75) (.cells #[.string rm, .int .i64 rw_, .int .i64 ri] 75)
    replace z3 := z3 (.cells #[.string rm, .int .i64 rw_, .int .i64 ri] 75) (.cells #[.string rm, .int .i64 rw_, .int .i64 ri] 75)
    replace z4 := z4 (.cells #[.string rm, .int .i64 rw_, .int .i64 ri] 75) (.cells #[.string rm, .int .i64 rw_, .int .i64 ri] 75)
    replace y0 := y0 (.cells #[.string rm, .int .i64 rw_, .int .i64 ri] 75) (.cells #[.string rm, .int .i64 rw_, .int .i64 ri] 75)
    replace y1 := y1 (.cells #[.string rm, .int .i64 rw_, .int .i64 ri] 75) (.cells #[.string rm, .int .i64 rw_, .int .i64 ri] 75)
    replace y2 := y2 (.cells #[.string rm, .int .i64 rw_, .int .i64 ri] 75) (.cells #[.string rm, .int .i64 rw_, .int .i64 ri] 75)
    replace y3 := y3 (.cells #[.string rm, .int .i64 rw_, .int .i64 ri] 75) (.cells #[.string rm, .int .i64 rw_, .int .i64 ri] 75)
    replace y4 := y4 (.cells #[.string rm, .int .i64 rw_, .int .i64 ri] 75) (.cells #[.string rm, .int .i64 rw_, .int .i64 ri] 75)
    rw [← World.cell?_drew] at w2c z0 z1 z2 z3 z4 y0 y1 y2 y3 y4
    clear c0 k0 k1 k2 k3 k4 m0 m1 m2 m3 m4 CJ hbl
    generalize ((w.alloc (.cells #[.string rm, .int .i64 rw_, .int .i64 ri] 75)).alloc (.cells #[.string rm, .int .i64 rw_, .int .i64 ri] 75)).drew = W at *
    generalize w.heap.size + 1 = bi at *
    have HLI := Lib.hid hLi
    have HBI := Lib.hid hbi
    have HKW := Lib.hid hKw
    have HLLW := Lib.hid hLL
    have n0 := World.new_ne W _ w2c
    have n1 := World.new_ne W _ z0
    clear hLi hbi hKw hLL
    go_region_held3 (fun w' => w'.cell? ⟨yb, 0, none⟩ = some (.slice (some ⟨g, 0, none⟩) len cap) ∧ w'.cell? ⟨g, j * 5, none⟩ = some (.int .i64 uk) ∧ w'.cell? ⟨g, j * 5 + 1, none⟩ = some (.string ux) ∧ w'.cell? ⟨g, j * 5 + 2, none⟩ = some (.int .i64 ua) ∧ w'.cell? ⟨g, j * 5 + 3, none⟩ = some (.int .i64 ul) ∧ w'.cell? ⟨g, j * 5 + 4, none⟩ = some (.int .i64 uc) ∧ w'.cell? ⟨g, (j + 1) * 5, none⟩ = some (.int .i64 tk) ∧ w'.cell? ⟨g, (j + 1) * 5 + 1, none⟩ = some (.string tx) ∧ w'.cell? ⟨g, (j + 1) * 5 + 2, none⟩ = some (.int .i64 ta) ∧ w'.cell? ⟨g, (j + 1) * 5 + 3, none⟩ = some (.int .i64 tl) ∧ w'.cell? ⟨g, (j + 1) * 5 + 4, none⟩ = some (.int .i64 tc))
      (go_keep) (fail)
    · clear q2 q3
      go_wp2_with fail
      have hpk := LnS.two (u := ⟨uk, ux, ua, ul, uc⟩) (t := ⟨tk, tx, ta, tl, tc⟩) true HLI.out HBI.out HKW.out HLLW.out
      simp only [Tok.cs, if_true] at hpk
      have HPK := Lib.hid hpk
      clear hpk
      generalize ((W.alloc (.cells #[.int .i64 uk, .string ux, .int .i64 ua, .int .i64 ul, .int .i64 uc] 32)).alloc (.cells #[.int .i64 tk, .string tx, .int .i64 ta, .int .i64 tl, .int .i64 tc] 32)).drew = W2 at *
      generalize hbb : W.heap.size + 1 = bt at *
      generalize hba : W.heap.size = bu at *
      have co := opens_any ⟨uk, ux, ua, ul, uc⟩ W2
      simp only [Tok.cs] at co
      have CO := Lib.hid co
      have pk := HPK.out
      have fu0 : W2.cell? ⟨bu, 0, none⟩ = some (.int .i64 uk) := pk.2.2.1.cell 0
      have fu1 : W2.cell? ⟨bu, 1, none⟩ = some (.string ux) := pk.2.2.1.cell 1
      have fu2 : W2.cell? ⟨bu, 2, none⟩ = some (.int .i64 ua) := pk.2.2.1.cell 2
      have fu3 : W2.cell? ⟨bu, 3, none⟩ = some (.int .i64 ul) := pk.2.2.1.cell 3
      have fu4 : W2.cell? ⟨bu, 4, none⟩ = some (.int .i64 uc) := pk.2.2.1.cell 4
      have ft0 : W2.cell? ⟨bt, 0, none⟩ = some (.int .i64 tk) := pk.2.2.2.1.cell 0
      have ft1 : W2.cell? ⟨bt, 1, none⟩ = some (.string tx) := pk.2.2.2.1.cell 1
      have ft2 : W2.cell? ⟨bt, 2, none⟩ = some (.int .i64 ta) := pk.2.2.2.1.cell 2
      have ft3 : W2.cell? ⟨bt, 3, none⟩ = some (.int .i64 tl) := pk.2.2.2.1.cell 3
      have ft4 : W2.cell? ⟨bt, 4, none⟩ = some (.int .i64 tc) := pk.2.2.2.1.cell 4
      have fi1 : W2.cell? ⟨bi, 1, none⟩ = some (.int .i64 rw_) := pk.2.1.cell 1
      clear co pk
      by_cases hop : opensT ⟨uk, ux, ua, ul, uc⟩ = true ∧ rw_ < tc
      · obtain ⟨ho, hc⟩ := hop
        simp only [ho] at CO
        have pk3 := HPK.out.below ((Below.refl W2.heap.size W2).alloc (Nat.le_refl _) (.cells #[.int .i64 uk, .string ux, .int .i64 ua, .int .i64 ul, .int .i64 uc] 32))
        have gt0 := cell_alloc1 ft0 (.cells #[.int .i64 uk, .string ux, .int .i64 ua, .int .i64 ul, .int .i64 uc] 32)
        have gt1 := cell_alloc1 ft1 (.cells #[.int .i64 uk, .string ux, .int .i64 ua, .int .i64 ul, .int .i64 uc] 32)
        have gt2 := cell_alloc1 ft2 (.cells #[.int .i64 uk, .string ux, .int .i64 ua, .int .i64 ul, .int .i64 uc] 32)
        have gt3 := cell_alloc1 ft3 (.cells #[.int .i64 uk, .string ux, .int .i64 ua, .int .i64 ul, .int .i64 uc] 32)
        have gt4 := cell_alloc1 ft4 (.cells #[.int .i64 uk, .string ux, .int .i64 ua, .int .i64 ul, .int .i64 uc] 32)
        have gi1 := cell_alloc1 fi1 (.cells #[.int .i64 uk, .string ux, .int .i64 ua, .int .i64 ul, .int .i64 uc] 32)
        have cp := put_any _ _ yb _ s 12 ⟨tk, tx, ta, tl, tc⟩ pk3.1 (by have := HN.out; omega)
        simp only [Tok.cs] at cp
        have CP := Lib.hid cp
        have PK3 := Lib.hid pk3
        have HO := Lib.hid ho
        have HC := Lib.hid hc
        have hc' : (rw_ : Int) < (tc : Int) := by omega
        clear cp pk3 ho
        go_wp2_with (first | (go_at_call 59; refine CO.out.mono ?_; rintro e W3 ⟨rfl, rfl⟩) | (go_at_call 60; fail))
        refine CP.out.mono ?_
        rintro e W4 ⟨rfl, hL4, hK4⟩
        have pk := PK3.out.step hL4 hK4
        have PK4 := Lib.hid pk
        have hu0 : W4.cell? ⟨bu, 0, none⟩ = some (.int .i64 uk) := pk.2.2.1.cell 0
        have hu1 : W4.cell? ⟨bu, 1, none⟩ = some (.string ux) := pk.2.2.1.cell 1
        have hu2 : W4.cell? ⟨bu, 2, none⟩ = some (.int .i64 ua) := pk.2.2.1.cell 2
        have hu3 : W4.cell? ⟨bu, 3, none⟩ = some (.int .i64 ul) := pk.2.2.1.cell 3
        have hu4 : W4.cell? ⟨bu, 4, none⟩ = some (.int .i64 uc) := pk.2.2.1.cell 4
        have ht0 : W4.cell? ⟨bt, 0, none⟩ = some (.int .i64 tk) := pk.2.2.2.1.cell 0
        have ht1 : W4.cell? ⟨bt, 1, none⟩ = some (.string tx) := pk.2.2.2.1.cell 1
        have ht2 : W4.cell? ⟨bt, 2, none⟩ = some (.int .i64 ta) := pk.2.2.2.1.cell 2
        have ht3 : W4.cell? ⟨bt, 3, none⟩ = some (.int .i64 tl) := pk.2.2.2.1.cell 3
        have ht4 : W4.cell? ⟨bt, 4, none⟩ = some (.int .i64 tc) := pk.2.2.2.1.cell 4
        have hi1 : W4.cell? ⟨bi, 1, none⟩ = some (.int .i64 rw_) := pk.2.1.cell 1
        clear hL4 hK4 pk CP CO gt0 gt1 gt2 gt3 gt4 gi1 hc hc'
        by_cases h64 : s.regs.length = 64
        · have cf := open_fail _ W4 yb _ _ ⟨⟨#[]⟩, tc, j + 1⟩ PK4.out.1 h64
          simp only [Reg.cs] at cf
          have CF := Lib.hid cf
          have hv : lineF ts (j + 1) ⟨uk, ux, ua, ul, uc⟩ ⟨tk, tx, ta, tl, tc⟩ s = .error (j + 1, 8) := by
            unfold lineF; rw [HRS.out]; simp only [HBF.out, Bool.false_eq_true, if_false]; unfold lineF1; simp [HO.out, HC.out, h64]
          have HV := Lib.hid hv
          clear cf hv h64
          go_wp2_with fail
          refine CF.out.mono ?_
          rintro e W5 ⟨rfl, rfl⟩
          rw [HV.out]
          exact ⟨rfl, rfl, PK4.out.2.2.2.2.1.trans (KX.below ((Below.refl _ _).alloc (Nat.le_refl _) _) (fun k hk => PK4.out.1.lt k (.inl (.inl (.inl hk)))))⟩
        · have cf := open_ok _ W4 yb _ _ ⟨⟨#[]⟩, tc, j + 1⟩ PK4.out.1 (by have := HREG.out; simp; omega)
          simp only [Reg.cs] at cf
          have CF := Lib.hid cf
          obtain ⟨s1, hs1⟩ : ∃ s1 : LS, s1 = { s with out := s.out ++ [Tok.as ⟨tk, tx, ta, tl, tc⟩ 12], regs := ⟨⟨#[]⟩, tc, j + 1⟩ :: s.regs } := ⟨_, rfl⟩
          have hv : lineF ts (j + 1) ⟨uk, ux, ua, ul, uc⟩ ⟨tk, tx, ta, tl, tc⟩ s = .ok (lineF2 ts (j + 1) ⟨uk, ux, ua, ul, uc⟩ ⟨tk, tx, ta, tl, tc⟩ s1) := by
            unfold lineF; rw [HRS.out]; simp only [HBF.out, Bool.false_eq_true, if_false]; unfold lineF1; simp [HO.out, HC.out, h64, hs1]
          have HVAL := Lib.hid hv
          have HLEN1 : Hid (s1.out.length < 4000000) := by have := HN.out; rw [hs1]; show (s.out ++ [_]).length < _; simp; omega
          have HS1 := Lib.hid hs1
          clear cf hv h64 hs1
          go_wp2_with fail
          refine CF.out.mono ?_
          rintro e W5 ⟨rfl, hL5, hK5⟩
          have hpk := PK4.out.step hL5 hK5
          rw [show ({ s with out := s.out ++ [Tok.as ⟨tk, tx, ta, tl, tc⟩ 12], regs := ⟨⟨#[]⟩, tc, j + 1⟩ :: s.regs } : LS) = s1 from HS1.out.symm] at hpk
          have HPK := Lib.hid hpk
          clear hL5 hK5 hpk CF PK4 hu0 hu1 hu2 hu3 hu4 ht0 ht1 ht2 ht3 ht4 hi1 fu0 fu1 fu2 fu3 fu4 ft0 ft1 ft2 ft3 ft4 fi1
          have cc := CONT.out _ W5 s1 HPK.out.1 HPK.out.2.2.2.2.2
          have CC := Lib.hid cc
          clear cc
          by_cases hct : contT ts (j + 1) ⟨tk, tx, ta, tl, tc⟩ = true
          · have hv2 : lineF2 ts (j + 1) ⟨uk, ux, ua, ul, uc⟩ ⟨tk, tx, ta, tl, tc⟩ s1 = s1 := by unfold lineF2; rw [hct]; rfl
            have HV2 := Lib.hid hv2
            simp only [hct] at CC
            clear hv2 hct
            go_wp2_with fail
            refine CC.out.mono ?_
            rintro e W7 ⟨rfl, hB7⟩
            have PK := Lib.hid (HPK.out.below hB7)
            clear hB7
            go_wp2_with fail
            go_end0
            have hv := HVAL.out
            rw [HV2.out] at hv
            rw [hv]
            exact ⟨rfl, PK.out.1.mono (fun _ h => .inl (.inl (.inl h))), PK.out.2.2.2.2.1⟩
          · have hct' : contT ts (j + 1) ⟨tk, tx, ta, tl, tc⟩ = false := by simpa using hct
            simp only [hct'] at CC
            go_wp2_with fail
            refine CC.out.mono ?_
            rintro e W7 ⟨rfl, hB7⟩
            have pk := HPK.out.below hB7
            have PK := Lib.hid pk
            have fu0 : W7.cell? ⟨bu, 0, none⟩ = some (.int .i64 uk) := pk.2.2.1.cell 0
            have fu1 : W7.cell? ⟨bu, 1, none⟩ = some (.string ux) := pk.2.2.1.cell 1
            have fu2 : W7.cell? ⟨bu, 2, none⟩ = some (.int .i64 ua) := pk.2.2.1.cell 2
            have fu3 : W7.cell? ⟨bu, 3, none⟩ = some (.int .i64 ul) := pk.2.2.1.cell 3
            have fu4 : W7.cell? ⟨bu, 4, none⟩ = some (.int .i64 uc) := pk.2.2.1.cell 4
            have ft0 : W7.cell? ⟨bt, 0, none⟩ = some (.int .i64 tk) := pk.2.2.2.1.cell 0
            have ft1 : W7.cell? ⟨bt, 1, none⟩ = some (.string tx) := pk.2.2.2.1.cell 1
            have ft2 : W7.cell? ⟨bt, 2, none⟩ = some (.int .i64 ta) := pk.2.2.2.1.cell 2
            have ft3 : W7.cell? ⟨bt, 3, none⟩ = some (.int .i64 tl) := pk.2.2.2.1.cell 3
            have ft4 : W7.cell? ⟨bt, 4, none⟩ = some (.int .i64 tc) := pk.2.2.2.1.cell 4
            have fi1 : W7.cell? ⟨bi, 1, none⟩ = some (.int .i64 rw_) := pk.2.1.cell 1
            have cu := unfinished_any ⟨uk, ux, ua, ul, uc⟩ W7
            simp only [Tok.cs] at cu
            have CU := Lib.hid cu
            clear hB7 pk cu CC hct
            by_cases hun : unfT ⟨uk, ux, ua, ul, uc⟩ = true
            · have hv2 : lineF2 ts (j + 1) ⟨uk, ux, ua, ul, uc⟩ ⟨tk, tx, ta, tl, tc⟩ s1 = s1 := by unfold lineF2; rw [hun]; simp
              have HV2 := Lib.hid hv2
              simp only [hun] at CU
              clear hv2 hun hct'
              go_wp2_with (go_at_call 63; refine CU.out.mono ?_; rintro e W8 ⟨rfl, rfl⟩)
              go_end0
              have hv := HVAL.out
              rw [HV2.out] at hv
              rw [hv]
              have PK8 := PK.out.below ((Below.refl W7.heap.size W7).alloc (Nat.le_refl _) (.cells #[.int .i64 uk, .string ux, .int .i64 ua, .int .i64 ul, .int .i64 uc] 32))
              exact ⟨rfl, PK8.1.mono (fun _ h => .inl (.inl (.inl h))), PK8.2.2.2.2.1⟩
            · have hun' : unfT ⟨uk, ux, ua, ul, uc⟩ = false := by simpa using hun
              have hv2 : lineF2 ts (j + 1) ⟨uk, ux, ua, ul, uc⟩ ⟨tk, tx, ta, tl, tc⟩ s1 = { s1 with out := s1.out ++ [Tok.as ⟨tk, tx, ta, tl, tc⟩ 11] } := by unfold lineF2; rw [hun', hct']; rfl
              have HV2 := Lib.hid hv2
              simp only [hun'] at CU
              have pk8 := PK.out.below ((Below.refl W7.heap.size W7).alloc (Nat.le_refl _) (.cells #[.int .i64 uk, .string ux, .int .i64 ua, .int .i64 ul, .int .i64 uc] 32))
              have gt0 := cell_alloc1 ft0 (.cells #[.int .i64 uk, .string ux, .int .i64 ua, .int .i64 ul, .int .i64 uc] 32)
              have gt1 := cell_alloc1 ft1 (.cells #[.int .i64 uk, .string ux, .int .i64 ua, .int .i64 ul, .int .i64 uc] 32)
              have gt2 := cell_alloc1 ft2 (.cells #[.int .i64 uk, .string ux, .int .i64 ua, .int .i64 ul, .int .i64 uc] 32)
              have gt3 := cell_alloc1 ft3 (.cells #[.int .i64 uk, .string ux, .int .i64 ua, .int .i64 ul, .int .i64 uc] 32)
              have gt4 := cell_alloc1 ft4 (.cells #[.int .i64 uk, .string ux, .int .i64 ua, .int .i64 ul, .int .i64 uc] 32)
              have cp := put_any _ _ yb _ s1 11 ⟨tk, tx, ta, tl, tc⟩ pk8.1 HLEN1.out
              simp only [Tok.cs] at cp
              have CP := Lib.hid cp
              have PK8 := Lib.hid pk8
              clear hv2 hun hun' hct' pk8 cp
              go_wp2_with (first | (go_at_call 63; refine CU.out.mono ?_; rintro e W8 ⟨rfl, rfl⟩) | (go_at_call 60; refine CP.out.mono ?_; rintro e W9 ⟨rfl, hL9, hK9⟩))
              go_end0
              have hv := HVAL.out
              rw [HV2.out] at hv
              rw [hv]
              exact ⟨rfl, hL9.mono (fun _ h => .inl (.inl (.inl h))), PK8.out.2.2.2.2.1.trans (hK9.mono (fun _ h => .inl (.inl (.inl h))))⟩
      · have hop' : (opensT ⟨uk, ux, ua, ul, uc⟩ && decide (rw_ < tc)) = false := by
          rw [Bool.eq_false_iff]; intro hh; exact hop (by simpa using hh)
        have HOP := Lib.hid hop'
        have pk3 := HPK.out.below ((Below.refl W2.heap.size W2).alloc (Nat.le_refl _) (.cells #[.int .i64 uk, .string ux, .int .i64 ua, .int .i64 ul, .int .i64 uc] 32))
        have gt0 := cell_alloc1 ft0 (.cells #[.int .i64 uk, .string ux, .int .i64 ua, .int .i64 ul, .int .i64 uc] 32)
        have gt1 := cell_alloc1 ft1 (.cells #[.int .i64 uk, .string ux, .int .i64 ua, .int .i64 ul, .int .i64 uc] 32)
        have gt2 := cell_alloc1 ft2 (.cells #[.int .i64 uk, .string ux, .int .i64 ua, .int .i64 ul, .int .i64 uc] 32)
        have gt3 := cell_alloc1 ft3 (.cells #[.int .i64 uk, .string ux, .int .i64 ua, .int .i64 ul, .int .i64 uc] 32)
        have gt4 := cell_alloc1 ft4 (.cells #[.int .i64 uk, .string ux, .int .i64 ua, .int .i64 ul, .int .i64 uc] 32)
        have gi1 := cell_alloc1 fi1 (.cells #[.int .i64 uk, .string ux, .int .i64 ua, .int .i64 ul, .int .i64 uc] 32)
        have cp := outdents_any _ _ yb _ s ⟨tk, tx, ta, tl, tc⟩ pk3.1 (by rw [HRS.out]; simp) (by have := HN.out; omega)
        simp only [Tok.cs] at cp
        have PK3 := Lib.hid pk3
        have hc' : opensT ⟨uk, ux, ua, ul, uc⟩ = true → ¬ (rw_ : Int) < (tc : Int) := fun h1 h2 => hop ⟨h1, by omega⟩
        have HC' := Lib.hid hc'
        cases hof : outsF ⟨tk, tx, ta, tl, tc⟩ s with
        | error f =>
          rw [hof] at cp
          replace cp : Calls Tryd.prog 61 #[.pointer (some ⟨yb, 0, none⟩), .agg #[.int .i64 tk, .string tx, .int .i64 ta, .int .i64 tl, .int .i64 tc]] (W2.alloc (.cells #[.int .i64 uk, .string ux, .int .i64 ua, .int .i64 ul, .int .i64 uc] 32)) (fun e w' => e = .panicked (fv f.1 f.2) ∧ KX (fun b => ((X b ∨ b = bi) ∨ b = bu) ∨ b = bt) (W2.alloc (.cells #[.int .i64 uk, .string ux, .int .i64 ua, .int .i64 ul, .int .i64 uc] 32)) w') := cp
          have CP := Lib.hid cp
          have hv : lineF ts (j + 1) ⟨uk, ux, ua, ul, uc⟩ ⟨tk, tx, ta, tl, tc⟩ s = .error f := by
            unfold lineF; rw [HRS.out]; simp only [HBF.out, Bool.false_eq_true, if_false]; unfold lineF1; rw [HOP.out]; simp [hof]
          have HV := Lib.hid hv
          generalize hbo : opensT ⟨uk, ux, ua, ul, uc⟩ = bo at *
          have HBO := Lib.hid hbo
          clear cp hv hop hop' hof hc' hbo pk3
          go_wp2_with (go_at_call 59; refine CO.out.mono ?_; rintro e W3 ⟨rfl, rfl⟩)
          all_goals first
            | (exfalso
               have hh := HC'.out (by assumption)
               omega)
            | skip
          all_goals
            refine CP.out.mono ?_
            rintro e W5 ⟨rfl, hK5⟩
            rw [HV.out]
            exact ⟨rfl, rfl, PK3.out.2.2.2.2.1.trans (hK5.mono (fun _ h => .inl (.inl (.inl h))))⟩
        | ok s1 =>
          rw [hof] at cp
          replace cp : Calls Tryd.prog 61 #[.pointer (some ⟨yb, 0, none⟩), .agg #[.int .i64 tk, .string tx, .int .i64 ta, .int .i64 tl, .int .i64 tc]] (W2.alloc (.cells #[.int .i64 uk, .string ux, .int .i64 ua, .int .i64 ul, .int .i64 uc] 32)) (fun e w' => e = .returned (.tuple #[]) ∧ LR (fun b => ((X b ∨ b = bi) ∨ b = bu) ∨ b = bt) w' yb (.slice (some ⟨g, 0, none⟩) len cap) s1 ∧ KX (fun b => ((X b ∨ b = bi) ∨ b = bu) ∨ b = bt) (W2.alloc (.cells #[.int .i64 uk, .string ux, .int .i64 ua, .int .i64 ul, .int .i64 uc] 32)) w') := cp
          have CP := Lib.hid cp
          have hv : lineF ts (j + 1) ⟨uk, ux, ua, ul, uc⟩ ⟨tk, tx, ta, tl, tc⟩ s = .ok (lineF2 ts (j + 1) ⟨uk, ux, ua, ul, uc⟩ ⟨tk, tx, ta, tl, tc⟩ s1) := by
            unfold lineF; rw [HRS.out]; simp only [HBF.out, Bool.false_eq_true, if_false]; unfold lineF1; rw [HOP.out]; simp [hof]
          have HVAL := Lib.hid hv
          have HLEN1 : Hid (s1.out.length < 4000000) := by have h1 := HN.out; have h2 := outsF_len hof; show s1.out.length < 4000000; omega
          generalize hbo : opensT ⟨uk, ux, ua, ul, uc⟩ = bo at *
          have HBO := Lib.hid hbo
          clear cp hv hop hop' hof hc' hbo pk3
          go_wp2_with (go_at_call 59; refine CO.out.mono ?_; rintro e W3 ⟨rfl, rfl⟩)
          all_goals first
            | (exfalso
               have hh := HC'.out (by assumption)
               omega)
            | skip
          all_goals
            refine CP.out.mono ?_
            rintro e W5 ⟨rfl, hL5, hK5⟩
            have HPK := Lib.hid (PK3.out.step hL5 hK5)
            clear hL5 hK5 CP CO gt0 gt1 gt2 gt3 gt4 gi1 fu0 fu1 fu2 fu3 fu4 ft0 ft1 ft2 ft3 ft4 fi1
            have cc := CONT.out _ W5 s1 HPK.out.1 HPK.out.2.2.2.2.2
            have CC := Lib.hid cc
            clear cc
            by_cases hct : contT ts (j + 1) ⟨tk, tx, ta, tl, tc⟩ = true
            · have hv2 : lineF2 ts (j + 1) ⟨uk, ux, ua, ul, uc⟩ ⟨tk, tx, ta, tl, tc⟩ s1 = s1 := by unfold lineF2; rw [hct]; rfl
              have HV2 := Lib.hid hv2
              simp only [hct] at CC
              clear hv2 hct
              go_wp2_with fail
              refine CC.out.mono ?_
              rintro e W7 ⟨rfl, hB7⟩
              have PK := Lib.hid (HPK.out.below hB7)
              clear hB7
              go_wp2_with fail
              go_end0
              have hv := HVAL.out
              rw [HV2.out] at hv
              rw [hv]
              exact ⟨rfl, PK.out.1.mono (fun _ h => .inl (.inl (.inl h))), PK.out.2.2.2.2.1⟩
            · have hct' : contT ts (j + 1) ⟨tk, tx, ta, tl, tc⟩ = false := by simpa using hct
              simp only [hct'] at CC
              go_wp2_with fail
              refine CC.out.mono ?_
              rintro e W7 ⟨rfl, hB7⟩
              have pk := HPK.out.below hB7
              have PK := Lib.hid pk
              have fu0 : W7.cell? ⟨bu, 0, none⟩ = some (.int .i64 uk) := pk.2.2.1.cell 0
              have fu1 : W7.cell? ⟨bu, 1, none⟩ = some (.string ux) := pk.2.2.1.cell 1
              have fu2 : W7.cell? ⟨bu, 2, none⟩ = some (.int .i64 ua) := pk.2.2.1.cell 2
              have fu3 : W7.cell? ⟨bu, 3, none⟩ = some (.int .i64 ul) := pk.2.2.1.cell 3
              have fu4 : W7.cell? ⟨bu, 4, none⟩ = some (.int .i64 uc) := pk.2.2.1.cell 4
              have ft0 : W7.cell? ⟨bt, 0, none⟩ = some (.int .i64 tk) := pk.2.2.2.1.cell 0
              have ft1 : W7.cell? ⟨bt, 1, none⟩ = some (.string tx) := pk.2.2.2.1.cell 1
              have ft2 : W7.cell? ⟨bt, 2, none⟩ = some (.int .i64 ta) := pk.2.2.2.1.cell 2
              have ft3 : W7.cell? ⟨bt, 3, none⟩ = some (.int .i64 tl) := pk.2.2.2.1.cell 3
              have ft4 : W7.cell? ⟨bt, 4, none⟩ = some (.int .i64 tc) := pk.2.2.2.1.cell 4
              have fi1 : W7.cell? ⟨bi, 1, none⟩ = some (.int .i64 rw_) := pk.2.1.cell 1
              have cu := unfinished_any ⟨uk, ux, ua, ul, uc⟩ W7
              simp only [Tok.cs] at cu
              have CU := Lib.hid cu
              clear hB7 pk cu CC hct
              by_cases hun : unfT ⟨uk, ux, ua, ul, uc⟩ = true
              · have hv2 : lineF2 ts (j + 1) ⟨uk, ux, ua, ul, uc⟩ ⟨tk, tx, ta, tl, tc⟩ s1 = s1 := by unfold lineF2; rw [hun]; simp
                have HV2 := Lib.hid hv2
                simp only [hun] at CU
                clear hv2 hun hct'
                go_wp2_with (go_at_call 63; refine CU.out.mono ?_; rintro e W8 ⟨rfl, rfl⟩)
                go_end0
                have hv := HVAL.out
                rw [HV2.out] at hv
                rw [hv]
                have PK8 := PK.out.below ((Below.refl W7.heap.size W7).alloc (Nat.le_refl _) (.cells #[.int .i64 uk, .string ux, .int .i64 ua, .int .i64 ul, .int .i64 uc] 32))
                exact ⟨rfl, PK8.1.mono (fun _ h => .inl (.inl (.inl h))), PK8.2.2.2.2.1⟩
              · have hun' : unfT ⟨uk, ux, ua, ul, uc⟩ = false := by simpa using hun
                have hv2 : lineF2 ts (j + 1) ⟨uk, ux, ua, ul, uc⟩ ⟨tk, tx, ta, tl, tc⟩ s1 = { s1 with out := s1.out ++ [Tok.as ⟨tk, tx, ta, tl, tc⟩ 11] } := by unfold lineF2; rw [hun', hct']; rfl
                have HV2 := Lib.hid hv2
                simp only [hun'] at CU
                have pk8 := PK.out.below ((Below.refl W7.heap.size W7).alloc (Nat.le_refl _) (.cells #[.int .i64 uk, .string ux, .int .i64 ua, .int .i64 ul, .int .i64 uc] 32))
                have gt0 := cell_alloc1 ft0 (.cells #[.int .i64 uk, .string ux, .int .i64 ua, .int .i64 ul, .int .i64 uc] 32)
                have gt1 := cell_alloc1 ft1 (.cells #[.int .i64 uk, .string ux, .int .i64 ua, .int .i64 ul, .int .i64 uc] 32)
                have gt2 := cell_alloc1 ft2 (.cells #[.int .i64 uk, .string ux, .int .i64 ua, .int .i64 ul, .int .i64 uc] 32)
                have gt3 := cell_alloc1 ft3 (.cells #[.int .i64 uk, .string ux, .int .i64 ua, .int .i64 ul, .int .i64 uc] 32)
                have gt4 := cell_alloc1 ft4 (.cells #[.int .i64 uk, .string ux, .int .i64 ua, .int .i64 ul, .int .i64 uc] 32)
                have cp := put_any _ _ yb _ s1 11 ⟨tk, tx, ta, tl, tc⟩ pk8.1 HLEN1.out
                simp only [Tok.cs] at cp
                have CP := Lib.hid cp
                have PK8 := Lib.hid pk8
                clear hv2 hun hun' hct' pk8 cp
                go_wp2_with (first | (go_at_call 63; refine CU.out.mono ?_; rintro e W8 ⟨rfl, rfl⟩) | (go_at_call 60; refine CP.out.mono ?_; rintro e W9 ⟨rfl, hL9, hK9⟩))
                go_end0
                have hv := HVAL.out
                rw [HV2.out] at hv
                rw [hv]
                exact ⟨rfl, hL9.mono (fun _ h => .inl (.inl (.inl h))), PK8.out.2.2.2.2.1.trans (hK9.mono (fun _ h => .inl (.inl (.inl h))))⟩
    · clear q2 q3
      go_wp2_with fail
      have hpk := LnS.two (u := ⟨uk, ux, ua, ul, uc⟩) (t := ⟨tk, tx, ta, tl, tc⟩) false HLI.out HBI.out HKW.out HLLW.out
      simp only [Tok.cs, Bool.false_eq_true, if_false] at hpk
      have HPK := Lib.hid hpk
      clear hpk
      generalize ((W.alloc (.cells #[.int .i64 tk, .string tx, .int .i64 ta, .int .i64 tl, .int .i64 tc] 32)).alloc (.cells #[.int .i64 uk, .string ux, .int .i64 ua, .int .i64 ul, .int .i64 uc] 32)).drew = W2 at *
      generalize hbb : W.heap.size + 1 = bu at *
      generalize hba : W.heap.size = bt at *
      have co := opens_any ⟨uk, ux, ua, ul, uc⟩ W2
      simp only [Tok.cs] at co
      have CO := Lib.hid co
      have pk := HPK.out
      have fu0 : W2.cell? ⟨bu, 0, none⟩ = some (.int .i64 uk) := pk.2.2.1.cell 0
      have fu1 : W2.cell? ⟨bu, 1, none⟩ = some (.string ux) := pk.2.2.1.cell 1
      have fu2 : W2.cell? ⟨bu, 2, none⟩ = some (.int .i64 ua) := pk.2.2.1.cell 2
      have fu3 : W2.cell? ⟨bu, 3, none⟩ = some (.int .i64 ul) := pk.2.2.1.cell 3
      have fu4 : W2.cell? ⟨bu, 4, none⟩ = some (.int .i64 uc) := pk.2.2.1.cell 4
      have ft0 : W2.cell? ⟨bt, 0, none⟩ = some (.int .i64 tk) := pk.2.2.2.1.cell 0
      have ft1 : W2.cell? ⟨bt, 1, none⟩ = some (.string tx) := pk.2.2.2.1.cell 1
      have ft2 : W2.cell? ⟨bt, 2, none⟩ = some (.int .i64 ta) := pk.2.2.2.1.cell 2
      have ft3 : W2.cell? ⟨bt, 3, none⟩ = some (.int .i64 tl) := pk.2.2.2.1.cell 3
      have ft4 : W2.cell? ⟨bt, 4, none⟩ = some (.int .i64 tc) := pk.2.2.2.1.cell 4
      have fi1 : W2.cell? ⟨bi, 1, none⟩ = some (.int .i64 rw_) := pk.2.1.cell 1
      clear co pk
      by_cases hop : opensT ⟨uk, ux, ua, ul, uc⟩ = true ∧ rw_ < tc
      · obtain ⟨ho, hc⟩ := hop
        simp only [ho] at CO
        have pk3 := HPK.out.below ((Below.refl W2.heap.size W2).alloc (Nat.le_refl _) (.cells #[.int .i64 uk, .string ux, .int .i64 ua, .int .i64 ul, .int .i64 uc] 32))
        have gt0 := cell_alloc1 ft0 (.cells #[.int .i64 uk, .string ux, .int .i64 ua, .int .i64 ul, .int .i64 uc] 32)
        have gt1 := cell_alloc1 ft1 (.cells #[.int .i64 uk, .string ux, .int .i64 ua, .int .i64 ul, .int .i64 uc] 32)
        have gt2 := cell_alloc1 ft2 (.cells #[.int .i64 uk, .string ux, .int .i64 ua, .int .i64 ul, .int .i64 uc] 32)
        have gt3 := cell_alloc1 ft3 (.cells #[.int .i64 uk, .string ux, .int .i64 ua, .int .i64 ul, .int .i64 uc] 32)
        have gt4 := cell_alloc1 ft4 (.cells #[.int .i64 uk, .string ux, .int .i64 ua, .int .i64 ul, .int .i64 uc] 32)
        have gi1 := cell_alloc1 fi1 (.cells #[.int .i64 uk, .string ux, .int .i64 ua, .int .i64 ul, .int .i64 uc] 32)
        have cp := put_any _ _ yb _ s 12 ⟨tk, tx, ta, tl, tc⟩ pk3.1 (by have := HN.out; omega)
        simp only [Tok.cs] at cp
        have CP := Lib.hid cp
        have PK3 := Lib.hid pk3
        have HO := Lib.hid ho
        have HC := Lib.hid hc
        have hc' : (rw_ : Int) < (tc : Int) := by omega
        clear cp pk3 ho
        go_wp2_with (first | (go_at_call 59; refine CO.out.mono ?_; rintro e W3 ⟨rfl, rfl⟩) | (go_at_call 60; fail))
        refine CP.out.mono ?_
        rintro e W4 ⟨rfl, hL4, hK4⟩
        have pk := PK3.out.step hL4 hK4
        have PK4 := Lib.hid pk
        have hu0 : W4.cell? ⟨bu, 0, none⟩ = some (.int .i64 uk) := pk.2.2.1.cell 0
        have hu1 : W4.cell? ⟨bu, 1, none⟩ = some (.string ux) := pk.2.2.1.cell 1
        have hu2 : W4.cell? ⟨bu, 2, none⟩ = some (.int .i64 ua) := pk.2.2.1.cell 2
        have hu3 : W4.cell? ⟨bu, 3, none⟩ = some (.int .i64 ul) := pk.2.2.1.cell 3
        have hu4 : W4.cell? ⟨bu, 4, none⟩ = some (.int .i64 uc) := pk.2.2.1.cell 4
        have ht0 : W4.cell? ⟨bt, 0, none⟩ = some (.int .i64 tk) := pk.2.2.2.1.cell 0
        have ht1 : W4.cell? ⟨bt, 1, none⟩ = some (.string tx) := pk.2.2.2.1.cell 1
        have ht2 : W4.cell? ⟨bt, 2, none⟩ = some (.int .i64 ta) := pk.2.2.2.1.cell 2
        have ht3 : W4.cell? ⟨bt, 3, none⟩ = some (.int .i64 tl) := pk.2.2.2.1.cell 3
        have ht4 : W4.cell? ⟨bt, 4, none⟩ = some (.int .i64 tc) := pk.2.2.2.1.cell 4
        have hi1 : W4.cell? ⟨bi, 1, none⟩ = some (.int .i64 rw_) := pk.2.1.cell 1
        clear hL4 hK4 pk CP CO gt0 gt1 gt2 gt3 gt4 gi1 hc hc'
        by_cases h64 : s.regs.length = 64
        · have cf := open_fail _ W4 yb _ _ ⟨⟨#[]⟩, tc, j + 1⟩ PK4.out.1 h64
          simp only [Reg.cs] at cf
          have CF := Lib.hid cf
          have hv : lineF ts (j + 1) ⟨uk, ux, ua, ul, uc⟩ ⟨tk, tx, ta, tl, tc⟩ s = .error (j + 1, 8) := by
            unfold lineF; rw [HRS.out]; simp only [HBF.out, Bool.false_eq_true, if_false]; unfold lineF1; simp [HO.out, HC.out, h64]
          have HV := Lib.hid hv
          clear cf hv h64
          go_wp2_with fail
          refine CF.out.mono ?_
          rintro e W5 ⟨rfl, rfl⟩
          rw [HV.out]
          exact ⟨rfl, rfl, PK4.out.2.2.2.2.1.trans (KX.below ((Below.refl _ _).alloc (Nat.le_refl _) _) (fun k hk => PK4.out.1.lt k (.inl (.inl (.inl hk)))))⟩
        · have cf := open_ok _ W4 yb _ _ ⟨⟨#[]⟩, tc, j + 1⟩ PK4.out.1 (by have := HREG.out; simp; omega)
          simp only [Reg.cs] at cf
          have CF := Lib.hid cf
          obtain ⟨s1, hs1⟩ : ∃ s1 : LS, s1 = { s with out := s.out ++ [Tok.as ⟨tk, tx, ta, tl, tc⟩ 12], regs := ⟨⟨#[]⟩, tc, j + 1⟩ :: s.regs } := ⟨_, rfl⟩
          have hv : lineF ts (j + 1) ⟨uk, ux, ua, ul, uc⟩ ⟨tk, tx, ta, tl, tc⟩ s = .ok (lineF2 ts (j + 1) ⟨uk, ux, ua, ul, uc⟩ ⟨tk, tx, ta, tl, tc⟩ s1) := by
            unfold lineF; rw [HRS.out]; simp only [HBF.out, Bool.false_eq_true, if_false]; unfold lineF1; simp [HO.out, HC.out, h64, hs1]
          have HVAL := Lib.hid hv
          have HLEN1 : Hid (s1.out.length < 4000000) := by have := HN.out; rw [hs1]; show (s.out ++ [_]).length < _; simp; omega
          have HS1 := Lib.hid hs1
          clear cf hv h64 hs1
          go_wp2_with fail
          refine CF.out.mono ?_
          rintro e W5 ⟨rfl, hL5, hK5⟩
          have hpk := PK4.out.step hL5 hK5
          rw [show ({ s with out := s.out ++ [Tok.as ⟨tk, tx, ta, tl, tc⟩ 12], regs := ⟨⟨#[]⟩, tc, j + 1⟩ :: s.regs } : LS) = s1 from HS1.out.symm] at hpk
          have HPK := Lib.hid hpk
          clear hL5 hK5 hpk CF PK4 hu0 hu1 hu2 hu3 hu4 ht0 ht1 ht2 ht3 ht4 hi1 fu0 fu1 fu2 fu3 fu4 ft0 ft1 ft2 ft3 ft4 fi1
          have cc := CONT.out _ W5 s1 HPK.out.1 HPK.out.2.2.2.2.2
          have CC := Lib.hid cc
          clear cc
          by_cases hct : contT ts (j + 1) ⟨tk, tx, ta, tl, tc⟩ = true
          · have hv2 : lineF2 ts (j + 1) ⟨uk, ux, ua, ul, uc⟩ ⟨tk, tx, ta, tl, tc⟩ s1 = s1 := by unfold lineF2; rw [hct]; rfl
            have HV2 := Lib.hid hv2
            simp only [hct] at CC
            clear hv2 hct
            go_wp2_with fail
            refine CC.out.mono ?_
            rintro e W7 ⟨rfl, hB7⟩
            have PK := Lib.hid (HPK.out.below hB7)
            clear hB7
            go_wp2_with fail
            go_end0
            have hv := HVAL.out
            rw [HV2.out] at hv
            rw [hv]
            exact ⟨rfl, PK.out.1.mono (fun _ h => .inl (.inl (.inl h))), PK.out.2.2.2.2.1⟩
          · have hct' : contT ts (j + 1) ⟨tk, tx, ta, tl, tc⟩ = false := by simpa using hct
            simp only [hct'] at CC
            go_wp2_with fail
            refine CC.out.mono ?_
            rintro e W7 ⟨rfl, hB7⟩
            have pk := HPK.out.below hB7
            have PK := Lib.hid pk
            have fu0 : W7.cell? ⟨bu, 0, none⟩ = some (.int .i64 uk) := pk.2.2.1.cell 0
            have fu1 : W7.cell? ⟨bu, 1, none⟩ = some (.string ux) := pk.2.2.1.cell 1
            have fu2 : W7.cell? ⟨bu, 2, none⟩ = some (.int .i64 ua) := pk.2.2.1.cell 2
            have fu3 : W7.cell? ⟨bu, 3, none⟩ = some (.int .i64 ul) := pk.2.2.1.cell 3
            have fu4 : W7.cell? ⟨bu, 4, none⟩ = some (.int .i64 uc) := pk.2.2.1.cell 4
            have ft0 : W7.cell? ⟨bt, 0, none⟩ = some (.int .i64 tk) := pk.2.2.2.1.cell 0
            have ft1 : W7.cell? ⟨bt, 1, none⟩ = some (.string tx) := pk.2.2.2.1.cell 1
            have ft2 : W7.cell? ⟨bt, 2, none⟩ = some (.int .i64 ta) := pk.2.2.2.1.cell 2
            have ft3 : W7.cell? ⟨bt, 3, none⟩ = some (.int .i64 tl) := pk.2.2.2.1.cell 3
            have ft4 : W7.cell? ⟨bt, 4, none⟩ = some (.int .i64 tc) := pk.2.2.2.1.cell 4
            have fi1 : W7.cell? ⟨bi, 1, none⟩ = some (.int .i64 rw_) := pk.2.1.cell 1
            have cu := unfinished_any ⟨uk, ux, ua, ul, uc⟩ W7
            simp only [Tok.cs] at cu
            have CU := Lib.hid cu
            clear hB7 pk cu CC hct
            by_cases hun : unfT ⟨uk, ux, ua, ul, uc⟩ = true
            · have hv2 : lineF2 ts (j + 1) ⟨uk, ux, ua, ul, uc⟩ ⟨tk, tx, ta, tl, tc⟩ s1 = s1 := by unfold lineF2; rw [hun]; simp
              have HV2 := Lib.hid hv2
              simp only [hun] at CU
              clear hv2 hun hct'
              go_wp2_with (go_at_call 63; refine CU.out.mono ?_; rintro e W8 ⟨rfl, rfl⟩)
              go_end0
              have hv := HVAL.out
              rw [HV2.out] at hv
              rw [hv]
              have PK8 := PK.out.below ((Below.refl W7.heap.size W7).alloc (Nat.le_refl _) (.cells #[.int .i64 uk, .string ux, .int .i64 ua, .int .i64 ul, .int .i64 uc] 32))
              exact ⟨rfl, PK8.1.mono (fun _ h => .inl (.inl (.inl h))), PK8.2.2.2.2.1⟩
            · have hun' : unfT ⟨uk, ux, ua, ul, uc⟩ = false := by simpa using hun
              have hv2 : lineF2 ts (j + 1) ⟨uk, ux, ua, ul, uc⟩ ⟨tk, tx, ta, tl, tc⟩ s1 = { s1 with out := s1.out ++ [Tok.as ⟨tk, tx, ta, tl, tc⟩ 11] } := by unfold lineF2; rw [hun', hct']; rfl
              have HV2 := Lib.hid hv2
              simp only [hun'] at CU
              have pk8 := PK.out.below ((Below.refl W7.heap.size W7).alloc (Nat.le_refl _) (.cells #[.int .i64 uk, .string ux, .int .i64 ua, .int .i64 ul, .int .i64 uc] 32))
              have gt0 := cell_alloc1 ft0 (.cells #[.int .i64 uk, .string ux, .int .i64 ua, .int .i64 ul, .int .i64 uc] 32)
              have gt1 := cell_alloc1 ft1 (.cells #[.int .i64 uk, .string ux, .int .i64 ua, .int .i64 ul, .int .i64 uc] 32)
              have gt2 := cell_alloc1 ft2 (.cells #[.int .i64 uk, .string ux, .int .i64 ua, .int .i64 ul, .int .i64 uc] 32)
              have gt3 := cell_alloc1 ft3 (.cells #[.int .i64 uk, .string ux, .int .i64 ua, .int .i64 ul, .int .i64 uc] 32)
              have gt4 := cell_alloc1 ft4 (.cells #[.int .i64 uk, .string ux, .int .i64 ua, .int .i64 ul, .int .i64 uc] 32)
              have cp := put_any _ _ yb _ s1 11 ⟨tk, tx, ta, tl, tc⟩ pk8.1 HLEN1.out
              simp only [Tok.cs] at cp
              have CP := Lib.hid cp
              have PK8 := Lib.hid pk8
              clear hv2 hun hun' hct' pk8 cp
              go_wp2_with (first | (go_at_call 63; refine CU.out.mono ?_; rintro e W8 ⟨rfl, rfl⟩) | (go_at_call 60; refine CP.out.mono ?_; rintro e W9 ⟨rfl, hL9, hK9⟩))
              go_end0
              have hv := HVAL.out
              rw [HV2.out] at hv
              rw [hv]
              exact ⟨rfl, hL9.mono (fun _ h => .inl (.inl (.inl h))), PK8.out.2.2.2.2.1.trans (hK9.mono (fun _ h => .inl (.inl (.inl h))))⟩
      · have hop' : (opensT ⟨uk, ux, ua, ul, uc⟩ && decide (rw_ < tc)) = false := by
          rw [Bool.eq_false_iff]; intro hh; exact hop (by simpa using hh)
        have HOP := Lib.hid hop'
        have pk3 := HPK.out.below ((Below.refl W2.heap.size W2).alloc (Nat.le_refl _) (.cells #[.int .i64 uk, .string ux, .int .i64 ua, .int .i64 ul, .int .i64 uc] 32))
        have gt0 := cell_alloc1 ft0 (.cells #[.int .i64 uk, .string ux, .int .i64 ua, .int .i64 ul, .int .i64 uc] 32)
        have gt1 := cell_alloc1 ft1 (.cells #[.int .i64 uk, .string ux, .int .i64 ua, .int .i64 ul, .int .i64 uc] 32)
        have gt2 := cell_alloc1 ft2 (.cells #[.int .i64 uk, .string ux, .int .i64 ua, .int .i64 ul, .int .i64 uc] 32)
        have gt3 := cell_alloc1 ft3 (.cells #[.int .i64 uk, .string ux, .int .i64 ua, .int .i64 ul, .int .i64 uc] 32)
        have gt4 := cell_alloc1 ft4 (.cells #[.int .i64 uk, .string ux, .int .i64 ua, .int .i64 ul, .int .i64 uc] 32)
        have gi1 := cell_alloc1 fi1 (.cells #[.int .i64 uk, .string ux, .int .i64 ua, .int .i64 ul, .int .i64 uc] 32)
        have cp := outdents_any _ _ yb _ s ⟨tk, tx, ta, tl, tc⟩ pk3.1 (by rw [HRS.out]; simp) (by have := HN.out; omega)
        simp only [Tok.cs] at cp
        have PK3 := Lib.hid pk3
        have hc' : opensT ⟨uk, ux, ua, ul, uc⟩ = true → ¬ (rw_ : Int) < (tc : Int) := fun h1 h2 => hop ⟨h1, by omega⟩
        have HC' := Lib.hid hc'
        cases hof : outsF ⟨tk, tx, ta, tl, tc⟩ s with
        | error f =>
          rw [hof] at cp
          replace cp : Calls Tryd.prog 61 #[.pointer (some ⟨yb, 0, none⟩), .agg #[.int .i64 tk, .string tx, .int .i64 ta, .int .i64 tl, .int .i64 tc]] (W2.alloc (.cells #[.int .i64 uk, .string ux, .int .i64 ua, .int .i64 ul, .int .i64 uc] 32)) (fun e w' => e = .panicked (fv f.1 f.2) ∧ KX (fun b => ((X b ∨ b = bi) ∨ b = bu) ∨ b = bt) (W2.alloc (.cells #[.int .i64 uk, .string ux, .int .i64 ua, .int .i64 ul, .int .i64 uc] 32)) w') := cp
          have CP := Lib.hid cp
          have hv : lineF ts (j + 1) ⟨uk, ux, ua, ul, uc⟩ ⟨tk, tx, ta, tl, tc⟩ s = .error f := by
            unfold lineF; rw [HRS.out]; simp only [HBF.out, Bool.false_eq_true, if_false]; unfold lineF1; rw [HOP.out]; simp [hof]
          have HV := Lib.hid hv
          generalize hbo : opensT ⟨uk, ux, ua, ul, uc⟩ = bo at *
          have HBO := Lib.hid hbo
          clear cp hv hop hop' hof hc' hbo pk3
          go_wp2_with (go_at_call 59; refine CO.out.mono ?_; rintro e W3 ⟨rfl, rfl⟩)
          all_goals first
            | (exfalso
               have hh := HC'.out (by assumption)
               omega)
            | skip
          all_goals
            refine CP.out.mono ?_
            rintro e W5 ⟨rfl, hK5⟩
            rw [HV.out]
            exact ⟨rfl, rfl, PK3.out.2.2.2.2.1.trans (hK5.mono (fun _ h => .inl (.inl (.inl h))))⟩
        | ok s1 =>
          rw [hof] at cp
          replace cp : Calls Tryd.prog 61 #[.pointer (some ⟨yb, 0, none⟩), .agg #[.int .i64 tk, .string tx, .int .i64 ta, .int .i64 tl, .int .i64 tc]] (W2.alloc (.cells #[.int .i64 uk, .string ux, .int .i64 ua, .int .i64 ul, .int .i64 uc] 32)) (fun e w' => e = .returned (.tuple #[]) ∧ LR (fun b => ((X b ∨ b = bi) ∨ b = bu) ∨ b = bt) w' yb (.slice (some ⟨g, 0, none⟩) len cap) s1 ∧ KX (fun b => ((X b ∨ b = bi) ∨ b = bu) ∨ b = bt) (W2.alloc (.cells #[.int .i64 uk, .string ux, .int .i64 ua, .int .i64 ul, .int .i64 uc] 32)) w') := cp
          have CP := Lib.hid cp
          have hv : lineF ts (j + 1) ⟨uk, ux, ua, ul, uc⟩ ⟨tk, tx, ta, tl, tc⟩ s = .ok (lineF2 ts (j + 1) ⟨uk, ux, ua, ul, uc⟩ ⟨tk, tx, ta, tl, tc⟩ s1) := by
            unfold lineF; rw [HRS.out]; simp only [HBF.out, Bool.false_eq_true, if_false]; unfold lineF1; rw [HOP.out]; simp [hof]
          have HVAL := Lib.hid hv
          have HLEN1 : Hid (s1.out.length < 4000000) := by have h1 := HN.out; have h2 := outsF_len hof; show s1.out.length < 4000000; omega
          generalize hbo : opensT ⟨uk, ux, ua, ul, uc⟩ = bo at *
          have HBO := Lib.hid hbo
          clear cp hv hop hop' hof hc' hbo pk3
          go_wp2_with (go_at_call 59; refine CO.out.mono ?_; rintro e W3 ⟨rfl, rfl⟩)
          all_goals first
            | (exfalso
               have hh := HC'.out (by assumption)
               omega)
            | skip
          all_goals
            refine CP.out.mono ?_
            rintro e W5 ⟨rfl, hL5, hK5⟩
            have HPK := Lib.hid (PK3.out.step hL5 hK5)
            clear hL5 hK5 CP CO gt0 gt1 gt2 gt3 gt4 gi1 fu0 fu1 fu2 fu3 fu4 ft0 ft1 ft2 ft3 ft4 fi1
            have cc := CONT.out _ W5 s1 HPK.out.1 HPK.out.2.2.2.2.2
            have CC := Lib.hid cc
            clear cc
            by_cases hct : contT ts (j + 1) ⟨tk, tx, ta, tl, tc⟩ = true
            · have hv2 : lineF2 ts (j + 1) ⟨uk, ux, ua, ul, uc⟩ ⟨tk, tx, ta, tl, tc⟩ s1 = s1 := by unfold lineF2; rw [hct]; rfl
              have HV2 := Lib.hid hv2
              simp only [hct] at CC
              clear hv2 hct
              go_wp2_with fail
              refine CC.out.mono ?_
              rintro e W7 ⟨rfl, hB7⟩
              have PK := Lib.hid (HPK.out.below hB7)
              clear hB7
              go_wp2_with fail
              go_end0
              have hv := HVAL.out
              rw [HV2.out] at hv
              rw [hv]
              exact ⟨rfl, PK.out.1.mono (fun _ h => .inl (.inl (.inl h))), PK.out.2.2.2.2.1⟩
            · have hct' : contT ts (j + 1) ⟨tk, tx, ta, tl, tc⟩ = false := by simpa using hct
              simp only [hct'] at CC
              go_wp2_with fail
              refine CC.out.mono ?_
              rintro e W7 ⟨rfl, hB7⟩
              have pk := HPK.out.below hB7
              have PK := Lib.hid pk
              have fu0 : W7.cell? ⟨bu, 0, none⟩ = some (.int .i64 uk) := pk.2.2.1.cell 0
              have fu1 : W7.cell? ⟨bu, 1, none⟩ = some (.string ux) := pk.2.2.1.cell 1
              have fu2 : W7.cell? ⟨bu, 2, none⟩ = some (.int .i64 ua) := pk.2.2.1.cell 2
              have fu3 : W7.cell? ⟨bu, 3, none⟩ = some (.int .i64 ul) := pk.2.2.1.cell 3
              have fu4 : W7.cell? ⟨bu, 4, none⟩ = some (.int .i64 uc) := pk.2.2.1.cell 4
              have ft0 : W7.cell? ⟨bt, 0, none⟩ = some (.int .i64 tk) := pk.2.2.2.1.cell 0
              have ft1 : W7.cell? ⟨bt, 1, none⟩ = some (.string tx) := pk.2.2.2.1.cell 1
              have ft2 : W7.cell? ⟨bt, 2, none⟩ = some (.int .i64 ta) := pk.2.2.2.1.cell 2
              have ft3 : W7.cell? ⟨bt, 3, none⟩ = some (.int .i64 tl) := pk.2.2.2.1.cell 3
              have ft4 : W7.cell? ⟨bt, 4, none⟩ = some (.int .i64 tc) := pk.2.2.2.1.cell 4
              have fi1 : W7.cell? ⟨bi, 1, none⟩ = some (.int .i64 rw_) := pk.2.1.cell 1
              have cu := unfinished_any ⟨uk, ux, ua, ul, uc⟩ W7
              simp only [Tok.cs] at cu
              have CU := Lib.hid cu
              clear hB7 pk cu CC hct
              by_cases hun : unfT ⟨uk, ux, ua, ul, uc⟩ = true
              · have hv2 : lineF2 ts (j + 1) ⟨uk, ux, ua, ul, uc⟩ ⟨tk, tx, ta, tl, tc⟩ s1 = s1 := by unfold lineF2; rw [hun]; simp
                have HV2 := Lib.hid hv2
                simp only [hun] at CU
                clear hv2 hun hct'
                go_wp2_with (go_at_call 63; refine CU.out.mono ?_; rintro e W8 ⟨rfl, rfl⟩)
                go_end0
                have hv := HVAL.out
                rw [HV2.out] at hv
                rw [hv]
                have PK8 := PK.out.below ((Below.refl W7.heap.size W7).alloc (Nat.le_refl _) (.cells #[.int .i64 uk, .string ux, .int .i64 ua, .int .i64 ul, .int .i64 uc] 32))
                exact ⟨rfl, PK8.1.mono (fun _ h => .inl (.inl (.inl h))), PK8.2.2.2.2.1⟩
              · have hun' : unfT ⟨uk, ux, ua, ul, uc⟩ = false := by simpa using hun
                have hv2 : lineF2 ts (j + 1) ⟨uk, ux, ua, ul, uc⟩ ⟨tk, tx, ta, tl, tc⟩ s1 = { s1 with out := s1.out ++ [Tok.as ⟨tk, tx, ta, tl, tc⟩ 11] } := by unfold lineF2; rw [hun', hct']; rfl
                have HV2 := Lib.hid hv2
                simp only [hun'] at CU
                have pk8 := PK.out.below ((Below.refl W7.heap.size W7).alloc (Nat.le_refl _) (.cells #[.int .i64 uk, .string ux, .int .i64 ua, .int .i64 ul, .int .i64 uc] 32))
                have gt0 := cell_alloc1 ft0 (.cells #[.int .i64 uk, .string ux, .int .i64 ua, .int .i64 ul, .int .i64 uc] 32)
                have gt1 := cell_alloc1 ft1 (.cells #[.int .i64 uk, .string ux, .int .i64 ua, .int .i64 ul, .int .i64 uc] 32)
                have gt2 := cell_alloc1 ft2 (.cells #[.int .i64 uk, .string ux, .int .i64 ua, .int .i64 ul, .int .i64 uc] 32)
                have gt3 := cell_alloc1 ft3 (.cells #[.int .i64 uk, .string ux, .int .i64 ua, .int .i64 ul, .int .i64 uc] 32)
                have gt4 := cell_alloc1 ft4 (.cells #[.int .i64 uk, .string ux, .int .i64 ua, .int .i64 ul, .int .i64 uc] 32)
                have cp := put_any _ _ yb _ s1 11 ⟨tk, tx, ta, tl, tc⟩ pk8.1 HLEN1.out
                simp only [Tok.cs] at cp
                have CP := Lib.hid cp
                have PK8 := Lib.hid pk8
                clear hv2 hun hun' hct' pk8 cp
                go_wp2_with (first | (go_at_call 63; refine CU.out.mono ?_; rintro e W8 ⟨rfl, rfl⟩) | (go_at_call 60; refine CP.out.mono ?_; rintro e W9 ⟨rfl, hL9, hK9⟩))
                go_end0
                have hv := HVAL.out
                rw [HV2.out] at hv
                rw [hv]
                exact ⟨rfl, hL9.mono (fun _ h => .inl (.inl (.inl h))), PK8.out.2.2.2.2.1.trans (hK9.mono (fun _ h => .inl (.inl (.inl h))))⟩
end Go.Proofs.YtpgcklpcohcchaaDoor
