/- The reader of tokens: brackets that close. -/
import Derived.Test.YtpgcklpcohcchaaDoorS9
namespace Go.Proofs.YtpgcklpcohcchaaDoor
open Go Go.RowKit

/-- Behind a store of a shorter list of open brackets. -/
theorem RO.pop_close {X : Nat → Prop} {rb g cap : Nat} {s : ByteArray} {vo : Value} {r : RSt} {b : Brk} {rest : List Brk} {w1 : World} (h1 : Bl w1 rb 42 (.string s :: .int .i64 r.pos :: r.fs vo (.slice (some ⟨g, 0, none⟩) (rest.length + 1) cap)))
    (h2 : w1.ownsRow 0 32 5 vo r.out.length (tcs r.out)) (h3 : w1.ownsRow 0 46 3 (.slice (some ⟨g, 0, none⟩) (rest.length + 1) cap) (rest.length + 1) (kcs (b :: rest)))
    (h4 : ∀ c, XO X (.slice (some ⟨g, 0, none⟩) (rest.length + 1) cap) c → c < w1.heap.size ∧ c ≠ rb ∧ vo.ownBlock ≠ some c) (h5 : ∀ c, X c → (Value.slice (some ⟨g, 0, none⟩) (rest.length + 1) cap).ownBlock ≠ some c) :
    RO X (w1.setCell ⟨rb, 3, none⟩ (.slice (some ⟨g, 0, none⟩) rest.length cap)) rb s r rest ∧ KX X w1 (w1.setCell ⟨rb, 3, none⟩ (.slice (some ⟨g, 0, none⟩) rest.length cap)) := by
  rw [kcs_cons] at h3
  have h3' := ownsRow_pop (kcs_length rest) h3
  have og : Og rb w1 (w1.setCell ⟨rb, 3, none⟩ (.slice (some ⟨g, 0, none⟩) rest.length cap)) := (Og.refl rb w1).set 3 _
  refine ⟨⟨_, ⟨vo, h1.set 3 _, og.row h2 (Bl.row_apart h2 h1 (by decide)), fun c hc => ?_⟩, og.row h3' (Bl.row_apart h3' h1 (by decide)), h5⟩, ?_⟩
  · obtain ⟨k1, k2, k3⟩ := h4 c hc
    exact ⟨Nat.lt_of_lt_of_le k1 og.size, k2, k3⟩
  · refine ⟨og.os, og.tape, og.output, og.size, fun k hk => ?_⟩
    obtain ⟨k1, k2, k3⟩ := h4 k (.inl hk)
    exact og.block k k1 (by intro e; injection e with e; exact k2 e)

/-- The cells of the innermost open bracket. -/
theorem brk_cells {w : World} {vr : Value} {r : Brk} {rs : List Brk} (h3 : w.ownsRow 0 46 3 vr (rs.length + 1) (kcs (r :: rs))) :
    ∃ g cap, vr = .slice (some ⟨g, 0, none⟩) (rs.length + 1) cap ∧ w.cell? ⟨g, rs.length * 3, none⟩ = some (.string r.mark) ∧ w.cell? ⟨g, rs.length * 3 + 1, none⟩ = some (.int .i64 r.pos) ∧ w.cell? ⟨g, rs.length * 3 + 2, none⟩ = some (.int .i64 (litI r.lit)) := by
  obtain ⟨g, cap, rfl, _, _⟩ := h3.form (by omega)
  have hl := kcs_length rs
  refine ⟨g, cap, rfl, ?_, ?_, ?_⟩
  · rw [h3.cellAt _ (by omega), kcs_cons, List.getElem?_append_right (by omega)]; simp [hl, Brk.cs]
  · rw [h3.cellAt _ (by omega), kcs_cons, List.getElem?_append_right (by omega)]; simp [hl, Brk.cs]
  · rw [h3.cellAt _ (by omega), kcs_cons, List.getElem?_append_right (by omega)]; simp [hl, Brk.cs]

def endLit (s : ByteArray) (lit : Option Nat) (r : RSt) (bs : List Brk) : Except (Nat × Nat) (RSt × List Brk) := match lit with
  | none => .ok (r, bs)
  | some l => partsF s l bs (s.size + 1) r
def endgF (s : ByteArray) (r : RSt) : List Brk → Except (Nat × Nat) (RSt × List Brk)
  | [] => .error (r.pos, 27)
  | b :: rest => if (clo b.mark.toList).toList = (s.extract r.pos (r.pos + 1)).toList then endLit s b.lit (markF s 1 r) rest else .error (r.pos, 27)

set_option maxRecDepth 100000 in
set_option maxHeartbeats 3200000 in
theorem ending_any (X : Nat → Prop) (w : World) (rb : Nat) (s : ByteArray) (r : RSt) (bs : List Brk) (h : RO X w rb s r bs) (hs : s.size ≤ 65536) (hi : RI s r) (hp : r.pos < s.size) (hn : r.out.length ≤ 2 * r.pos) (hbs : bs.length ≤ 64) (htb : Tab w) (hx0 : X 0) :
    Calls Tryd.prog 31 #[.pointer (some ⟨rb, 0, none⟩)] w (RoRes X w rb s (endgF s r bs)) := by
  obtain ⟨vn, hr, h3, h5⟩ := h
  obtain ⟨vo, h1, h2, h4, ao⟩ := hr.bl
  have HI := Lib.hid hi
  have c0 : w.cell? ⟨rb, 0, none⟩ = some (.string s) := h1.cell 0
  have c1 : w.cell? ⟨rb, 1, none⟩ = some (.int .i64 r.pos) := h1.cell 1
  have H1 := Lib.hid h1
  have H2 := Lib.hid h2
  have H3 := Lib.hid h3
  have H4 := Lib.hid h4
  have HX := Lib.hid h5
  have HN := Lib.hid hn
  have HTB := Lib.hid htb
  have HX0 := Lib.hid hx0
  have hrp : (r.pos : Int) ≤ 65536 := by omega
  cases bs with
  | nil =>
    obtain ⟨va, vc, rfl⟩ := row_len h3
    simp only [List.length_nil] at *
    have c3 : w.cell? ⟨rb, 3, none⟩ = some (.slice va 0 vc) := h1.cell 3
    have HKD := Lib.hid (fun n => (KX.refl X w).drewN n)
    unfold endgF
    clear hr h1 h2 h3 h4 h5 ao hn htb hx0 hi
    go_enter Tryd.func31, Tryd.ntmps31
    go_wp2_with fail
    go_quiet (fail)
    go_wp2_with fail
    refine (fail_any _ _ _).mono ?_
    rintro e w' ⟨rfl, rfl⟩
    exact ⟨rfl, rfl, HKD.out _⟩
  | cons b rest =>
    obtain ⟨g, cap, rfl, k0, k1, k2⟩ := brk_cells h3
    have hcap : rest.length + 1 ≤ cap := by
      rcases h3.2 with ⟨hv, _⟩ | ⟨g', cap', cur, hv, _, _, hc, _⟩
      · cases hv
      · injection hv with _ _ hv; simp only [List.length_cons] at hc; omega
    have c3 : w.cell? ⟨rb, 3, none⟩ = some (.slice (some ⟨g, 0, none⟩) (rest.length + 1) cap) := h1.cell 3
    have hrest : rest.length ≤ 63 := by simp at hbs; omega
    have HPC := Lib.hid (fun n => RO.pop_close (X := X) (b := b) (rest := rest) (w1 := w.drewN n) (h1.drewN n) (row_keep h2 (drewN_below (Below.refl _ _) n)) (row_keep h3 (drewN_below (Below.refl _ _) n)) h4 h5)
    have HKD := Lib.hid (fun n => (KX.refl X w).drewN n)
    have f3 : ∀ n, (w.drewN n).frozen? ⟨rb, 3, none⟩ = false := fun n => h1.froz 3
    have hcm : ∀ (Z : Nat → Prop) (W : World) (vn' : Value), RR Z W rb s r vn' → Calls Tryd.prog 50 #[.pointer (some ⟨rb, 0, none⟩), .int .i64 1] W fun e w' => e = .returned (.tuple #[]) ∧ RR Z w' rb s (markF s 1 r) vn' ∧ KX Z W w' :=
      fun Z W vn' hR => mark_any Z W rb s r vn' 1 hR hs (by omega) hi.told hi.line hi.start (by omega)
    have CM := Lib.hid hcm
    have hri : RI s (markF s 1 r) := hi.add hi.told (by omega) (by omega) (extract_le _ _ _ (by omega)) (by omega)
    have hln : (markF s 1 r).out.length + 1 ≤ 2 * (markF s 1 r).pos := by
      simp [markF, addF]
      omega
    unfold endgF
    have hcc : ∀ w1 : World, Calls Tryd.prog 49 #[.string b.mark] w1 fun e w' => e = .returned (.string (clo b.mark.toList)) ∧ w' = w1 := fun w1 => (closing_any b.mark w1).mono (fun _ _ h => ⟨h.1, h.2.symm⟩)
    have CC := Lib.hid hcc
    clear hcc
    obtain ⟨m, hm⟩ : ∃ m, m = r.pos + 1 := ⟨_, rfl⟩
    have hmi : (r.pos : Int) + 1 = (m : Int) := by omega
    have e2 : IntKind.i64.wrap (m : Int) = (m : Int) := by rw [IntKind.wrap_i64]; omega
    have p1 : (m : Int) ≤ (s.size : Int) := by omega
    have p2 : (0 : Int) ≤ (r.pos : Int) := by omega
    have p3 : (r.pos : Int) ≤ (m : Int) := by omega
    have p5 : (m : Int) ≤ 65536 := by omega
    rw [← hm]
    obtain ⟨bm, bp, bl⟩ := b
    simp only at k0 k1 k2 CC HPC ⊢
    generalize clo bm.toList = cb at *
    generalize hrl : rest.length = n at *
    have HRL := Lib.hid hrl
    have hq1 : IntKind.i64.wrap (n : Int) = (n : Int) := by rw [IntKind.wrap_i64]; omega
    have hq4 : IntKind.i64.wrap ((n : Int) + 1 - 1) = (n : Int) := by rw [IntKind.wrap_i64]; omega
    have hq2 : (0 : Int) ≤ (n : Int) := by omega
    have hq3 : (n : Int) < (n : Int) + 1 := by omega
    have hq5 : (n : Int) ≤ (cap : Int) := by omega
    have hq6 : ¬ (n : Int) < 0 := by omega
    have hq7 : decide ((n : Int) < 0) = false := by simp
    have HBS := Lib.hid (show n ≤ 64 by omega)
    clear hr h1 h2 h3 h4 h5 ao hn htb hx0 hi hm hcm hrl hbs hcap
    by_cases he : cb.toList = (s.extract r.pos m).toList
    · rw [if_pos he]
      have g1 : (cb.toList == (s.extract r.pos m).toList) = true := by simpa using he
      have g2 : (cb.toList != (s.extract r.pos m).toList) = false := by simpa using he
      have HE := Lib.hid he
      clear he
      go_enter Tryd.func31, Tryd.ntmps31
      go_wp2_with fail
      go_quiet ((go_at_call 49; exact Calls.quiet_of_same (CC.out _)))
      go_wp2_with fail
      have hle := HRL.out
      subst hle
      obtain ⟨hro, hkx⟩ := HPC.out nq
      obtain ⟨vn', hr', ho', hx'⟩ := hro
      have CMM := Lib.hid (CM.out _ _ _ hr')
      have HO' := Lib.hid ho'
      have HX' := Lib.hid hx'
      have HK1 := Lib.hid ((HKD.out nq).trans hkx)
      clear hr' ho' hx' hkx
      refine CMM.out.mono ?_
      rintro e w3 ⟨rfl, h6, k6⟩
      have hst := RO.step HO'.out HX'.out h6 k6
      have HST := Lib.hid hst.1
      have HK3 := Lib.hid (HK1.out.trans hst.2)
      clear h6 k6 hst
      go_simp
      cases bl with
      | none =>
        have hl1 : litI none = -1 := rfl
        rw [hl1]
        go_wp2_with fail
        go_end0
        exact ⟨rfl, HST.out, HK3.out⟩
      | some l =>
        have hl1 : litI (some l) = (l : Int) := rfl
        rw [hl1]
        have hl2 : ((l : Int) == -1) = false := by simp
        have hl3 : ((l : Int) != -1) = true := by simp
        have hl4 : ¬ (l : Int) = -1 := by omega
        have CP := Lib.hid (parts_any X w3 rb s (markF s 1 r) rest l HST.out hs hri hln HBS.out (HTB.out.kx HK3.out HX0.out) HX0.out)
        obtain ⟨x, hx⟩ : ∃ x, partsF s l rest (s.size + 1) (markF s 1 r) = x := ⟨_, rfl⟩
        rw [hx] at CP
        have hy : endLit s (some l) (markF s 1 r) rest = x := hx
        have HY := Lib.hid hy
        clear hx hy
        cases x with
        | error f =>
          go_wp2_with fail
          refine CP.out.mono ?_
          rintro e w6 ⟨rfl, k6⟩
          rw [HY.out]
          exact ⟨rfl, rfl, HK3.out.trans k6⟩
        | ok y =>
          go_wp2_with fail
          refine CP.out.mono ?_
          rintro e w6 ⟨rfl, h6, k6⟩
          have H6 := Lib.hid h6
          have K6 := Lib.hid (HK3.out.trans k6)
          clear h6 k6
          go_simp
          go_wp2_with fail
          go_end0
          rw [HY.out]
          exact ⟨rfl, H6.out, K6.out⟩
    · rw [if_neg he]
      have g1 : (cb.toList == (s.extract r.pos m).toList) = false := by simpa using he
      have g2 : (cb.toList != (s.extract r.pos m).toList) = true := by simpa using he
      go_enter Tryd.func31, Tryd.ntmps31
      go_wp2_with fail
      go_quiet ((go_at_call 49; exact Calls.quiet_of_same (CC.out _)))
      go_wp2_with fail
      refine (fail_any _ _ _).mono ?_
      rintro e w' ⟨rfl, rfl⟩
      exact ⟨rfl, rfl, HKD.out _⟩
end Go.Proofs.YtpgcklpcohcchaaDoor
