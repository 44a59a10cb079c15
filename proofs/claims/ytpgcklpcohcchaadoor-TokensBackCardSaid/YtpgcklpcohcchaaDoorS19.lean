/- Scan. -/
import Derived.Test.YtpgcklpcohcchaaDoorS18
namespace Go.Proofs.YtpgcklpcohcchaaDoor
open Go Go.RowKit

/-- The tokens of a text with layout, or the fault. -/
def scanF (s : ByteArray) : Except (Nat × Nat) (List Tok) := match rawF s with
  | .error f => .error f
  | .ok l => layF l

set_option maxRecDepth 100000 in
set_option maxHeartbeats 3200000 in
theorem scan_any (X : Nat → Prop) (w : World) (s : ByteArray) (hX : ∀ b, X b → b < w.heap.size) (htb : Tab w) (hx0 : X 0) :
    Calls Tryd.prog 9 #[.string s] w (LayRes X w (scanF s)) := by
  have hb1 := (Below.refl w.heap.size w).alloc (Nat.le_refl _) (.cells #[.int .i64 0, .int .i64 0] 26)
  have hk1 := KX.below hb1 hX
  have hp : Bl (w.alloc (.cells #[.int .i64 0, .int .i64 0] 26)) w.heap.size 26 [.int .i64 0, .int .i64 0] := Bl.new w 26 [.int .i64 0, .int .i64 0]
  have cr := raw_any (fun b => X b ∨ b = w.heap.size) _ s (fun b hb => by
    have := hb1.size
    rcases hb with hb | rfl
    · have := hX b hb; omega
    · exact hp.lt) (htb.kx hk1 hx0) (.inl hx0)
  have CR := Lib.hid cr
  have HK1 := Lib.hid hk1
  have HP := Lib.hid hp
  have HX := Lib.hid hX
  clear cr hk1 hb1 hp hX htb hx0
  cases hr : rawF s with
  | error f =>
    have hc := rawF_coded s f hr
    have hsc : scanF s = .error f := by simp only [scanF, hr]
    rw [hsc]
    rw [hr] at CR
    obtain ⟨fa, fc⟩ := f
    simp only at hc
    have q : ¬ (fc : Int) = 0 := by omega
    have q2 : ((fc : Int) != 0) = true := by simpa using hc
    clear hr hsc hc
    go_enter Tryd.func9, Tryd.ntmps9
    go_wp2_with fail
    generalize hpw : w.heap.size = p at *
    refine CR.out.mono ?_
    rintro e w2 ⟨rfl, k2⟩
    have HPB := Lib.hid (k2.bl (.inr rfl) HP.out)
    have K2 := Lib.hid k2
    clear k2 CR
    go_simp
    go_wp2_with fail
    have hbl : Bl (w2.alloc (.cells #[.int .i64 fa, .int .i64 fc] 26)) w2.heap.size 26 [.int .i64 fa, .int .i64 fc] := Bl.new w2 26 [.int .i64 fa, .int .i64 fc]
    have hpb := HPB.out.alloc (.cells #[.int .i64 fa, .int .i64 fc] 26)
    have hne : p ≠ w2.heap.size := by have := HPB.out.lt; omega
    have K3 := Lib.hid (K2.out.trans (KX.below (X := fun b => X b ∨ b = p) ((Below.refl w2.heap.size w2).alloc (Nat.le_refl _) (.cells #[.int .i64 fa, .int .i64 fc] 26)) (fun b hb => by
      have := K2.out.size
      rcases hb with hb | rfl
      · have := HX.out b hb; have := HP.out.lt; omega
      · exact HPB.out.lt)))
    have HNP := Lib.hid (fun b hb e => (Nat.ne_of_lt (HX.out b hb)) e)
    generalize w2.alloc (.cells #[.int .i64 fa, .int .i64 fc] 26) = W at *
    generalize w2.heap.size = bx at *
    have b0 : W.cell? ⟨bx, 0, none⟩ = some (.int .i64 fa) := hbl.cell 0
    have b1 : W.cell? ⟨bx, 1, none⟩ = some (.int .i64 fc) := hbl.cell 1
    have p0 : W.cell? ⟨p, 0, none⟩ = some (.int .i64 0) := hpb.cell 0
    have p1 : W.cell? ⟨p, 1, none⟩ = some (.int .i64 0) := hpb.cell 1
    have f0 : W.frozen? ⟨p, 0, none⟩ = false := hpb.froz 0
    have f1 : W.frozen? ⟨p, 1, none⟩ = false := hpb.froz 1
    have HBL := Lib.hid hbl
    have HPP := Lib.hid hpb
    clear hbl hpb hne
    go_region
    all_goals go_wp2
    all_goals
      have hw := ((HPP.out.set 0 (.int .i64 fa)).set 1 (.int .i64 fc)).drew
      have r0 : ((W.setCell ⟨p, 0, none⟩ (.int .i64 fa)).setCell ⟨p, 1, none⟩ (.int .i64 fc)).drew.cell? ⟨p, 0, none⟩ = some (.int .i64 fa) := hw.cell 0
      have r1 : ((W.setCell ⟨p, 0, none⟩ (.int .i64 fa)).setCell ⟨p, 1, none⟩ (.int .i64 fc)).drew.cell? ⟨p, 1, none⟩ = some (.int .i64 fc) := hw.cell 1
      refine bodyPost_ret (v := .tuple #[.slice none 0 0, .agg #[.int .i64 fa, .int .i64 fc]]) (by simp [results, Tryd.results9, go_sem, r0, r1]) rfl ⟨rfl, ?_⟩
      exact (((HK1.out.trans (K3.out.mono (fun _ h => .inl h))).set (fun h => HNP.out _ h rfl) _).set (fun h => HNP.out _ h rfl) _).drew
  | ok l =>
    have hok := rawF_ok hr
    have hsc : scanF s = layF l := by simp only [scanF, hr]
    rw [hsc]
    rw [hr] at CR
    have HOK := Lib.hid hok
    clear hr hsc hok
    go_enter Tryd.func9, Tryd.ntmps9
    go_wp2_with fail
    generalize hpw : w.heap.size = p at *
    refine CR.out.mono ?_
    rintro e w2 ⟨v, rfl, o2, k2, x2⟩
    have HPB := Lib.hid (k2.bl (.inr rfl) HP.out)
    have K2 := Lib.hid k2
    have O2 := Lib.hid o2
    have X2 := Lib.hid x2
    clear k2 CR o2 x2
    obtain ⟨va, vc, rfl⟩ := row_len O2.out
    go_simp
    go_wp2_with fail
    have hne : p ≠ w2.heap.size := by have := HPB.out.lt; omega
    have hb3 := (Below.refl w2.heap.size w2).alloc (Nat.le_refl _) (.cells #[.int .i64 0, .int .i64 0] 26)
    have hlt2 : ∀ b, (X b ∨ b = p) ∨ (Value.slice va l.length vc).ownBlock = some b → b < w2.heap.size := by
      intro b hb
      have h2 := K2.out.size
      rcases hb with (hb | rfl) | hb
      · have := HX.out b hb; have := HP.out.lt; omega
      · exact HPB.out.lt
      · exact (O2.out.lt b hb).2
    have hk3 : KX (fun b => (X b ∨ b = p) ∨ (Value.slice va l.length vc).ownBlock = some b) w2 (w2.alloc (.cells #[.int .i64 0, .int .i64 0] 26)) := KX.below hb3 hlt2
    have hl3 : LL (fun b => (X b ∨ b = p) ∨ (Value.slice va l.length vc).ownBlock = some b) (w2.alloc (.cells #[.int .i64 0, .int .i64 0] 26)) (.slice va l.length vc) l := ⟨row_kx O2.out (fun b hb => .inr hb) hk3, fun b hb => .inr hb⟩
    have CL := Lib.hid (layout_any _ _ _ _ hl3 (fun b hb => Nat.lt_of_lt_of_le (hlt2 b hb) hb3.size) (by have := HOK.out.1; omega) (fun t ht => by
      have h1 := HOK.out.2.1
      obtain ⟨a1, a2, a3, a4⟩ := HOK.out.2.2 t ht
      exact ⟨by omega, by omega, by omega⟩))
    have K3 := Lib.hid (K2.out.trans (hk3.mono (fun _ h => .inl h)))
    have HP3 := Lib.hid (HPB.out.alloc (.cells #[.int .i64 0, .int .i64 0] 26))
    have HNP := Lib.hid (fun b hb e => (Nat.ne_of_lt (HX.out b hb)) e)
    clear hne hb3 hlt2 hk3 hl3
    generalize w2.alloc (.cells #[.int .i64 0, .int .i64 0] 26) = W at *
    cases hla : layF l with
    | error f =>
      have HLA := Lib.hid hla
      rw [hla] at CL
      clear hla
      refine CL.out.mono ?_
      rintro e w4 ⟨rfl, k4⟩
      have hp4 := k4.bl (.inl (.inr rfl)) HP3.out
      have f0 : w4.frozen? ⟨p, 0, none⟩ = false := hp4.froz 0
      have f1 : w4.frozen? ⟨p, 1, none⟩ = false := hp4.froz 1
      have p0 : w4.cell? ⟨p, 0, none⟩ = some (.int .i64 0) := hp4.cell 0
      have p1 : w4.cell? ⟨p, 1, none⟩ = some (.int .i64 0) := hp4.cell 1
      have HP4 := Lib.hid hp4
      have K4 := Lib.hid (K3.out.trans (k4.mono (fun _ h => .inl h)))
      clear hp4 k4 CL
      obtain ⟨fa, fc⟩ := f
      go_simp
      go_wp2_with fail
      have hw := (HP4.out.set 0 (.int .i64 fa)).set 1 (.int .i64 fc)
      have r0 : ((w4.setCell ⟨p, 0, none⟩ (.int .i64 fa)).setCell ⟨p, 1, none⟩ (.int .i64 fc)).cell? ⟨p, 0, none⟩ = some (.int .i64 fa) := hw.cell 0
      have r1 : ((w4.setCell ⟨p, 0, none⟩ (.int .i64 fa)).setCell ⟨p, 1, none⟩ (.int .i64 fc)).cell? ⟨p, 1, none⟩ = some (.int .i64 fc) := hw.cell 1
      refine bodyPost_ret (v := .tuple #[.slice none 0 0, .agg #[.int .i64 fa, .int .i64 fc]]) (by simp [results, Tryd.results9, go_sem, r0, r1]) rfl ?_
      rw [HLA.out]
      refine ⟨rfl, ?_⟩
      exact (((HK1.out.trans (K4.out.mono (fun _ h => .inl h))).set (fun h => HNP.out _ h rfl) _).set (fun h => HNP.out _ h rfl) _)
    | ok out =>
      have HLA := Lib.hid hla
      rw [hla] at CL
      clear hla
      refine CL.out.mono ?_
      rintro e w4 ⟨vo, rfl, o4, k4, x4⟩
      have hp4 := k4.bl (.inl (.inr rfl)) HP3.out
      have f0 : w4.frozen? ⟨p, 0, none⟩ = false := hp4.froz 0
      have f1 : w4.frozen? ⟨p, 1, none⟩ = false := hp4.froz 1
      have p0 : w4.cell? ⟨p, 0, none⟩ = some (.int .i64 0) := hp4.cell 0
      have p1 : w4.cell? ⟨p, 1, none⟩ = some (.int .i64 0) := hp4.cell 1
      have HP4 := Lib.hid hp4
      have K4 := Lib.hid (K3.out.trans (k4.mono (fun _ h => .inl h)))
      have O4 := Lib.hid o4
      have X4 := Lib.hid x4
      clear hp4 k4 CL o4 x4
      obtain ⟨oa, oc, rfl⟩ := row_len O4.out
      go_simp
      go_wp2_with fail
      have hw := (HP4.out.set 0 (.int .i64 0)).set 1 (.int .i64 0)
      have r0 : ((w4.setCell ⟨p, 0, none⟩ (.int .i64 0)).setCell ⟨p, 1, none⟩ (.int .i64 0)).cell? ⟨p, 0, none⟩ = some (.int .i64 0) := hw.cell 0
      have r1 : ((w4.setCell ⟨p, 0, none⟩ (.int .i64 0)).setCell ⟨p, 1, none⟩ (.int .i64 0)).cell? ⟨p, 1, none⟩ = some (.int .i64 0) := hw.cell 1
      have og : Og p w4 ((w4.setCell ⟨p, 0, none⟩ (.int .i64 0)).setCell ⟨p, 1, none⟩ (.int .i64 0)) := ((Og.refl p w4).set 0 _).set 1 _
      refine bodyPost_ret (v := .tuple #[.slice oa out.length oc, .agg #[.int .i64 0, .int .i64 0]]) (by simp [results, Tryd.results9, go_sem, r0, r1]) rfl ?_
      rw [HLA.out]
      refine ⟨_, rfl, og.row O4.out (X4.out p (.inl (.inr rfl))), ?_, fun b hb => X4.out b (.inl (.inl hb))⟩
      exact (((HK1.out.trans (K4.out.mono (fun _ h => .inl h))).set (fun h => HNP.out _ h rfl) _).set (fun h => HNP.out _ h rfl) _)
end Go.Proofs.YtpgcklpcohcchaaDoor
