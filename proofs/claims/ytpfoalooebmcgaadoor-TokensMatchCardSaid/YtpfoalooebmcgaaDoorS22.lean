/- The statement on Indents and Outdents: the walk. -/
import Derived.Test.YtpfoalooebmcgaaDoorS21
namespace Go.Proofs.YtpfoalooebmcgaaDoor
open Go Go.RowKit

theorem scanF_coded (s : ByteArray) : Coded (scanF s) := by
  unfold scanF
  split
  · rename_i f hf
    intro g hg
    injection hg with hg
    subst hg
    exact rawF_coded _ _ hf
  · exact layF_coded _

theorem depL_bd (l : List Tok) : depL l ≤ l.length ∧ -(l.length : Int) ≤ depL l := by
  induction l with
  | nil => simp [depL]
  | cons t l ih =>
    simp only [depL, List.length_cons, dlt]
    split
    · omega
    · split <;> omega

theorem match_at {s : ByteArray} {out : List Tok} (h : scanF s = .ok out) : 0 < out.length ∧ depL (out.take out.length) = 0 ∧
    ∀ k, k < out.length → ∃ t, out[k]? = some t ∧ depL (out.take (k + 1)) = depL (out.take k) + dlt t.kind ∧ 0 ≤ depL (out.take (k + 1)) ∧ (t.kind = 14 ↔ k + 1 = out.length) := by
  unfold scanF at h
  split at h
  · cases h
  · obtain ⟨o, st, rfl, hk, hd, hp, hn⟩ := layF_match h
    have hst : dlt st.kind = 0 := by rw [hk]; rfl
    refine ⟨by simp, by rw [List.take_length, depL_snoc, hd, hst]; rfl, fun k hlt => ?_⟩
    simp only [List.length_append, List.length_cons, List.length_nil] at hlt
    refine ⟨(o ++ [st])[k]'(by simp; omega), List.getElem?_eq_getElem _, ?_, ?_, ?_⟩
    · rw [List.take_succ_eq_append_getElem (by simp; omega), depL_snoc]
    · by_cases hlk : k + 1 ≤ o.length
      · rw [List.take_append_of_le_length hlk]; exact hp _
      · rw [List.take_of_length_le (by simp; omega), depL_snoc, hd, hst]; decide
    · by_cases hlk : k < o.length
      · rw [List.getElem_append_left hlk]
        refine ⟨fun e => absurd e (hn _ (List.getElem_mem _)), fun e => ?_⟩
        simp at e
        omega
      · have : k = o.length := by omega
        subst this
        simp [hk]

set_option maxRecDepth 100000 in
set_option maxHeartbeats 6400000 in
theorem match_any (s : ByteArray) (w : World) (htb : Tab w) : Calls Tryd.prog 4 #[.string s] w fun e w' => e = .returned (.bool true) ∧ Below w.heap.size w w' := by
  have AW := Lib.hid (awake_any w htb)
  by_cases hbig : 4000 < s.size
  · have q : (4000 : Int) < (s.size : Int) := by omega
    clear hbig htb
    go_enter Tryd.func4, Tryd.ntmps4
    go_wp2_with fail
    refine AW.out.mono ?_
    rintro e w1 ⟨rfl, hb⟩
    have HB := Lib.hid hb
    clear hb AW
    go_simp
    go_wp2_with fail
    go_ret
    exact ⟨rfl, HB.out⟩
  · have q : ¬ (4000 : Int) < (s.size : Int) := by omega
    have HTB := Lib.hid htb
    clear htb hbig
    go_enter Tryd.func4, Tryd.ntmps4
    go_wp2_with fail
    refine AW.out.mono ?_
    rintro e w1 ⟨rfl, hb⟩
    have HB := Lib.hid hb
    have CS := Lib.hid (scan_below w1 s (HTB.out.below hb))
    clear hb AW
    go_simp
    go_wp2_with fail
    cases hs : scanF s with
    | error f =>
      have hc := scanF_coded s f hs
      obtain ⟨fa, fc⟩ := f
      simp only at hc
      have q1 : ¬ (fc : Int) = 0 := by omega
      have q2 : ((fc : Int) != 0) = true := by simpa using hc
      rw [hs] at CS
      clear hs hc
      refine CS.out.mono ?_
      rintro e w2 ⟨rfl, k2⟩
      have K2 := Lib.hid k2.toBelow
      clear k2 CS
      go_simp
      go_wp2_with fail
      go_ret
      exact ⟨rfl, (HB.out.trans (K2.out.mono HB.out.size)).alloc (Nat.le_trans HB.out.size K2.out.size) _⟩
    | ok out =>
      have HM := Lib.hid (match_at hs)
      rw [hs] at CS
      clear hs
      refine CS.out.mono ?_
      rintro e w2 ⟨v, rfl, o2, k2, x2⟩
      have O2 := Lib.hid o2
      have K2 := Lib.hid k2.toBelow
      clear CS k2 x2
      obtain ⟨g, cap, hv, _, hg2⟩ := o2.form HM.out.1
      subst hv
      have hcap : out.length ≤ maxLen := by
        rcases o2.2 with ⟨hv, _⟩ | ⟨g', cap', cur, hv, _, _, hc, hm, _⟩
        · cases hv
        · omega
      unfold maxLen at hcap
      clear o2
      go_simp
      go_wp2_with fail
      have hb := (Below.refl w2.heap.size w2).alloc (Nat.le_refl _) (.cells #[.int .i64 0, .int .i64 0] 26)
      have HB3 := Lib.hid hb
      have hsz : w2.heap.size < (w2.alloc (.cells #[.int .i64 0, .int .i64 0] 26)).heap.size := by simp
      have hz : depL (out.take 0) = 0 := rfl
      have HZ := Lib.hid hz
      generalize hlen : out.length = n at *
      have HLEN := Lib.hid hlen
      clear hb hlen hz
      generalize w2.alloc (.cells #[.int .i64 0, .int .i64 0] 26) = W at *
      go_loopg [5, 29] n (fun gh s5 s29 wr => ∃ k : Nat, k + gh = n ∧ .int .i64 (depL (out.take k)) = s5 ∧ .int .i64 (k : Int) = s29 ∧ Below w2.heap.size w2 wr)
      case atStart => exact ⟨0, by omega, by rw [HZ.out], rfl, HB3.out⟩
      case round =>
        obtain ⟨k, hk, rfl, rfl, hbl⟩ := hrel
        have hbd := depL_bd (out.take k)
        have hlk : (out.take k).length ≤ k := List.length_take_le _ _
        have HBL := Lib.hid hbl
        by_cases hlt : k < n
        · obtain ⟨g', rfl⟩ : ∃ g', gk = g' + 1 := ⟨gk - 1, by omega⟩
          obtain ⟨t, ht, hd, hd0, h14⟩ := HM.out.2.2 k hlt
          have o3 := row_keep O2.out hbl
          have hnl := HLEN.out
          have k0 : wr.cell? ⟨g, k * 5, none⟩ = some (.int .i64 t.kind) := by rw [o3.cellAt _ (by omega)]; exact tcs_get out k 0 t ht (by omega)
          have k1 : wr.cell? ⟨g, k * 5 + 1, none⟩ = some (.string t.text) := by rw [o3.cellAt _ (by omega), tcs_get out k 1 t ht (by omega)]; rfl
          have k2 : wr.cell? ⟨g, k * 5 + 2, none⟩ = some (.int .i64 t.pos) := by rw [o3.cellAt _ (by omega), tcs_get out k 2 t ht (by omega)]; rfl
          have k3 : wr.cell? ⟨g, k * 5 + 3, none⟩ = some (.int .i64 t.line) := by rw [o3.cellAt _ (by omega), tcs_get out k 3 t ht (by omega)]; rfl
          have k4 : wr.cell? ⟨g, k * 5 + 4, none⟩ = some (.int .i64 t.col) := by rw [o3.cellAt _ (by omega), tcs_get out k 4 t ht (by omega)]; rfl
          obtain ⟨tk, tx, ta, tl, tc⟩ := t
          simp only at k0 k1 k2 k3 k4 hd h14
          have q1 : (k : Int) < (n : Int) := by omega
          clear o3 ht hbl hnl
          generalize hdp : depL (out.take (k + 1)) = d' at *
          have HDP := Lib.hid hdp
          clear hdp
          generalize depL (out.take k) = d at *
          by_cases hlast : k + 1 = n
          · have h14' := h14.2 hlast
            subst h14'
            have hdd : d' = d := by rw [hd]; simp [dlt]
            subst hdd
            have e1 : ((k : Int) == (n : Int) - 1) = true := by simp; omega
            clear hd h14 hlast
            go_wp2_with fail
            go_roundg g'
            case rel => exact ⟨k + 1, by omega, by rw [HDP.out], by go_num, HBL.out.alloc HBL.out.size _⟩
            case measure => omega
          · have h14' : tk ≠ 14 := fun e => hlast (h14.1 e)
            have e1 : ((k : Int) == (n : Int) - 1) = false := by simp; omega
            by_cases h12 : tk = 12
            · subst h12
              have hdd : d' = d + 1 := by rw [hd]; simp [dlt]
              subst hdd
              clear hd h14 hlast
              go_wp2_with fail
              go_roundg g'
              case rel => exact ⟨k + 1, by omega, by rw [HDP.out], by go_num, HBL.out.alloc HBL.out.size _⟩
              case measure => omega
            · by_cases h13 : tk = 13
              · subst h13
                have hdd : d' = d - 1 := by rw [hd]; simp [dlt]; omega
                subst hdd
                clear hd h14 hlast
                go_wp2_with fail
                go_roundg g'
                case rel => exact ⟨k + 1, by omega, by rw [HDP.out], by go_num, HBL.out.alloc HBL.out.size _⟩
                case measure => omega
              · have hdd : d' = d := by rw [hd]; simp [dlt, h12, h13]
                subst hdd
                have e12 : ((tk : Int) == 12) = false := by simp; omega
                have e13 : ((tk : Int) == 13) = false := by simp; omega
                have e14 : ((tk : Int) == 14) = false := by simp; omega
                clear hd h14 hlast h12 h13 h14'
                go_wp2_with fail
                go_roundg g'
                case rel => exact ⟨k + 1, by omega, by rw [HDP.out], by go_num, HBL.out.alloc HBL.out.size _⟩
                case measure => omega
        · have hkn : k = n := by omega
          subst hkn
          have hd0 := HM.out.2.1
          have hpos := HM.out.1
          have q0 : (0 : Int) < (k : Int) := by omega
          rw [hd0]
          clear hd0 hbd hbl
          go_wp2_with fail
          go_ret
          exact ⟨rfl, (HB.out.trans (K2.out.mono HB.out.size)).trans (HBL.out.mono (Nat.le_trans HB.out.size K2.out.size))⟩
end Go.Proofs.YtpfoalooebmcgaaDoor
