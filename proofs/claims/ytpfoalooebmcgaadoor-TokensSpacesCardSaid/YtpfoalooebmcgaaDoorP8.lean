/- The statement on blanks between tokens: the walk. -/
import Derived.Test.YtpfoalooebmcgaaDoorP7
import Derived.Test.YtpfoalooebmcgaaDoorS21
namespace Go.Proofs.YtpfoalooebmcgaaDoor
open Go Go.RowKit

section
variable {P : Program} {ops : Array Oper} {Q : Exit → Act → World → Prop} {S : World → Prop} {c : Nat}
/-- Just two operations can come up. -/
theorem anyC_two {i j : Nat} {o o' : Oper} {f : Nat} {l : Array Bool} {a : Act} {w : World} (hr : Region.ready .any ops l = [i, j]) (hi : ops[i]? = some o) (hj : ops[j]? = some o') (hw : Region.wanted o (yielded ops a.tmps) = true) (hw' : Region.wanted o' (yielded ops a.tmps) = true)
    (h : ∀ K : Act → World → Prop, Shut' (∀ a' w', (i = c ∨ l.getD c false = true ∨ S w') → anyC P ops Q S c f (l.setIfInBounds i true) a' w' → K a' w') → o.wp P a w K Q)
    (h' : ∀ K : Act → World → Prop, Shut' (∀ a' w', (j = c ∨ l.getD c false = true ∨ S w') → anyC P ops Q S c f (l.setIfInBounds j true) a' w' → K a' w') → o'.wp P a w K Q) : anyC P ops Q S c (f + 1) l a w := by
  refine ⟨fun h0 => absurd (hr.symm.trans h0) (by simp), fun n hn => ?_⟩
  rw [hr] at hn
  have e : n = i ∨ n = j := by simpa using hn
  rcases e with rfl | rfl
  · refine wpOp_step hi (fun K' hK => ?_)
    rw [if_pos hw]
    exact h K' (fun a' w' hS hr => hK a' w' ⟨hS, hr⟩)
  · refine wpOp_step hj (fun K' hK => ?_)
    rw [if_pos hw']
    exact h' K' (fun a' w' hS hr => hK a' w' ⟨hS, hr⟩)
end

/-- A text with a blank at a place. -/
def spc (s : ByteArray) (p : Nat) : ByteArray := s.extract 0 p ++ ⟨#[32]⟩ ++ s.extract p s.size
theorem pk_list (s : ByteArray) (i : Nat) : pk s i = (s.data.toList[i]?).getD 0 := by
  by_cases h : i < s.size
  · rw [pk_lt h, List.getElem?_eq_getElem (show i < s.data.toList.length by simpa using h)]
    simp
    rfl
  · rw [pk_ge h, List.getElem?_eq_none (by simpa using h)]; rfl
theorem spc_list (s : ByteArray) (p : Nat) : (spc s p).data.toList = s.data.toList.take p ++ 32 :: s.data.toList.drop p := by
  unfold spc
  rw [ByteArray.data_append, ByteArray.data_append, Array.toList_append, Array.toList_append, Lib.extract_data, Lib.extract_data, List.take_of_length_le (show (s.data.toList.drop p).length ≤ s.size - p by simp)]
  simp
theorem spc_size {s : ByteArray} {p : Nat} (h : p ≤ s.size) : (spc s p).size = s.size + 1 := by
  have := congrArg List.length (spc_list s p)
  simp at this
  have h1 : (spc s p).data.size = (spc s p).size := rfl
  have h2 : s.data.size = s.size := rfl
  omega
theorem spc_before {s : ByteArray} {p i : Nat} (h : p ≤ s.size) (hi : i < p) : pk (spc s p) i = pk s i := by
  have h2 : s.data.toList.length = s.size := by simp
  rw [pk_list, pk_list, spc_list, List.getElem?_append_left (by simp; omega), List.getElem?_take_of_lt hi]
theorem spc_at {s : ByteArray} {p : Nat} (h : p ≤ s.size) : pk (spc s p) p = 32 := by
  have h2 : s.data.toList.length = s.size := by simp
  rw [pk_list, spc_list, List.getElem?_append_right (by simp; omega)]
  have : p - (s.data.toList.take p).length = 0 := by rw [List.length_take]; omega
  rw [this]
  rfl
theorem spc_after {s : ByteArray} {p i : Nat} (h : p ≤ s.size) (hi : p ≤ i) : pk (spc s p) (i + 1) = pk s i := by
  have h2 : s.data.toList.length = s.size := by simp
  rw [pk_list, pk_list, spc_list, List.getElem?_append_right (by simp; omega)]
  have : i + 1 - (s.data.toList.take p).length = (i - p) + 1 := by rw [List.length_take]; omega
  rw [this, List.getElem?_cons_succ, List.getElem?_drop, show p + (i - p) = i by omega]

theorem raw_below (w : World) (s : ByteArray) (htb : Tab w) : Calls Tryd.prog 7 #[.string s] w (LayRes (fun b => b < w.heap.size) w (rawF s)) :=
  raw_any _ w s (fun _ h => h) htb htb.pos

theorem stN_bd (l : List Tok) : stN l ≤ l.length ∧ -(l.length : Int) ≤ stN l := by
  induction l with
  | nil => simp [stN]
  | cons t l ih =>
    simp only [stN, List.length_cons, stK]
    split
    · omega
    · split <;> omega

set_option maxRecDepth 100000 in
set_option maxHeartbeats 6400000 in
theorem spaces_any (s : ByteArray) (wh : Nat) (hw : wh < 65536) (w : World) (htb : Tab w) : Calls Tryd.prog 5 #[.string s, .int .u16 wh] w fun e w' => e = .returned (.bool true) ∧ Below w.heap.size w w' := by
  have AW := Lib.hid (awake_any w htb)
  by_cases hbig : 4000 < s.size
  · have q : (4000 : Int) < (s.size : Int) := by omega
    clear hbig htb
    go_enter Tryd.func5, Tryd.ntmps5
    go_wp2_with fail
    refine AW.out.mono ?_
    rintro e w1 ⟨rfl, hb⟩
    have HB := Lib.hid hb
    clear hb AW
    go_simp
    go_wp2_with fail
    go_ret
    exact ⟨rfl, HB.out⟩
  · have q : ¬ (4000 : Int) < (s.size : Int) := by omega
    have HTB := Lib.hid htb
    have HSZ := Lib.hid (show s.size ≤ 4000 by omega)
    clear htb hbig
    go_enter Tryd.func5, Tryd.ntmps5
    go_wp2_with fail
    refine AW.out.mono ?_
    rintro e w1 ⟨rfl, hb⟩
    have HB := Lib.hid hb
    have HT1 := Lib.hid (HTB.out.below hb)
    have CS := Lib.hid (raw_below w1 s (HTB.out.below hb))
    clear hb AW
    go_simp
    go_wp2_with fail
    cases hs : rawF s with
    | error f =>
      have hc := rawF_coded s f hs
      obtain ⟨fa, fc⟩ := f
      simp only at hc
      have q1 : ¬ (fc : Int) = 0 := by omega
      have q2 : ((fc : Int) != 0) = true := by simpa using hc
      rw [hs] at CS
      clear hs hc
      refine CS.out.mono ?_
      rintro e w2 ⟨rfl, k2⟩
      have K2 := Lib.hid k2.toBelow
      clear k2 CS
      go_simp
      go_wp2_with fail
      go_ret
      exact ⟨rfl, (HB.out.trans (K2.out.mono HB.out.size)).alloc (Nat.le_trans HB.out.size K2.out.size) _⟩
    | ok l =>
      have HL := Lib.hid hs
      rw [hs] at CS
      clear hs
      refine CS.out.mono ?_
      rintro e w2 ⟨v, rfl, o2, k2, x2⟩
      have O2 := Lib.hid o2
      have K2 := Lib.hid k2.toBelow
      clear CS k2 x2
      by_cases hl0 : l.length = 0
      · obtain ⟨va, vc, rfl⟩ := row_len o2
        rw [hl0]
        clear o2
        go_simp
        go_wp2_with fail
        go_ret
        exact ⟨rfl, (HB.out.trans (K2.out.mono HB.out.size)).alloc (Nat.le_trans HB.out.size K2.out.size) _⟩
      · obtain ⟨g, cap, hv, _, hg2⟩ := o2.form (by omega)
        subst hv
        have hcap : l.length ≤ cap ∧ cap ≤ maxLen := by
          rcases o2.2 with ⟨hv, _⟩ | ⟨g', cap', cur, hv, _, _, hc, hm, _⟩
          · cases hv
          · injection hv with _ _ hv; subst hv; exact ⟨hc, hm⟩
        unfold maxLen at hcap
        have hlen := (rawF_ok HL.out).1
        obtain ⟨k, hk⟩ : ∃ k, k = wh % l.length := ⟨_, rfl⟩
        have hkl : k < l.length := by rw [hk]; exact Nat.mod_lt _ (by omega)
        have hmod : (wh : Int) % (l.length : Int) = (k : Int) := by rw [hk]; rfl
        obtain ⟨t, ht⟩ : ∃ t, l[k]? = some t := ⟨l[k], List.getElem?_eq_getElem hkl⟩
        have HTK := Lib.hid ht
        clear hk ht o2
        have hz : stN (l.take 0) = 0 := rfl
        have HZ := Lib.hid hz
        generalize hln : l.length = n at *
        have HLN := Lib.hid hln
        clear hln hz
        have e1 : IntKind.i64.wrap (k : Int) = (k : Int) := by rw [IntKind.wrap_i64]; omega
        have q4 : (0 : Int) ≤ (k : Int) := by omega
        have q5 : (k : Int) ≤ (cap : Int) := by omega
        have q6 : ((n : Int) == 0) = false := by simp; omega
        have q7 : (0 : Int) ≤ (wh : Int) := by omega
        have q8 : (1 : Int) ≤ (n : Int) := by omega
        have q9 : (wh : Int) ≤ 65535 := by omega
        have hb := (Below.refl w2.heap.size w2).alloc (Nat.le_refl _) (.cells #[.int .i64 0, .int .i64 0] 26)
        have HB3 := Lib.hid hb
        clear hb
        go_simp
        go_wp2_with fail
        rw [hmod]
        clear hmod q7 q8 q9 hlen
        have hsz : w2.heap.size < (w2.alloc (.cells #[.int .i64 0, .int .i64 0] 26)).heap.size := by simp
        generalize w2.alloc (.cells #[.int .i64 0, .int .i64 0] 26) = W at *
        go_loopg [8, 45] k (fun gh s8 s45 wr => ∃ j : Nat, j + gh = k ∧ .int .i64 (stN (l.take j)) = s8 ∧ .int .i64 (j : Int) = s45 ∧ Below w2.heap.size w2 wr)
        case atStart => exact ⟨0, by omega, by rw [HZ.out], rfl, HB3.out⟩
        case round =>
          obtain ⟨j, hj, rfl, rfl, hbl⟩ := hrel
          have hbd := stN_bd (l.take j)
          have hlk : (l.take j).length ≤ j := List.length_take_le _ _
          have HBL := Lib.hid hbl
          have hln := HLN.out
          by_cases hlt : j < k
          · obtain ⟨g', rfl⟩ : ∃ g', gk = g' + 1 := ⟨gk - 1, by omega⟩
            obtain ⟨u, hu⟩ : ∃ u, l[j]? = some u := ⟨l[j], List.getElem?_eq_getElem (by omega)⟩
            have hd : stN (l.take (j + 1)) = stN (l.take j) + stK u.kind := by
              have hju : l[j]'(by omega) = u := (List.getElem?_eq_some_iff.1 hu).2
              rw [List.take_succ_eq_append_getElem (by omega), stN_app, hju]
              simp [stN]
            have o3 := row_keep O2.out hbl
            have k0 : wr.cell? ⟨g, j * 5, none⟩ = some (.int .i64 u.kind) := by rw [o3.cellAt _ (by omega)]; exact tcs_get l j 0 u hu (by omega)
            have k1 : wr.cell? ⟨g, j * 5 + 1, none⟩ = some (.string u.text) := by rw [o3.cellAt _ (by omega), tcs_get l j 1 u hu (by omega)]; rfl
            have k2 : wr.cell? ⟨g, j * 5 + 2, none⟩ = some (.int .i64 u.pos) := by rw [o3.cellAt _ (by omega), tcs_get l j 2 u hu (by omega)]; rfl
            have k3 : wr.cell? ⟨g, j * 5 + 3, none⟩ = some (.int .i64 u.line) := by rw [o3.cellAt _ (by omega), tcs_get l j 3 u hu (by omega)]; rfl
            have k4 : wr.cell? ⟨g, j * 5 + 4, none⟩ = some (.int .i64 u.col) := by rw [o3.cellAt _ (by omega), tcs_get l j 4 u hu (by omega)]; rfl
            obtain ⟨tk, tx, ta, tl, tc⟩ := u
            simp only at k0 k1 k2 k3 k4 hd
            have q1 : (j : Int) < (k : Int) := by omega
            clear o3 hu hbl hln
            generalize hdp : stN (l.take (j + 1)) = d' at *
            have HDP := Lib.hid hdp
            clear hdp
            generalize stN (l.take j) = d at *
            by_cases h12 : tk = 8
            · subst h12
              have hdd : d' = d + 1 := by rw [hd]; simp [stK]
              subst hdd
              clear hd
              go_wp2_with fail
              go_roundg g'
              case rel => exact ⟨j + 1, by omega, by rw [HDP.out], by go_num, HBL.out.alloc HBL.out.size _⟩
              case measure => omega
            · by_cases h13 : tk = 10
              · subst h13
                have hdd : d' = d - 1 := by rw [hd]; simp [stK]; omega
                subst hdd
                clear hd
                go_wp2_with fail
                go_roundg g'
                case rel => exact ⟨j + 1, by omega, by rw [HDP.out], by go_num, HBL.out.alloc HBL.out.size _⟩
                case measure => omega
              · have hdd : d' = d := by rw [hd]; simp [stK, h12, h13]
                subst hdd
                have e12 : ((tk : Int) == 8) = false := by simp; omega
                have e13 : ((tk : Int) == 10) = false := by simp; omega
                clear hd h12 h13
                go_wp2_with fail
                go_roundg g'
                case rel => exact ⟨j + 1, by omega, by rw [HDP.out], by go_num, HBL.out.alloc HBL.out.size _⟩
                case measure => omega
          · have hjk : j = k := by omega
            subst hjk
            have o3 := row_keep O2.out hbl
            have hps := (rawF_ok HL.out).2.2 t (List.mem_of_getElem? HTK.out)
            have k2 : wr.cell? ⟨g, j * 5 + 2, none⟩ = some (.int .i64 t.pos) := by rw [o3.cellAt _ (by omega), tcs_get l j 2 t HTK.out (by omega)]; rfl
            have hp1 := hps.1
            have HPS := Lib.hid hps.1
            have r1 : (t.pos : Int) ≤ (s.size : Int) := by omega
            have r2 : ¬ (s.size : Int) < (t.pos : Int) := by omega
            have r3 : ¬ (t.pos : Int) < 0 := by omega
            have r4 : (j : Int) < (n : Int) := by omega
            have r6 : ¬ 9223372036854775807 < t.pos + 1 := by omega
            have r7 : ¬ 9223372036854775807 < t.pos + 1 + (s.size - t.pos) := by omega
            have HO3 := Lib.hid o3
            clear o3 hps hbl hln
            by_cases hin : 0 < stN (l.take j)
            · generalize stN (l.take j) = d at *
              go_wp2_with fail
              go_ret
              exact ⟨rfl, (HB.out.trans (K2.out.mono HB.out.size)).trans (HBL.out.mono (Nat.le_trans HB.out.size K2.out.size))⟩
            · have hin' : ¬ (0 < stN (l.take j)) := hin
              have hp1' := HPS.out
              obtain ⟨m, hm, hml, hmat⟩ := spaces_at HL.out (by have := HSZ.out; omega) HTK.out (show stN (l.take j) ≤ 0 by omega) (spc_size hp1') (fun i h => spc_before hp1' h) (spc_at hp1') (fun i h => spc_after hp1' h)
              have HMA := Lib.hid hmat
              have HML := Lib.hid (hml.trans HLN.out)
              have hcr : ∀ W : World, Tab W → Calls Tryd.prog 7 #[.string (s.extract 0 t.pos ++ ⟨#[32]⟩ ++ s.extract t.pos s.size)] W (LayRes (fun b => b < W.heap.size) W (.ok m)) := fun W hW => by
                have := raw_below W (spc s t.pos) hW
                rw [hm] at this
                exact this
              have CR := Lib.hid hcr
              have hBW := (K2.out.mono (Nat.le_refl _)).trans (HBL.out.mono K2.out.size)
              have HTR := Lib.hid (HT1.out.below hBW)
              clear hm hml hmat hcr hBW hp1'
              generalize stN (l.take j) = d at *
              clear hin
              go_wp2_with fail
              have hS : (fun w' : World => w'.cell? ⟨g, j * 5 + 2, none⟩ = some (.int .i64 t.pos)) wr.drew := k2
              refine anyC_region (c := 21) (S := fun w' : World => w'.cell? ⟨g, j * 5 + 2, none⟩ = some (.int .i64 t.pos)) (by kernel_rfl) ?_
              refine anyC_take0 (i := 0) (v := ?_) (some 83) (by rfl) rfl (by kernel_rfl) (by kernel_rfl) (by kernel_rfl) (fun _ _ _ h => h) (Or.inl ⟨by rfl, ?_⟩) (by decide) (Or.inr (by assumption)) ?_
              rotate_left
              · (intro w; go_simp; try with_reducible rfl)
              (try simp only [Act.put, List.setIfInBounds_toArray, List.set_cons_zero, List.set_cons_succ])
              refine anyC_take0 (i := 1) (v := ?_) (some 84) (by rfl) rfl (by kernel_rfl) (by kernel_rfl) (by kernel_rfl) (fun _ _ _ h => h) (Or.inl ⟨by rfl, ?_⟩) (by decide) (Or.inr (by assumption)) ?_
              rotate_left
              · (intro w; go_simp; try with_reducible rfl)
              (try simp only [Act.put, List.setIfInBounds_toArray, List.set_cons_zero, List.set_cons_succ])
              refine anyC_take0 (i := 2) (v := ?_) (some 85) (by rfl) rfl (by kernel_rfl) (by kernel_rfl) (by kernel_rfl) (fun _ _ _ h => h) (Or.inl ⟨by rfl, ?_⟩) (by decide) (Or.inr (by assumption)) ?_
              rotate_left
              · (intro w; go_simp; try with_reducible rfl)
              (try simp only [Act.put, List.setIfInBounds_toArray, List.set_cons_zero, List.set_cons_succ])
              refine anyC_take0 (i := 3) (v := ?_) (some 86) (by rfl) rfl (by kernel_rfl) (by kernel_rfl) (by kernel_rfl) (fun _ _ _ h => h) (Or.inl ⟨by rfl, ?_⟩) (by decide) (Or.inr (by assumption)) ?_
              rotate_left
              · (intro w; go_simp; try with_reducible rfl)
              (try simp only [Act.put, List.setIfInBounds_toArray, List.set_cons_zero, List.set_cons_succ])
              refine anyC_take0 (i := 4) (v := ?_) (some 87) (by rfl) rfl (by kernel_rfl) (by kernel_rfl) (by kernel_rfl) (fun _ _ _ h => h) (Or.inl ⟨by rfl, ?_⟩) (by decide) (Or.inr (by assumption)) ?_
              rotate_left
              · (intro w; go_simp; try with_reducible rfl)
              (try simp only [Act.put, List.setIfInBounds_toArray, List.set_cons_zero, List.set_cons_succ])
              refine anyC_take (i := 5) (v := ?_) (some 88) (by rfl) rfl (by kernel_rfl) (by kernel_rfl) (by kernel_rfl) (by kernel_rfl) (by kernel_rfl) (fun _ _ _ h => h) (Or.inl ⟨by rfl, ?_⟩) (by assumption) ?_
              rotate_left
              · (intro w hSw; (try dsimp only at hSw); go_simp; try with_reducible rfl)
              (try simp only [Act.put, List.setIfInBounds_toArray, List.set_cons_zero, List.set_cons_succ])
              refine anyC_take0 (i := 6) (v := ?_) (some 89) (by rfl) rfl (by kernel_rfl) (by kernel_rfl) (by kernel_rfl) (fun _ _ _ h => h) (Or.inl ⟨by rfl, ?_⟩) (by decide) (Or.inr (by assumption)) ?_
              rotate_left
              · (intro w; go_simp; try with_reducible rfl)
              (try simp only [Act.put, List.setIfInBounds_toArray, List.set_cons_zero, List.set_cons_succ])
              refine anyC_take0 (i := 7) (v := ?_) (some 90) (by rfl) rfl (by kernel_rfl) (by kernel_rfl) (by kernel_rfl) (fun _ _ _ h => h) (Or.inl ⟨by rfl, ?_⟩) (by decide) (Or.inr (by assumption)) ?_
              rotate_left
              · (intro w; go_simp; try with_reducible rfl)
              (try simp only [Act.put, List.setIfInBounds_toArray, List.set_cons_zero, List.set_cons_succ])
              refine anyC_take0 (i := 8) (v := ?_) (some 91) (by rfl) rfl (by kernel_rfl) (by kernel_rfl) (by kernel_rfl) (fun _ _ _ h => h) (Or.inl ⟨by rfl, ?_⟩) (by decide) (Or.inr (by assumption)) ?_
              rotate_left
              · (intro w; go_simp; try with_reducible rfl)
              (try simp only [Act.put, List.setIfInBounds_toArray, List.set_cons_zero, List.set_cons_succ])
              refine anyC_take0 (i := 9) (v := ?_) (some 92) (by rfl) rfl (by kernel_rfl) (by kernel_rfl) (by kernel_rfl) (fun _ _ _ h => h) (Or.inl ⟨by rfl, ?_⟩) (by decide) (Or.inr (by assumption)) ?_
              rotate_left
              · (intro w; go_simp; try with_reducible rfl)
              (try simp only [Act.put, List.setIfInBounds_toArray, List.set_cons_zero, List.set_cons_succ])
              refine anyC_take0 (i := 10) (v := ?_) (some 93) (by rfl) rfl (by kernel_rfl) (by kernel_rfl) (by kernel_rfl) (fun _ _ _ h => h) (Or.inl ⟨by rfl, ?_⟩) (by decide) (Or.inr (by assumption)) ?_
              rotate_left
              · (intro w; go_simp; try with_reducible rfl)
              (try simp only [Act.put, List.setIfInBounds_toArray, List.set_cons_zero, List.set_cons_succ])
              refine anyC_take0 (i := 11) (v := ?_) (some 94) (by rfl) rfl (by kernel_rfl) (by kernel_rfl) (by kernel_rfl) (fun _ _ _ h => h) (Or.inl ⟨by rfl, ?_⟩) (by decide) (Or.inr (by assumption)) ?_
              rotate_left
              · (intro w; go_simp; try with_reducible rfl)
              (try simp only [Act.put, List.setIfInBounds_toArray, List.set_cons_zero, List.set_cons_succ])
              refine anyC_take0 (i := 12) (v := ?_) (some 95) (by rfl) rfl (by kernel_rfl) (by kernel_rfl) (by kernel_rfl) (fun _ _ _ h => h) (Or.inl ⟨by rfl, ?_⟩) (by decide) (Or.inr (by assumption)) ?_
              rotate_left
              · (intro w; go_simp; try with_reducible rfl)
              (try simp only [Act.put, List.setIfInBounds_toArray, List.set_cons_zero, List.set_cons_succ])
              refine anyC_take (i := 13) (v := ?_) (some 96) (by rfl) rfl (by kernel_rfl) (by kernel_rfl) (by kernel_rfl) (by kernel_rfl) (by kernel_rfl) (fun _ _ _ h => h) (Or.inl ⟨by rfl, ?_⟩) (by assumption) ?_
              rotate_left
              · (intro w hSw; (try dsimp only at hSw); go_simp; try with_reducible rfl)
              (try simp only [Act.put, List.setIfInBounds_toArray, List.set_cons_zero, List.set_cons_succ])
              refine anyC_take0 (i := 14) (v := ?_) (some 97) (by rfl) rfl (by kernel_rfl) (by kernel_rfl) (by kernel_rfl) (fun _ _ _ h => h) (Or.inl ⟨by rfl, ?_⟩) (by decide) (Or.inr (by assumption)) ?_
              rotate_left
              · (intro w; go_simp; try with_reducible rfl)
              (try simp only [Act.put, List.setIfInBounds_toArray, List.set_cons_zero, List.set_cons_succ])
              refine anyC_take0 (i := 15) (v := ?_) (some 98) (by rfl) rfl (by kernel_rfl) (by kernel_rfl) (by kernel_rfl) (fun _ _ _ h => h) (Or.inl ⟨by rfl, ?_⟩) (by decide) (Or.inr (by assumption)) ?_
              rotate_left
              · (intro w; go_simp; try with_reducible rfl)
              (try simp only [Act.put, List.setIfInBounds_toArray, List.set_cons_zero, List.set_cons_succ])
              clear hS
              refine anyC_two (i := 16) (j := 20) (by kernel_rfl) rfl rfl (by rfl) (by rfl) (fun K hK => ?ga) (fun K hK => ?gb)
              case' ga =>
                go_simp
                refine (CR.out _ (show Tab wr.drew from fun i hi => HTR.out i hi)).mono ?_
                rintro e w4 ⟨v4, rfl, o4, k4, x4⟩
                have hB4 := k4.toBelow
                have hlt := World.block_lt_of_cell? wr _ k2
                have hS : (fun w' : World => w'.cell? ⟨g, j * 5 + 2, none⟩ = some (.int .i64 t.pos)) w4 := (hB4.cell (p := ⟨g, j * 5 + 2, none⟩) hlt).trans k2
                refine hK.out _ _ (.inr (.inr hS)) ?_
                clear hK K
                (try simp only [Act.put, List.setIfInBounds_toArray, List.set_cons_zero, List.set_cons_succ])
                refine anyC_take0 (i := 17) (v := ?_) (some 82) (by rfl) rfl (by kernel_rfl) (by kernel_rfl) (by kernel_rfl) (fun _ _ _ h => h) (Or.inl ⟨by rfl, ?_⟩) (by decide) (Or.inr (by assumption)) ?_
                rotate_left
                · (intro w; go_simp; try with_reducible rfl)
                (try simp only [Act.put, List.setIfInBounds_toArray, List.set_cons_zero, List.set_cons_succ])
                refine anyC_take0 (i := 18) (v := ?_) (some 100) (by rfl) rfl (by kernel_rfl) (by kernel_rfl) (by kernel_rfl) (fun _ _ _ h => h) (Or.inl ⟨by rfl, ?_⟩) (by decide) (Or.inr (by assumption)) ?_
                rotate_left
                · (intro w; go_simp; try with_reducible rfl)
                (try simp only [Act.put, List.setIfInBounds_toArray, List.set_cons_zero, List.set_cons_succ])
                refine anyC_take0 (i := 19) (v := ?_) (some 101) (by rfl) rfl (by kernel_rfl) (by kernel_rfl) (by kernel_rfl) (fun _ _ _ h => h) (Or.inl ⟨by rfl, ?_⟩) (by decide) (Or.inr (by assumption)) ?_
                rotate_left
                · (intro w; go_simp; try with_reducible rfl)
                (try simp only [Act.put, List.setIfInBounds_toArray, List.set_cons_zero, List.set_cons_succ])
                refine anyC_one (i := 20) (by kernel_rfl) rfl (by rfl) (fun K hK => ?_)
                go_simp
                refine hK.out _ _ (.inr (.inr (cell_alloc1 hS _))) ?_
                clear hK K
                (try simp only [Act.put, List.setIfInBounds_toArray, List.set_cons_zero, List.set_cons_succ])
                refine anyC_one (i := 21) (by kernel_rfl) rfl (by rfl) (fun K hK => ?_)
                go_simp
                refine hK.out _ _ (.inl rfl) ?_
                clear hK K
                (try simp only [Act.put, List.setIfInBounds_toArray, List.set_cons_zero, List.set_cons_succ])
                refine anyC_one (i := 22) (by kernel_rfl) rfl (by rfl) (fun K hK => ?_)
                go_simp
                refine hK.out _ _ (.inr (.inl (by kernel_rfl))) ?_
                clear hK K
                apply anyC_end
                rotate_left
                · kernel_rfl
                have hml := HML.out
                rw [hml] at o4
                obtain ⟨g4, cap4, hv4, _, hg4⟩ := o4.form (by omega)
                subst hv4
                have hdr := (Below.refl wr.heap.size wr).drew.trans hB4
                have hbF : Below w2.heap.size w2 (w4.alloc (.cells #[.int .i64 0, .int .i64 0] 26)) := (HBL.out.trans (hdr.mono HBL.out.size)).alloc (Nat.le_trans HBL.out.size hdr.size) _
                have cb : (w4.alloc (.cells #[.int .i64 0, .int .i64 0] 26)).cell? ⟨w4.heap.size, 1, none⟩ = some (.int .i64 0) := (Bl.new w4 26 [.int .i64 0, .int .i64 0]).cell 1
                have hrl := (row_keep HO3.out hdr).alloc (.cells #[.int .i64 0, .int .i64 0] 26)
                have hrm := o4.alloc (.cells #[.int .i64 0, .int .i64 0] 26)
                have HBF := Lib.hid hbF
                have HRL := Lib.hid hrl
                have HRM := Lib.hid hrm
                clear hbF hrl hrm hdr o4 k4 x4 hB4 hS hlt hml k2
                generalize w4.alloc (.cells #[.int .i64 0, .int .i64 0] 26) = Wf at *
                generalize w4.heap.size = bx at *
              case' gb =>
                go_simp
                have hlt := World.block_lt_of_cell? wr _ k2
                have hb5 := (Below.refl wr.heap.size wr).drew.alloc (Nat.le_refl _) (.cells #[.int .i64 0, .int .i64 0] 26)
                have hS5 : (fun w' : World => w'.cell? ⟨g, j * 5 + 2, none⟩ = some (.int .i64 t.pos)) (wr.drew.alloc (.cells #[.int .i64 0, .int .i64 0] 26)) := cell_alloc1 k2 _
                have hbl5 : Bl (wr.drew.alloc (.cells #[.int .i64 0, .int .i64 0] 26)) wr.heap.size 26 [.int .i64 0, .int .i64 0] := Bl.new wr.drew 26 [.int .i64 0, .int .i64 0]
                refine hK.out _ _ (.inr (.inr hS5)) ?_
                clear hK K
                (try simp only [Act.put, List.setIfInBounds_toArray, List.set_cons_zero, List.set_cons_succ])
                refine anyC_one (i := 16) (by kernel_rfl) rfl (by rfl) (fun K hK => ?_)
                go_simp
                refine (CR.out _ (HTR.out.below hb5)).mono ?_
                rintro e w4 ⟨v4, rfl, o4, k4, x4⟩
                have hB4 := k4.toBelow
                have hS : (fun w' : World => w'.cell? ⟨g, j * 5 + 2, none⟩ = some (.int .i64 t.pos)) w4 := (hB4.cell (p := ⟨g, j * 5 + 2, none⟩) (World.block_lt_of_cell? _ _ hS5)).trans hS5
                refine hK.out _ _ (.inr (.inr hS)) ?_
                clear hK K
                (try simp only [Act.put, List.setIfInBounds_toArray, List.set_cons_zero, List.set_cons_succ])
                refine anyC_take0 (i := 17) (v := ?_) (some 82) (by rfl) rfl (by kernel_rfl) (by kernel_rfl) (by kernel_rfl) (fun _ _ _ h => h) (Or.inl ⟨by rfl, ?_⟩) (by decide) (Or.inr (by assumption)) ?_
                rotate_left
                · (intro w; go_simp; try with_reducible rfl)
                (try simp only [Act.put, List.setIfInBounds_toArray, List.set_cons_zero, List.set_cons_succ])
                refine anyC_take0 (i := 18) (v := ?_) (some 100) (by rfl) rfl (by kernel_rfl) (by kernel_rfl) (by kernel_rfl) (fun _ _ _ h => h) (Or.inl ⟨by rfl, ?_⟩) (by decide) (Or.inr (by assumption)) ?_
                rotate_left
                · (intro w; go_simp; try with_reducible rfl)
                (try simp only [Act.put, List.setIfInBounds_toArray, List.set_cons_zero, List.set_cons_succ])
                refine anyC_take0 (i := 19) (v := ?_) (some 101) (by rfl) rfl (by kernel_rfl) (by kernel_rfl) (by kernel_rfl) (fun _ _ _ h => h) (Or.inl ⟨by rfl, ?_⟩) (by decide) (Or.inr (by assumption)) ?_
                rotate_left
                · (intro w; go_simp; try with_reducible rfl)
                (try simp only [Act.put, List.setIfInBounds_toArray, List.set_cons_zero, List.set_cons_succ])
                refine anyC_one (i := 21) (by kernel_rfl) rfl (by rfl) (fun K hK => ?_)
                go_simp
                refine hK.out _ _ (.inl rfl) ?_
                clear hK K
                (try simp only [Act.put, List.setIfInBounds_toArray, List.set_cons_zero, List.set_cons_succ])
                have hbl4 := hbl5.below hB4 hbl5.lt
                have z0 : w4.cell? ⟨wr.heap.size, 0, none⟩ = some (.int .i64 0) := hbl4.cell 0
                have z1 : w4.cell? ⟨wr.heap.size, 1, none⟩ = some (.int .i64 0) := hbl4.cell 1
                have z2 : w4.frozen? ⟨wr.heap.size, 0, none⟩ = false := hbl4.froz 0
                have z3 : w4.frozen? ⟨wr.heap.size, 1, none⟩ = false := hbl4.froz 1
                refine anyC_one (i := 22) (by kernel_rfl) rfl (by rfl) (fun K hK => ?_)
                go_simp
                refine hK.out _ _ (.inr (.inl (by kernel_rfl))) ?_
                clear hK K
                apply anyC_end
                rotate_left
                · kernel_rfl
                have hml := HML.out
                rw [hml] at o4
                obtain ⟨g4, cap4, hv4, _, hg4⟩ := o4.form (by omega)
                subst hv4
                have hdr := hb5.trans (hB4.mono hb5.size)
                have og : Og wr.heap.size w4 ((w4.setCell ⟨wr.heap.size, 0, none⟩ (.int .i64 0)).setCell ⟨wr.heap.size, 1, none⟩ (.int .i64 0)) := ((Og.refl _ w4).set 0 _).set 1 _
                have hog : Below wr.heap.size w4 ((w4.setCell ⟨wr.heap.size, 0, none⟩ (.int .i64 0)).setCell ⟨wr.heap.size, 1, none⟩ (.int .i64 0)) := og.below (Nat.le_refl _) (Nat.le_of_lt hbl4.lt)
                have hdr2 := hdr.trans hog
                have hbF : Below w2.heap.size w2 ((w4.setCell ⟨wr.heap.size, 0, none⟩ (.int .i64 0)).setCell ⟨wr.heap.size, 1, none⟩ (.int .i64 0)) := HBL.out.trans (hdr2.mono HBL.out.size)
                have cb : ((w4.setCell ⟨wr.heap.size, 0, none⟩ (.int .i64 0)).setCell ⟨wr.heap.size, 1, none⟩ (.int .i64 0)).cell? ⟨wr.heap.size, 1, none⟩ = some (.int .i64 0) := ((hbl4.set 0 (.int .i64 0)).set 1 (.int .i64 0)).cell 1
                have hrl := row_keep HO3.out hdr2
                have hrm := og.row o4 (Bl.row_apart o4 hbl4 (by decide))
                have HBF := Lib.hid hbF
                have HRL := Lib.hid hrl
                have HRM := Lib.hid hrm
                clear hbF hrl hrm hdr hdr2 hog og o4 k4 x4 hB4 hS hS5 hlt hml k2 hb5 hbl5 hbl4 z0 z1 z2 z3
                generalize (w4.setCell ⟨wr.heap.size, 0, none⟩ (.int .i64 0)).setCell ⟨wr.heap.size, 1, none⟩ (.int .i64 0) = Wf at *
                generalize wr.heap.size = bx at *
              all_goals
                go_wp2_with fail
                go_loopg [114] n (fun gh s114 wx => ∃ i : Nat, i + gh = n ∧ .int .i64 (i : Int) = s114 ∧ wx.ownsRow 0 32 5 (.slice (some ⟨g, 0, none⟩) n cap) n (tcs l) ∧ wx.ownsRow 0 32 5 (.slice (some ⟨g4, 0, none⟩) n cap4) n (tcs m) ∧ Below w2.heap.size w2 wx)
                case atStart => exact ⟨0, by omega, rfl, HRL.out, HRM.out, HBF.out⟩
                case round =>
                  obtain ⟨i, hi, rfl, orl, orm, hbx⟩ := hrel
                  have HBX := Lib.hid hbx
                  have HRL2 := Lib.hid orl
                  have HRM2 := Lib.hid orm
                  by_cases hlt : i < n
                  · obtain ⟨g', rfl⟩ : ∃ g', gk = g' + 1 := ⟨gk - 1, by omega⟩
                    have hln := HLN.out
                    obtain ⟨u, hu⟩ : ∃ u, l[i]? = some u := ⟨l[i], List.getElem?_eq_getElem (by omega)⟩
                    obtain ⟨u', hu', m1, m2, m3, m4⟩ := HMA.out i u hu
                    have hup := ((rawF_ok HL.out).2.2 u (List.mem_of_getElem? hu)).1
                    have a0 : wr.cell? ⟨g, i * 5, none⟩ = some (.int .i64 u.kind) := by rw [orl.cellAt _ (by omega)]; exact tcs_get l i 0 u hu (by omega)
                    have a1 : wr.cell? ⟨g, i * 5 + 1, none⟩ = some (.string u.text) := by rw [orl.cellAt _ (by omega), tcs_get l i 1 u hu (by omega)]; rfl
                    have a2 : wr.cell? ⟨g, i * 5 + 2, none⟩ = some (.int .i64 u.pos) := by rw [orl.cellAt _ (by omega), tcs_get l i 2 u hu (by omega)]; rfl
                    have a3 : wr.cell? ⟨g, i * 5 + 3, none⟩ = some (.int .i64 u.line) := by rw [orl.cellAt _ (by omega), tcs_get l i 3 u hu (by omega)]; rfl
                    have b0 : wr.cell? ⟨g4, i * 5, none⟩ = some (.int .i64 u.kind) := by rw [orm.cellAt _ (by omega), ← m1]; exact tcs_get m i 0 u' hu' (by omega)
                    have b1 : wr.cell? ⟨g4, i * 5 + 1, none⟩ = some (.string u.text) := by rw [orm.cellAt _ (by omega), ← m2, tcs_get m i 1 u' hu' (by omega)]; rfl
                    have b2 : wr.cell? ⟨g4, i * 5 + 2, none⟩ = some (.int .i64 u'.pos) := by rw [orm.cellAt _ (by omega), tcs_get m i 2 u' hu' (by omega)]; rfl
                    have b3 : wr.cell? ⟨g4, i * 5 + 3, none⟩ = some (.int .i64 u.line) := by rw [orm.cellAt _ (by omega), ← m3, tcs_get m i 3 u' hu' (by omega)]; rfl
                    obtain ⟨tk, tx, ta, tl, tc⟩ := u
                    obtain ⟨uk, ux, ua, ul, uc⟩ := u'
                    simp only at a0 a1 a2 a3 b0 b1 b2 b3 m4 hup
                    have q1 : (i : Int) < (n : Int) := by omega
                    have q2 : (0 : Int) ≤ (i : Int) := by omega
                    have hta : (ta : Int) ≤ 70000 := by have := HSZ.out; omega
                    clear orl orm hbx hu hu' m1 m2 m3 hup hln
                    by_cases hji : j ≤ i
                    · rw [if_pos hji] at m4
                      subst m4
                      have q3 : (j : Int) ≤ (i : Int) := by omega
                      have q5' : IntKind.i64.wrap ((ta : Int) + 1) = (ta : Int) + 1 := by rw [IntKind.wrap_i64]; omega
                      go_wp2_with fail
                      go_quiet (fail)
                      go_wp2_with fail
                      go_roundg g'
                      case rel => exact ⟨i + 1, by omega, by go_num, row_keep HRL2.out (drewN_below (Below.refl _ _) _), row_keep HRM2.out (drewN_below (Below.refl _ _) _), drewN_below HBX.out _⟩
                      case measure => omega
                    · rw [if_neg hji] at m4
                      rw [Nat.add_zero] at m4
                      obtain rfl : ta = ua := m4.symm
                      have q3 : ¬ (j : Int) ≤ (i : Int) := by omega
                      have q5' : IntKind.i64.wrap (ta : Int) = (ta : Int) := by rw [IntKind.wrap_i64]; omega
                      go_wp2_with fail
                      go_quiet (fail)
                      go_wp2_with fail
                      go_roundg g'
                      case rel => exact ⟨i + 1, by omega, by go_num, row_keep HRL2.out (drewN_below (Below.refl _ _) _), row_keep HRM2.out (drewN_below (Below.refl _ _) _), drewN_below HBX.out _⟩
                      case measure => omega
                  · have hin2 : i = n := by omega
                    subst hin2
                    clear orl orm hbx
                    go_wp2_with fail
                    go_ret
                    exact ⟨rfl, (HB.out.trans (K2.out.mono HB.out.size)).trans (HBX.out.mono (Nat.le_trans HB.out.size K2.out.size))⟩
end Go.Proofs.YtpfoalooebmcgaaDoor
