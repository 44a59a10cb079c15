/- Check: names that stand twice. -/
import Derived.Test.YtkjjieloncdjhaaGreatDoorE13
import Derived.Test.YtkjjieloncdjhaaGreatDoorF14
namespace Go.Proofs.YtkjjieloncdjhaaGreatDoor
open Go Go.RowKit

set_option maxRecDepth 100000 in
set_option maxHeartbeats 2000000 in
theorem clos_153 (Bp : Nat) (yn : ByteArray) (yo yf : Int) (yt : T5) (yat : Int) (xn : ByteArray) (xo : Int) (w : World) (h0 : w.cell? ⟨Bp, 0, none⟩ = some (.string xn)) (h1 : w.cell? ⟨Bp, 1, none⟩ = some (.int .i64 xo)) (hlt : Bp < w.heap.size) :
    Calls Tryz.prog 153 #[.agg #[.string yn, .int .i64 yo, .int .i64 yf, .int .i64 yt.k, .int .i64 yt.s, .string yt.n, .int .i64 yt.u, .slice yt.a yt.l yt.c, .int .i64 yat], .pointer (some ⟨Bp, 0, none⟩)] w fun e w' => BoolEnd e ∧ Below w.heap.size w w' := by
  have HB := Lib.hid ((Below.refl w.heap.size w).alloc (Nat.le_refl _) (.cells #[.string yn, .int .i64 yo, .int .i64 yf, .int .i64 yt.k, .int .i64 yt.s, .string yt.n, .int .i64 yt.u, .slice yt.a yt.l yt.c, .int .i64 yat] 74))
  have hN := Bl.new w 74 [.string yn, .int .i64 yo, .int .i64 yf, .int .i64 yt.k, .int .i64 yt.s, .string yt.n, .int .i64 yt.u, .slice yt.a yt.l yt.c, .int .i64 yat]
  have g0 := (HB.out.cell (p := ⟨Bp, 0, none⟩) hlt).trans h0
  have g1 := (HB.out.cell (p := ⟨Bp, 1, none⟩) hlt).trans h1
  have d0 := hN.cell 0
  have d1 := hN.cell 1
  simp only [List.getElem?_cons_zero, List.getElem?_cons_succ] at d0 d1
  clear hN h0 h1
  cases e1 : (yo == xo)
  all_goals
    go_enter Tryz.func153, Tryz.ntmps153
    go_wp2_with fail
    all_goals
      go_ret
      exact ⟨⟨_, rfl⟩, HB.out⟩

set_option maxRecDepth 100000 in
set_option maxHeartbeats 2000000 in
theorem idx_153 (L Bp : Nat) (a : Option Addr) (n c : Nat) (xn : ByteArray) (xo : Int) (w : World) (hr : FiRow L w a n) (h0 : w.cell? ⟨Bp, 0, none⟩ = some (.string xn)) (h1 : w.cell? ⟨Bp, 1, none⟩ = some (.int .i64 xo)) (hlt : Bp < w.heap.size) :
    Calls Tryz.prog 180 #[.slice a n c, .func (.func 153) #[] #[.pointer (some ⟨Bp, 0, none⟩)]] w fun e w' => (∃ z : Int, e = .returned (.int .i64 z)) ∧ Below w.heap.size w w' := by
  have H0 := Lib.hid hr
  have hn := hr.1
  have HC := Lib.hid (fun wr (yn : ByteArray) (yo yf : Int) (yt : T5) (yat : Int) (hB : Below w.heap.size w wr) => clos_153 Bp yn yo yf yt yat xn xo wr ((hB.cell (p := ⟨Bp, 0, none⟩) hlt).trans h0) ((hB.cell (p := ⟨Bp, 1, none⟩) hlt).trans h1) (Nat.lt_of_lt_of_le hlt hB.size))
  clear hr h0 h1
  go_enter Tryz.func180, Tryz.ntmps180
  go_wp2_with fail
  go_loopw [8] (fun i wr => ∃ k : Nat, k ≤ n ∧ i = .int .i64 k ∧ Below w.heap.size w wr) (fun i _ => n - (intOf i).toNat)
  case atStart => exact ⟨0, by omega, rfl, Below.refl _ _⟩
  case round =>
    obtain ⟨k, hk, rfl, hB⟩ := hrel
    have HB := Lib.hid hB
    clear hB
    by_cases hlt' : k < n
    · obtain ⟨b, o, ⟨yn, yo, yf, yt, yat⟩, hA, _⟩ := (FiRow.og (og_of_below HB.out) H0.out).2 k hlt'
      obtain ⟨rfl, -, -, k0, k1, k2, k3, k4, k5, k6, k7, k8⟩ := hA
      dsimp only at k0 k1 k2 k3 k4 k5 k6 k7 k8
      have HCk := Lib.hid (HC.out wr yn yo yf yt yat HB.out)
      go_wp2_with fail
      refine HCk.out.mono ?_
      rintro e w1 ⟨⟨r, rfl⟩, hB⟩
      have HB1 := Lib.hid (HB.out.trans (hB.mono HB.out.size))
      clear hB
      cases r
      · go_wp2_with fail
        go_roundw
        case rel => exact ⟨k + 1, by omega, by go_num, HB1.out⟩
        case measure => simp [intOf]; omega
      · go_wp2_with fail
        go_ret
        exact ⟨⟨_, rfl⟩, HB1.out⟩
    · have hkn : k = n := by omega
      subst hkn
      go_wp2_with fail
      go_ret
      exact ⟨⟨_, rfl⟩, HB.out⟩

set_option maxRecDepth 100000 in
set_option maxHeartbeats 2000000 in
theorem cont_153 (L Bp : Nat) (a : Option Addr) (n c : Nat) (xn : ByteArray) (xo : Int) (w : World) (hr : FiRow L w a n) (h0 : w.cell? ⟨Bp, 0, none⟩ = some (.string xn)) (h1 : w.cell? ⟨Bp, 1, none⟩ = some (.int .i64 xo)) (hlt : Bp < w.heap.size) :
    Calls Tryz.prog 152 #[.slice a n c, .func (.func 153) #[] #[.pointer (some ⟨Bp, 0, none⟩)]] w fun e w' => BoolEnd e ∧ Below w.heap.size w w' := by
  have HX := Lib.hid (idx_153 L Bp a n c xn xo w hr h0 h1 hlt)
  clear hr h0 h1
  go_enter Tryz.func152, Tryz.ntmps152
  go_wp2_with fail
  refine HX.out.mono ?_
  rintro e w1 ⟨⟨z, rfl⟩, hR⟩
  have HR := Lib.hid hR
  clear hR HX
  go_wp2_with fail
  go_ret
  exact ⟨⟨_, rfl⟩, HR.out⟩

set_option maxRecDepth 100000 in
set_option maxHeartbeats 2000000 in
theorem clos_154 (Bp : Nat) (yn : ByteArray) (yo yf : Int) (yt : T5) (yat : Int) (xn : ByteArray) (xo : Int) (w : World) (h0 : w.cell? ⟨Bp, 0, none⟩ = some (.string xn)) (h1 : w.cell? ⟨Bp, 1, none⟩ = some (.int .i64 xo)) (hlt : Bp < w.heap.size) :
    Calls Tryz.prog 154 #[.agg #[.string yn, .int .i64 yo, .int .i64 yf, .int .i64 yt.k, .int .i64 yt.s, .string yt.n, .int .i64 yt.u, .slice yt.a yt.l yt.c, .int .i64 yat], .pointer (some ⟨Bp, 0, none⟩)] w fun e w' => BoolEnd e ∧ Below w.heap.size w w' := by
  have HB := Lib.hid ((Below.refl w.heap.size w).alloc (Nat.le_refl _) (.cells #[.string yn, .int .i64 yo, .int .i64 yf, .int .i64 yt.k, .int .i64 yt.s, .string yt.n, .int .i64 yt.u, .slice yt.a yt.l yt.c, .int .i64 yat] 74))
  have hN := Bl.new w 74 [.string yn, .int .i64 yo, .int .i64 yf, .int .i64 yt.k, .int .i64 yt.s, .string yt.n, .int .i64 yt.u, .slice yt.a yt.l yt.c, .int .i64 yat]
  have g0 := (HB.out.cell (p := ⟨Bp, 0, none⟩) hlt).trans h0
  have g1 := (HB.out.cell (p := ⟨Bp, 1, none⟩) hlt).trans h1
  have d0 := hN.cell 0
  have d1 := hN.cell 1
  simp only [List.getElem?_cons_zero, List.getElem?_cons_succ] at d0 d1
  clear hN h0 h1
  cases e1 : (yo == xo)
  all_goals
    go_enter Tryz.func154, Tryz.ntmps154
    go_wp2_with fail
    all_goals
      go_ret
      exact ⟨⟨_, rfl⟩, HB.out⟩

set_option maxRecDepth 100000 in
set_option maxHeartbeats 2000000 in
theorem idx_154 (L Bp : Nat) (a : Option Addr) (n c : Nat) (xn : ByteArray) (xo : Int) (w : World) (hr : FiRow L w a n) (h0 : w.cell? ⟨Bp, 0, none⟩ = some (.string xn)) (h1 : w.cell? ⟨Bp, 1, none⟩ = some (.int .i64 xo)) (hlt : Bp < w.heap.size) :
    Calls Tryz.prog 180 #[.slice a n c, .func (.func 154) #[] #[.pointer (some ⟨Bp, 0, none⟩)]] w fun e w' => (∃ z : Int, e = .returned (.int .i64 z)) ∧ Below w.heap.size w w' := by
  have H0 := Lib.hid hr
  have hn := hr.1
  have HC := Lib.hid (fun wr (yn : ByteArray) (yo yf : Int) (yt : T5) (yat : Int) (hB : Below w.heap.size w wr) => clos_154 Bp yn yo yf yt yat xn xo wr ((hB.cell (p := ⟨Bp, 0, none⟩) hlt).trans h0) ((hB.cell (p := ⟨Bp, 1, none⟩) hlt).trans h1) (Nat.lt_of_lt_of_le hlt hB.size))
  clear hr h0 h1
  go_enter Tryz.func180, Tryz.ntmps180
  go_wp2_with fail
  go_loopw [8] (fun i wr => ∃ k : Nat, k ≤ n ∧ i = .int .i64 k ∧ Below w.heap.size w wr) (fun i _ => n - (intOf i).toNat)
  case atStart => exact ⟨0, by omega, rfl, Below.refl _ _⟩
  case round =>
    obtain ⟨k, hk, rfl, hB⟩ := hrel
    have HB := Lib.hid hB
    clear hB
    by_cases hlt' : k < n
    · obtain ⟨b, o, ⟨yn, yo, yf, yt, yat⟩, hA, _⟩ := (FiRow.og (og_of_below HB.out) H0.out).2 k hlt'
      obtain ⟨rfl, -, -, k0, k1, k2, k3, k4, k5, k6, k7, k8⟩ := hA
      dsimp only at k0 k1 k2 k3 k4 k5 k6 k7 k8
      have HCk := Lib.hid (HC.out wr yn yo yf yt yat HB.out)
      go_wp2_with fail
      refine HCk.out.mono ?_
      rintro e w1 ⟨⟨r, rfl⟩, hB⟩
      have HB1 := Lib.hid (HB.out.trans (hB.mono HB.out.size))
      clear hB
      cases r
      · go_wp2_with fail
        go_roundw
        case rel => exact ⟨k + 1, by omega, by go_num, HB1.out⟩
        case measure => simp [intOf]; omega
      · go_wp2_with fail
        go_ret
        exact ⟨⟨_, rfl⟩, HB1.out⟩
    · have hkn : k = n := by omega
      subst hkn
      go_wp2_with fail
      go_ret
      exact ⟨⟨_, rfl⟩, HB.out⟩

set_option maxRecDepth 100000 in
set_option maxHeartbeats 2000000 in
theorem cont_154 (L Bp : Nat) (a : Option Addr) (n c : Nat) (xn : ByteArray) (xo : Int) (w : World) (hr : FiRow L w a n) (h0 : w.cell? ⟨Bp, 0, none⟩ = some (.string xn)) (h1 : w.cell? ⟨Bp, 1, none⟩ = some (.int .i64 xo)) (hlt : Bp < w.heap.size) :
    Calls Tryz.prog 152 #[.slice a n c, .func (.func 154) #[] #[.pointer (some ⟨Bp, 0, none⟩)]] w fun e w' => BoolEnd e ∧ Below w.heap.size w w' := by
  have HX := Lib.hid (idx_154 L Bp a n c xn xo w hr h0 h1 hlt)
  clear hr h0 h1
  go_enter Tryz.func152, Tryz.ntmps152
  go_wp2_with fail
  refine HX.out.mono ?_
  rintro e w1 ⟨⟨z, rfl⟩, hR⟩
  have HR := Lib.hid hR
  clear hR HX
  go_wp2_with fail
  go_ret
  exact ⟨⟨_, rfl⟩, HR.out⟩

set_option maxRecDepth 100000 in
set_option maxHeartbeats 2000000 in
theorem clos_155 (Bp : Nat) (yn : ByteArray) (yo ya : Int) (yl yh : T5) (xn : ByteArray) (xo : Int) (w : World) (h0 : w.cell? ⟨Bp, 0, none⟩ = some (.string xn)) (h1 : w.cell? ⟨Bp, 1, none⟩ = some (.int .i64 xo)) (hlt : Bp < w.heap.size) :
    Calls Tryz.prog 155 #[.agg #[.string yn, .int .i64 yo, .int .i64 ya, .int .i64 yl.k, .int .i64 yl.s, .string yl.n, .int .i64 yl.u, .slice yl.a yl.l yl.c, .int .i64 yh.k, .int .i64 yh.s, .string yh.n, .int .i64 yh.u, .slice yh.a yh.l yh.c], .pointer (some ⟨Bp, 0, none⟩)] w fun e w' => BoolEnd e ∧ Below w.heap.size w w' := by
  have HB := Lib.hid ((Below.refl w.heap.size w).alloc (Nat.le_refl _) (.cells #[.string yn, .int .i64 yo, .int .i64 ya, .int .i64 yl.k, .int .i64 yl.s, .string yl.n, .int .i64 yl.u, .slice yl.a yl.l yl.c, .int .i64 yh.k, .int .i64 yh.s, .string yh.n, .int .i64 yh.u, .slice yh.a yh.l yh.c] 79))
  have hN := Bl.new w 79 [.string yn, .int .i64 yo, .int .i64 ya, .int .i64 yl.k, .int .i64 yl.s, .string yl.n, .int .i64 yl.u, .slice yl.a yl.l yl.c, .int .i64 yh.k, .int .i64 yh.s, .string yh.n, .int .i64 yh.u, .slice yh.a yh.l yh.c]
  have g0 := (HB.out.cell (p := ⟨Bp, 0, none⟩) hlt).trans h0
  have g1 := (HB.out.cell (p := ⟨Bp, 1, none⟩) hlt).trans h1
  have d0 := hN.cell 0
  have d1 := hN.cell 1
  simp only [List.getElem?_cons_zero, List.getElem?_cons_succ] at d0 d1
  clear hN h0 h1
  cases e1 : (yo == xo)
  all_goals
    go_enter Tryz.func155, Tryz.ntmps155
    go_wp2_with fail
    all_goals
      go_ret
      exact ⟨⟨_, rfl⟩, HB.out⟩

set_option maxRecDepth 100000 in
set_option maxHeartbeats 2000000 in
theorem idx_155 (L Bp : Nat) (a : Option Addr) (n c : Nat) (xn : ByteArray) (xo : Int) (w : World) (hr : TmRow L w a n) (h0 : w.cell? ⟨Bp, 0, none⟩ = some (.string xn)) (h1 : w.cell? ⟨Bp, 1, none⟩ = some (.int .i64 xo)) (hlt : Bp < w.heap.size) :
    Calls Tryz.prog 74 #[.slice a n c, .func (.func 155) #[] #[.pointer (some ⟨Bp, 0, none⟩)]] w fun e w' => (∃ z : Int, e = .returned (.int .i64 z)) ∧ Below w.heap.size w w' := by
  have H0 := Lib.hid hr
  have hn := hr.1
  have HC := Lib.hid (fun wr (yn : ByteArray) (yo ya : Int) (yl yh : T5) (hB : Below w.heap.size w wr) => clos_155 Bp yn yo ya yl yh xn xo wr ((hB.cell (p := ⟨Bp, 0, none⟩) hlt).trans h0) ((hB.cell (p := ⟨Bp, 1, none⟩) hlt).trans h1) (Nat.lt_of_lt_of_le hlt hB.size))
  clear hr h0 h1
  go_enter Tryz.func74, Tryz.ntmps74
  go_wp2_with fail
  go_loopw [8] (fun i wr => ∃ k : Nat, k ≤ n ∧ i = .int .i64 k ∧ Below w.heap.size w wr) (fun i _ => n - (intOf i).toNat)
  case atStart => exact ⟨0, by omega, rfl, Below.refl _ _⟩
  case round =>
    obtain ⟨k, hk, rfl, hB⟩ := hrel
    have HB := Lib.hid hB
    clear hB
    by_cases hlt' : k < n
    · obtain ⟨b, o, yn, yo, ya, yl, yh, hA, _⟩ := (TmRow.og (og_of_below HB.out) H0.out).2 k hlt'
      obtain ⟨rfl, -, -, k0, k1, k2, k3, k4, k5, k6, k7, k8, k9, k10, k11, k12⟩ := hA
      have HCk := Lib.hid (HC.out wr yn yo ya yl yh HB.out)
      go_wp2_with fail
      refine HCk.out.mono ?_
      rintro e w1 ⟨⟨r, rfl⟩, hB⟩
      have HB1 := Lib.hid (HB.out.trans (hB.mono HB.out.size))
      clear hB
      cases r
      · go_wp2_with fail
        go_roundw
        case rel => exact ⟨k + 1, by omega, by go_num, HB1.out⟩
        case measure => simp [intOf]; omega
      · go_wp2_with fail
        go_ret
        exact ⟨⟨_, rfl⟩, HB1.out⟩
    · have hkn : k = n := by omega
      subst hkn
      go_wp2_with fail
      go_ret
      exact ⟨⟨_, rfl⟩, HB.out⟩

set_option maxRecDepth 100000 in
set_option maxHeartbeats 2000000 in
theorem cont_155 (L Bp : Nat) (a : Option Addr) (n c : Nat) (xn : ByteArray) (xo : Int) (w : World) (hr : TmRow L w a n) (h0 : w.cell? ⟨Bp, 0, none⟩ = some (.string xn)) (h1 : w.cell? ⟨Bp, 1, none⟩ = some (.int .i64 xo)) (hlt : Bp < w.heap.size) :
    Calls Tryz.prog 39 #[.slice a n c, .func (.func 155) #[] #[.pointer (some ⟨Bp, 0, none⟩)]] w fun e w' => BoolEnd e ∧ Below w.heap.size w w' := by
  have HX := Lib.hid (idx_155 L Bp a n c xn xo w hr h0 h1 hlt)
  clear hr h0 h1
  go_enter Tryz.func39, Tryz.ntmps39
  go_wp2_with fail
  refine HX.out.mono ?_
  rintro e w1 ⟨⟨z, rfl⟩, hR⟩
  have HR := Lib.hid hR
  clear hR HX
  go_wp2_with fail
  go_ret
  exact ⟨⟨_, rfl⟩, HR.out⟩

set_option maxRecDepth 100000 in
set_option maxHeartbeats 2000000 in
theorem clos_157 (Bp : Nat) (yn : ByteArray) (yo ym yv ya : Int) (yl yh : T5) (xn : ByteArray) (xo : Int) (xm : Int) (w : World) (h0 : w.cell? ⟨Bp, 0, none⟩ = some (.string xn)) (h1 : w.cell? ⟨Bp, 1, none⟩ = some (.int .i64 xo)) (h2 : w.cell? ⟨Bp, 2, none⟩ = some (.int .i64 xm)) (hlt : Bp < w.heap.size) :
    Calls Tryz.prog 157 #[.agg #[.string yn, .int .i64 yo, .int .i64 ym, .int .i64 yv, .int .i64 ya, .int .i64 yl.k, .int .i64 yl.s, .string yl.n, .int .i64 yl.u, .slice yl.a yl.l yl.c, .int .i64 yh.k, .int .i64 yh.s, .string yh.n, .int .i64 yh.u, .slice yh.a yh.l yh.c], .pointer (some ⟨Bp, 0, none⟩)] w fun e w' => BoolEnd e ∧ Below w.heap.size w w' := by
  have HB := Lib.hid ((Below.refl w.heap.size w).alloc (Nat.le_refl _) (.cells #[.string yn, .int .i64 yo, .int .i64 ym, .int .i64 yv, .int .i64 ya, .int .i64 yl.k, .int .i64 yl.s, .string yl.n, .int .i64 yl.u, .slice yl.a yl.l yl.c, .int .i64 yh.k, .int .i64 yh.s, .string yh.n, .int .i64 yh.u, .slice yh.a yh.l yh.c] 76))
  have hN := Bl.new w 76 [.string yn, .int .i64 yo, .int .i64 ym, .int .i64 yv, .int .i64 ya, .int .i64 yl.k, .int .i64 yl.s, .string yl.n, .int .i64 yl.u, .slice yl.a yl.l yl.c, .int .i64 yh.k, .int .i64 yh.s, .string yh.n, .int .i64 yh.u, .slice yh.a yh.l yh.c]
  have g0 := (HB.out.cell (p := ⟨Bp, 0, none⟩) hlt).trans h0
  have g1 := (HB.out.cell (p := ⟨Bp, 1, none⟩) hlt).trans h1
  have g2 := (HB.out.cell (p := ⟨Bp, 2, none⟩) hlt).trans h2
  have d0 := hN.cell 0
  have d1 := hN.cell 1
  have d2 := hN.cell 2
  simp only [List.getElem?_cons_zero, List.getElem?_cons_succ] at d0 d1 d2
  clear hN h0 h1 h2
  cases e1 : (yo == xo) <;> cases e2 : (ym == xm)
  all_goals
    go_enter Tryz.func157, Tryz.ntmps157
    go_wp2_with fail
    all_goals
      go_ret
      exact ⟨⟨_, rfl⟩, HB.out⟩

set_option maxRecDepth 100000 in
set_option maxHeartbeats 2000000 in
theorem idx_157 (L Bp : Nat) (a : Option Addr) (n c : Nat) (xn : ByteArray) (xo : Int) (xm : Int) (w : World) (hr : TpRow L w a n) (h0 : w.cell? ⟨Bp, 0, none⟩ = some (.string xn)) (h1 : w.cell? ⟨Bp, 1, none⟩ = some (.int .i64 xo)) (h2 : w.cell? ⟨Bp, 2, none⟩ = some (.int .i64 xm)) (hlt : Bp < w.heap.size) :
    Calls Tryz.prog 181 #[.slice a n c, .func (.func 157) #[] #[.pointer (some ⟨Bp, 0, none⟩)]] w fun e w' => (∃ z : Int, e = .returned (.int .i64 z)) ∧ Below w.heap.size w w' := by
  have H0 := Lib.hid hr
  have hn := hr.1
  have HC := Lib.hid (fun wr (yn : ByteArray) (yo ym yv ya : Int) (yl yh : T5) (hB : Below w.heap.size w wr) => clos_157 Bp yn yo ym yv ya yl yh xn xo xm wr ((hB.cell (p := ⟨Bp, 0, none⟩) hlt).trans h0) ((hB.cell (p := ⟨Bp, 1, none⟩) hlt).trans h1) ((hB.cell (p := ⟨Bp, 2, none⟩) hlt).trans h2) (Nat.lt_of_lt_of_le hlt hB.size))
  clear hr h0 h1 h2
  go_enter Tryz.func181, Tryz.ntmps181
  go_wp2_with fail
  go_loopw [8] (fun i wr => ∃ k : Nat, k ≤ n ∧ i = .int .i64 k ∧ Below w.heap.size w wr) (fun i _ => n - (intOf i).toNat)
  case atStart => exact ⟨0, by omega, rfl, Below.refl _ _⟩
  case round =>
    obtain ⟨k, hk, rfl, hB⟩ := hrel
    have HB := Lib.hid hB
    clear hB
    by_cases hlt' : k < n
    · obtain ⟨b, o, ⟨yn, yo, ym, yv, ya, yl, yh⟩, hA, _⟩ := (TpRow.og (og_of_below HB.out) H0.out).2 k hlt'
      obtain ⟨rfl, -, -, k0, k1, k2, k3, k4, k5, k6, k7, k8, k9, k10, k11, k12, k13, k14⟩ := hA
      dsimp only at k0 k1 k2 k3 k4 k5 k6 k7 k8 k9 k10 k11 k12 k13 k14
      have HCk := Lib.hid (HC.out wr yn yo ym yv ya yl yh HB.out)
      go_wp2_with fail
      refine HCk.out.mono ?_
      rintro e w1 ⟨⟨r, rfl⟩, hB⟩
      have HB1 := Lib.hid (HB.out.trans (hB.mono HB.out.size))
      clear hB
      cases r
      · go_wp2_with fail
        go_roundw
        case rel => exact ⟨k + 1, by omega, by go_num, HB1.out⟩
        case measure => simp [intOf]; omega
      · go_wp2_with fail
        go_ret
        exact ⟨⟨_, rfl⟩, HB1.out⟩
    · have hkn : k = n := by omega
      subst hkn
      go_wp2_with fail
      go_ret
      exact ⟨⟨_, rfl⟩, HB.out⟩

set_option maxRecDepth 100000 in
set_option maxHeartbeats 2000000 in
theorem cont_157 (L Bp : Nat) (a : Option Addr) (n c : Nat) (xn : ByteArray) (xo : Int) (xm : Int) (w : World) (hr : TpRow L w a n) (h0 : w.cell? ⟨Bp, 0, none⟩ = some (.string xn)) (h1 : w.cell? ⟨Bp, 1, none⟩ = some (.int .i64 xo)) (h2 : w.cell? ⟨Bp, 2, none⟩ = some (.int .i64 xm)) (hlt : Bp < w.heap.size) :
    Calls Tryz.prog 156 #[.slice a n c, .func (.func 157) #[] #[.pointer (some ⟨Bp, 0, none⟩)]] w fun e w' => BoolEnd e ∧ Below w.heap.size w w' := by
  have HX := Lib.hid (idx_157 L Bp a n c xn xo xm w hr h0 h1 h2 hlt)
  clear hr h0 h1 h2
  go_enter Tryz.func156, Tryz.ntmps156
  go_wp2_with fail
  refine HX.out.mono ?_
  rintro e w1 ⟨⟨z, rfl⟩, hR⟩
  have HR := Lib.hid hR
  clear hR HX
  go_wp2_with fail
  go_ret
  exact ⟨⟨_, rfl⟩, HR.out⟩

theorem FiRow.take {L : Nat} {w : World} {a : Option Addr} {n k : Nat} (h : FiRow L w a n) (hk : k ≤ n) : FiRow L w a k := ⟨by have := h.1; omega, fun i hi => h.2 i (by omega)⟩
theorem TmRow.take {L : Nat} {w : World} {a : Option Addr} {n k : Nat} (h : TmRow L w a n) (hk : k ≤ n) : TmRow L w a k := ⟨by have := h.1; omega, fun i hi => h.2 i (by omega)⟩
theorem TpRow.take {L : Nat} {w : World} {a : Option Addr} {n k : Nat} (h : TpRow L w a n) (hk : k ≤ n) : TpRow L w a k := ⟨by have := h.1; omega, fun i hi => h.2 i (by omega)⟩

set_option maxRecDepth 100000 in
set_option maxHeartbeats 8000000 in
theorem checkFieldName_all (L k : Nat) (ca ma fa ta ya : Option Addr) (cn mn fn tn yn cc mc fc tc yc : Nat) (mi : Int) (w : World) (_ : cn ≤ 1048576) (_ : mn ≤ 1048576) (_ : fn ≤ 1048576) (_ : tn ≤ 1048576) (_ : yn ≤ 1048576) (hk : k < fn) (hcap : fn ≤ fc) (hP : PrgR L w ca ma fa ta ya cn mn fn tn yn) :
    Calls Tryz.prog 97 #[.agg #[.slice ca cn cc, .slice ma mn mc, .slice fa fn fc, .slice ta tn tc, .slice ya yn yc, .int .i64 mi], .int .i64 k] w fun e w' => (∃ z : Int, e = .returned (.int .i64 z)) ∧ Below w.heap.size w w' := by
  obtain ⟨b2, o2, ⟨xn, xo, xf, xt, xat⟩, hA, _⟩ := hP.fi.2 k hk
  obtain rfl := hA.ad
  have HPR := Lib.hid hP
  have hB0 := Bl.new w 30 [.slice ca cn cc, .slice ma mn mc, .slice (some ⟨b2, o2, none⟩) fn fc, .slice ta tn tc, .slice ya yn yc, .int .i64 mi]
  have hB2 := Bl.new (w.alloc (.cells #[.slice ca cn cc, .slice ma mn mc, .slice (some ⟨b2, o2, none⟩) fn fc, .slice ta tn tc, .slice ya yn yc, .int .i64 mi] 30)) 74 [.string xn, .int .i64 xo, .int .i64 xf, .int .i64 xt.k, .int .i64 xt.s, .string xt.n, .int .i64 xt.u, .slice xt.a xt.l xt.c, .int .i64 xat]
  rw [World.size_alloc] at hB2
  have HPb := Lib.hid (hB0.alloc (.cells #[.string xn, .int .i64 xo, .int .i64 xf, .int .i64 xt.k, .int .i64 xt.s, .string xt.n, .int .i64 xt.u, .slice xt.a xt.l xt.c, .int .i64 xat] 74))
  have HCb := Lib.hid hB2
  have HB1 := Lib.hid ((Below.refl w.heap.size w).alloc (Nat.le_refl _) (.cells #[.slice ca cn cc, .slice ma mn mc, .slice (some ⟨b2, o2, none⟩) fn fc, .slice ta tn tc, .slice ya yn yc, .int .i64 mi] 30))
  have HB2 := Lib.hid (HB1.out.alloc (by simp) (.cells #[.string xn, .int .i64 xo, .int .i64 xf, .int .i64 xt.k, .int .i64 xt.s, .string xt.n, .int .i64 xt.u, .slice xt.a xt.l xt.c, .int .i64 xat] 74))
  have HBw : Hid (∀ W', Below (w.heap.size + 1 + 1) ((w.alloc (.cells #[.slice ca cn cc, .slice ma mn mc, .slice (some ⟨b2, o2, none⟩) fn fc, .slice ta tn tc, .slice ya yn yc, .int .i64 mi] 30)).alloc (.cells #[.string xn, .int .i64 xo, .int .i64 xf, .int .i64 xt.k, .int .i64 xt.s, .string xt.n, .int .i64 xt.u, .slice xt.a xt.l xt.c, .int .i64 xat] 74)) W' → Below w.heap.size w W') := Lib.hid (fun W' hB => HB2.out.trans (hB.mono (by omega)))
  have HB_W := Lib.hid (Below.refl (w.heap.size + 1 + 1) ((w.alloc (.cells #[.slice ca cn cc, .slice ma mn mc, .slice (some ⟨b2, o2, none⟩) fn fc, .slice ta tn tc, .slice ya yn yc, .int .i64 mi] 30)).alloc (.cells #[.string xn, .int .i64 xo, .int .i64 xf, .int .i64 xt.k, .int .i64 xt.s, .string xt.n, .int .i64 xt.u, .slice xt.a xt.l xt.c, .int .i64 xat] 74)))
  have hsW : ((w.alloc (.cells #[.slice ca cn cc, .slice ma mn mc, .slice (some ⟨b2, o2, none⟩) fn fc, .slice ta tn tc, .slice ya yn yc, .int .i64 mi] 30)).alloc (.cells #[.string xn, .int .i64 xo, .int .i64 xf, .int .i64 xt.k, .int .i64 xt.s, .string xt.n, .int .i64 xt.u, .slice xt.a xt.l xt.c, .int .i64 xat] 74)).heap.size = w.heap.size + 1 + 1 := by simp
  have hlt0 : w.heap.size < w.heap.size + 1 + 1 := by omega
  have hlt1 : w.heap.size + 1 < w.heap.size + 1 + 1 := by omega
  have qq := hB0.cell 2
  simp only [List.getElem?_cons_zero, List.getElem?_cons_succ] at qq
  have d0 := HCb.out.cell 0
  simp only [List.getElem?_cons_zero] at d0
  have hAA := hA.og (og_of_below HB1.out)
  obtain ⟨-, -, -, k0, k1, k2, k3, k4, k5, k6, k7, k8⟩ := hAA
  dsimp only at k0 k1 k2 k3 k4 k5 k6 k7 k8
  have q2 := HPb.out.cell 2
  simp only [List.getElem?_cons_zero, List.getElem?_cons_succ] at q2
  have hi1 : ¬ (fc : Int) < (k : Int) := by omega
  have hi2 : (k : Int) ≤ (fc : Int) := by omega
  have HRow := Lib.hid (show FiRow L ((w.alloc (.cells #[.slice ca cn cc, .slice ma mn mc, .slice (some ⟨b2, o2, none⟩) fn fc, .slice ta tn tc, .slice ya yn yc, .int .i64 mi] 30)).alloc (.cells #[.string xn, .int .i64 xo, .int .i64 xf, .int .i64 xt.k, .int .i64 xt.s, .string xt.n, .int .i64 xt.u, .slice xt.a xt.l xt.c, .int .i64 xat] 74)) (some ⟨b2, o2, none⟩) k from (hP.below HB2.out).fi.take (by omega))
  have HD0 := Lib.hid (show ((w.alloc (.cells #[.slice ca cn cc, .slice ma mn mc, .slice (some ⟨b2, o2, none⟩) fn fc, .slice ta tn tc, .slice ya yn yc, .int .i64 mi] 30)).alloc (.cells #[.string xn, .int .i64 xo, .int .i64 xf, .int .i64 xt.k, .int .i64 xt.s, .string xt.n, .int .i64 xt.u, .slice xt.a xt.l xt.c, .int .i64 xat] 74)).cell? ⟨w.heap.size + 1, 0, none⟩ = some (.string xn) from HCb.out.cell 0)
  have HD1 := Lib.hid (show ((w.alloc (.cells #[.slice ca cn cc, .slice ma mn mc, .slice (some ⟨b2, o2, none⟩) fn fc, .slice ta tn tc, .slice ya yn yc, .int .i64 mi] 30)).alloc (.cells #[.string xn, .int .i64 xo, .int .i64 xf, .int .i64 xt.k, .int .i64 xt.s, .string xt.n, .int .i64 xt.u, .slice xt.a xt.l xt.c, .int .i64 xat] 74)).cell? ⟨w.heap.size + 1, 1, none⟩ = some (.int .i64 xo) from HCb.out.cell 1)
  clear hB2 hB0 hP hA
  go_enter Tryz.func97, Tryz.ntmps97
  go_wp2_with fail
  refine (cont_153 L (w.heap.size + 1) _ _ _ xn xo _ HRow.out HD0.out HD1.out (by rw [hsW]; omega)).mono ?_
  rintro e w1 ⟨⟨r, rfl⟩, hB'⟩
  have HB3 := Lib.hid (HB2.out.trans (hB'.mono (by rw [hsW]; omega)))
  clear hB'
  go_wp2_with fail
  cases r
  all_goals
    refine (twice_all _ _).mono ?_
    rintro e w' ⟨rfl, rfl⟩
    go_wp2_with fail
    go_ret
    exact ⟨⟨_, rfl⟩, HB3.out⟩

set_option maxRecDepth 100000 in
set_option maxHeartbeats 8000000 in
theorem checkMethodName_all (L k : Nat) (ca ma fa ta ya : Option Addr) (cn mn fn tn yn cc mc fc tc yc : Nat) (mi : Int) (w : World) (_ : cn ≤ 1048576) (_ : mn ≤ 1048576) (_ : fn ≤ 1048576) (_ : tn ≤ 1048576) (_ : yn ≤ 1048576) (hk : k < mn) (hP : PrgR L w ca ma fa ta ya cn mn fn tn yn) :
    Calls Tryz.prog 98 #[.agg #[.slice ca cn cc, .slice ma mn mc, .slice fa fn fc, .slice ta tn tc, .slice ya yn yc, .int .i64 mi], .int .i64 k] w fun e w' => (∃ z : Int, e = .returned (.int .i64 z)) ∧ Below w.heap.size w w' := by
  obtain ⟨b2, o2, ⟨xn, xo, xf, xt, xp, xl, xr, xb, xat⟩, hA, _⟩ := hP.me.2 k hk
  obtain rfl := hA.ad
  have HPR := Lib.hid hP
  have hB0 := Bl.new w 30 [.slice ca cn cc, .slice (some ⟨b2, o2, none⟩) mn mc, .slice fa fn fc, .slice ta tn tc, .slice ya yn yc, .int .i64 mi]
  have hB2 := Bl.new (w.alloc (.cells #[.slice ca cn cc, .slice (some ⟨b2, o2, none⟩) mn mc, .slice fa fn fc, .slice ta tn tc, .slice ya yn yc, .int .i64 mi] 30)) 64 [.string xn, .int .i64 xo, .int .i64 xf, .slice xt.a xt.l xt.c, .int .i64 xp, .slice xl.a xl.l xl.c, .int .i64 xr.k, .int .i64 xr.s, .string xr.n, .int .i64 xr.u, .slice xr.a xr.l xr.c, .pointer xb, .int .i64 xat]
  rw [World.size_alloc] at hB2
  have HPb := Lib.hid (hB0.alloc (.cells #[.string xn, .int .i64 xo, .int .i64 xf, .slice xt.a xt.l xt.c, .int .i64 xp, .slice xl.a xl.l xl.c, .int .i64 xr.k, .int .i64 xr.s, .string xr.n, .int .i64 xr.u, .slice xr.a xr.l xr.c, .pointer xb, .int .i64 xat] 64))
  have HCb := Lib.hid hB2
  have HB1 := Lib.hid ((Below.refl w.heap.size w).alloc (Nat.le_refl _) (.cells #[.slice ca cn cc, .slice (some ⟨b2, o2, none⟩) mn mc, .slice fa fn fc, .slice ta tn tc, .slice ya yn yc, .int .i64 mi] 30))
  have HB2 := Lib.hid (HB1.out.alloc (by simp) (.cells #[.string xn, .int .i64 xo, .int .i64 xf, .slice xt.a xt.l xt.c, .int .i64 xp, .slice xl.a xl.l xl.c, .int .i64 xr.k, .int .i64 xr.s, .string xr.n, .int .i64 xr.u, .slice xr.a xr.l xr.c, .pointer xb, .int .i64 xat] 64))
  have HBw : Hid (∀ W', Below (w.heap.size + 1 + 1) ((w.alloc (.cells #[.slice ca cn cc, .slice (some ⟨b2, o2, none⟩) mn mc, .slice fa fn fc, .slice ta tn tc, .slice ya yn yc, .int .i64 mi] 30)).alloc (.cells #[.string xn, .int .i64 xo, .int .i64 xf, .slice xt.a xt.l xt.c, .int .i64 xp, .slice xl.a xl.l xl.c, .int .i64 xr.k, .int .i64 xr.s, .string xr.n, .int .i64 xr.u, .slice xr.a xr.l xr.c, .pointer xb, .int .i64 xat] 64)) W' → Below w.heap.size w W') := Lib.hid (fun W' hB => HB2.out.trans (hB.mono (by omega)))
  have HB_W := Lib.hid (Below.refl (w.heap.size + 1 + 1) ((w.alloc (.cells #[.slice ca cn cc, .slice (some ⟨b2, o2, none⟩) mn mc, .slice fa fn fc, .slice ta tn tc, .slice ya yn yc, .int .i64 mi] 30)).alloc (.cells #[.string xn, .int .i64 xo, .int .i64 xf, .slice xt.a xt.l xt.c, .int .i64 xp, .slice xl.a xl.l xl.c, .int .i64 xr.k, .int .i64 xr.s, .string xr.n, .int .i64 xr.u, .slice xr.a xr.l xr.c, .pointer xb, .int .i64 xat] 64)))
  have hsW : ((w.alloc (.cells #[.slice ca cn cc, .slice (some ⟨b2, o2, none⟩) mn mc, .slice fa fn fc, .slice ta tn tc, .slice ya yn yc, .int .i64 mi] 30)).alloc (.cells #[.string xn, .int .i64 xo, .int .i64 xf, .slice xt.a xt.l xt.c, .int .i64 xp, .slice xl.a xl.l xl.c, .int .i64 xr.k, .int .i64 xr.s, .string xr.n, .int .i64 xr.u, .slice xr.a xr.l xr.c, .pointer xb, .int .i64 xat] 64)).heap.size = w.heap.size + 1 + 1 := by simp
  have hlt0 : w.heap.size < w.heap.size + 1 + 1 := by omega
  have hlt1 : w.heap.size + 1 < w.heap.size + 1 + 1 := by omega
  have qq := hB0.cell 1
  simp only [List.getElem?_cons_zero, List.getElem?_cons_succ] at qq
  have d0 := HCb.out.cell 0
  simp only [List.getElem?_cons_zero] at d0
  have hAA := hA.og (og_of_below HB1.out)
  obtain ⟨-, -, -, k0, k1, k2, k3, k4, k5, k6, k7, k8, k9, k10, k11, k12⟩ := hAA
  dsimp only at k0 k1 k2 k3 k4 k5 k6 k7 k8 k9 k10 k11 k12
  have q2 := HPb.out.cell 2
  simp only [List.getElem?_cons_zero, List.getElem?_cons_succ] at q2
  have HRow := Lib.hid (show FiRow L ((w.alloc (.cells #[.slice ca cn cc, .slice (some ⟨b2, o2, none⟩) mn mc, .slice fa fn fc, .slice ta tn tc, .slice ya yn yc, .int .i64 mi] 30)).alloc (.cells #[.string xn, .int .i64 xo, .int .i64 xf, .slice xt.a xt.l xt.c, .int .i64 xp, .slice xl.a xl.l xl.c, .int .i64 xr.k, .int .i64 xr.s, .string xr.n, .int .i64 xr.u, .slice xr.a xr.l xr.c, .pointer xb, .int .i64 xat] 64)) fa fn from (hP.below HB2.out).fi)
  have HD0 := Lib.hid (show ((w.alloc (.cells #[.slice ca cn cc, .slice (some ⟨b2, o2, none⟩) mn mc, .slice fa fn fc, .slice ta tn tc, .slice ya yn yc, .int .i64 mi] 30)).alloc (.cells #[.string xn, .int .i64 xo, .int .i64 xf, .slice xt.a xt.l xt.c, .int .i64 xp, .slice xl.a xl.l xl.c, .int .i64 xr.k, .int .i64 xr.s, .string xr.n, .int .i64 xr.u, .slice xr.a xr.l xr.c, .pointer xb, .int .i64 xat] 64)).cell? ⟨w.heap.size + 1, 0, none⟩ = some (.string xn) from HCb.out.cell 0)
  have HD1 := Lib.hid (show ((w.alloc (.cells #[.slice ca cn cc, .slice (some ⟨b2, o2, none⟩) mn mc, .slice fa fn fc, .slice ta tn tc, .slice ya yn yc, .int .i64 mi] 30)).alloc (.cells #[.string xn, .int .i64 xo, .int .i64 xf, .slice xt.a xt.l xt.c, .int .i64 xp, .slice xl.a xl.l xl.c, .int .i64 xr.k, .int .i64 xr.s, .string xr.n, .int .i64 xr.u, .slice xr.a xr.l xr.c, .pointer xb, .int .i64 xat] 64)).cell? ⟨w.heap.size + 1, 1, none⟩ = some (.int .i64 xo) from HCb.out.cell 1)
  clear hB2 hB0 hP hA
  go_enter Tryz.func98, Tryz.ntmps98
  go_wp2_with fail
  refine (cont_154 L (w.heap.size + 1) _ _ _ xn xo _ HRow.out HD0.out HD1.out (by rw [hsW]; omega)).mono ?_
  rintro e w1 ⟨⟨r, rfl⟩, hB'⟩
  have HB3 := Lib.hid (HB2.out.trans (hB'.mono (by rw [hsW]; omega)))
  clear hB'
  go_wp2_with fail
  cases r
  all_goals
    refine (twice_all _ _).mono ?_
    rintro e w' ⟨rfl, rfl⟩
    go_wp2_with fail
    go_ret
    exact ⟨⟨_, rfl⟩, HB3.out⟩

set_option maxRecDepth 100000 in
set_option maxHeartbeats 8000000 in
theorem checkTypeMemberName_all (L k : Nat) (ca ma fa ta ya : Option Addr) (cn mn fn tn yn cc mc fc tc yc : Nat) (mi : Int) (w : World) (_ : cn ≤ 1048576) (_ : mn ≤ 1048576) (_ : fn ≤ 1048576) (_ : tn ≤ 1048576) (_ : yn ≤ 1048576) (hk : k < yn) (hcap : yn ≤ yc) (hP : PrgR L w ca ma fa ta ya cn mn fn tn yn) :
    Calls Tryz.prog 99 #[.agg #[.slice ca cn cc, .slice ma mn mc, .slice fa fn fc, .slice ta tn tc, .slice ya yn yc, .int .i64 mi], .int .i64 k] w fun e w' => (∃ z : Int, e = .returned (.int .i64 z)) ∧ Below w.heap.size w w' := by
  obtain ⟨b2, o2, xn, xo, xa, xl, xh, hA, _⟩ := hP.tm.2 k hk
  obtain rfl := hA.ad
  have HPR := Lib.hid hP
  have hB0 := Bl.new w 30 [.slice ca cn cc, .slice ma mn mc, .slice fa fn fc, .slice ta tn tc, .slice (some ⟨b2, o2, none⟩) yn yc, .int .i64 mi]
  have hB2 := Bl.new (w.alloc (.cells #[.slice ca cn cc, .slice ma mn mc, .slice fa fn fc, .slice ta tn tc, .slice (some ⟨b2, o2, none⟩) yn yc, .int .i64 mi] 30)) 79 [.string xn, .int .i64 xo, .int .i64 xa, .int .i64 xl.k, .int .i64 xl.s, .string xl.n, .int .i64 xl.u, .slice xl.a xl.l xl.c, .int .i64 xh.k, .int .i64 xh.s, .string xh.n, .int .i64 xh.u, .slice xh.a xh.l xh.c]
  rw [World.size_alloc] at hB2
  have HPb := Lib.hid (hB0.alloc (.cells #[.string xn, .int .i64 xo, .int .i64 xa, .int .i64 xl.k, .int .i64 xl.s, .string xl.n, .int .i64 xl.u, .slice xl.a xl.l xl.c, .int .i64 xh.k, .int .i64 xh.s, .string xh.n, .int .i64 xh.u, .slice xh.a xh.l xh.c] 79))
  have HCb := Lib.hid hB2
  have HB1 := Lib.hid ((Below.refl w.heap.size w).alloc (Nat.le_refl _) (.cells #[.slice ca cn cc, .slice ma mn mc, .slice fa fn fc, .slice ta tn tc, .slice (some ⟨b2, o2, none⟩) yn yc, .int .i64 mi] 30))
  have HB2 := Lib.hid (HB1.out.alloc (by simp) (.cells #[.string xn, .int .i64 xo, .int .i64 xa, .int .i64 xl.k, .int .i64 xl.s, .string xl.n, .int .i64 xl.u, .slice xl.a xl.l xl.c, .int .i64 xh.k, .int .i64 xh.s, .string xh.n, .int .i64 xh.u, .slice xh.a xh.l xh.c] 79))
  have HBw : Hid (∀ W', Below (w.heap.size + 1 + 1) ((w.alloc (.cells #[.slice ca cn cc, .slice ma mn mc, .slice fa fn fc, .slice ta tn tc, .slice (some ⟨b2, o2, none⟩) yn yc, .int .i64 mi] 30)).alloc (.cells #[.string xn, .int .i64 xo, .int .i64 xa, .int .i64 xl.k, .int .i64 xl.s, .string xl.n, .int .i64 xl.u, .slice xl.a xl.l xl.c, .int .i64 xh.k, .int .i64 xh.s, .string xh.n, .int .i64 xh.u, .slice xh.a xh.l xh.c] 79)) W' → Below w.heap.size w W') := Lib.hid (fun W' hB => HB2.out.trans (hB.mono (by omega)))
  have HB_W := Lib.hid (Below.refl (w.heap.size + 1 + 1) ((w.alloc (.cells #[.slice ca cn cc, .slice ma mn mc, .slice fa fn fc, .slice ta tn tc, .slice (some ⟨b2, o2, none⟩) yn yc, .int .i64 mi] 30)).alloc (.cells #[.string xn, .int .i64 xo, .int .i64 xa, .int .i64 xl.k, .int .i64 xl.s, .string xl.n, .int .i64 xl.u, .slice xl.a xl.l xl.c, .int .i64 xh.k, .int .i64 xh.s, .string xh.n, .int .i64 xh.u, .slice xh.a xh.l xh.c] 79)))
  have hsW : ((w.alloc (.cells #[.slice ca cn cc, .slice ma mn mc, .slice fa fn fc, .slice ta tn tc, .slice (some ⟨b2, o2, none⟩) yn yc, .int .i64 mi] 30)).alloc (.cells #[.string xn, .int .i64 xo, .int .i64 xa, .int .i64 xl.k, .int .i64 xl.s, .string xl.n, .int .i64 xl.u, .slice xl.a xl.l xl.c, .int .i64 xh.k, .int .i64 xh.s, .string xh.n, .int .i64 xh.u, .slice xh.a xh.l xh.c] 79)).heap.size = w.heap.size + 1 + 1 := by simp
  have hlt0 : w.heap.size < w.heap.size + 1 + 1 := by omega
  have hlt1 : w.heap.size + 1 < w.heap.size + 1 + 1 := by omega
  have qq := hB0.cell 4
  simp only [List.getElem?_cons_zero, List.getElem?_cons_succ] at qq
  have d0 := HCb.out.cell 0
  simp only [List.getElem?_cons_zero] at d0
  have hAA := hA.og (og_of_below HB1.out)
  obtain ⟨-, -, -, k0, k1, k2, k3, k4, k5, k6, k7, k8, k9, k10, k11, k12⟩ := hAA
  have q4 := HPb.out.cell 4
  simp only [List.getElem?_cons_zero, List.getElem?_cons_succ] at q4
  have hi1 : ¬ (yc : Int) < (k : Int) := by omega
  have hi2 : (k : Int) ≤ (yc : Int) := by omega
  have HRow := Lib.hid (show TmRow L ((w.alloc (.cells #[.slice ca cn cc, .slice ma mn mc, .slice fa fn fc, .slice ta tn tc, .slice (some ⟨b2, o2, none⟩) yn yc, .int .i64 mi] 30)).alloc (.cells #[.string xn, .int .i64 xo, .int .i64 xa, .int .i64 xl.k, .int .i64 xl.s, .string xl.n, .int .i64 xl.u, .slice xl.a xl.l xl.c, .int .i64 xh.k, .int .i64 xh.s, .string xh.n, .int .i64 xh.u, .slice xh.a xh.l xh.c] 79)) (some ⟨b2, o2, none⟩) k from (hP.below HB2.out).tm.take (by omega))
  have HD0 := Lib.hid (show ((w.alloc (.cells #[.slice ca cn cc, .slice ma mn mc, .slice fa fn fc, .slice ta tn tc, .slice (some ⟨b2, o2, none⟩) yn yc, .int .i64 mi] 30)).alloc (.cells #[.string xn, .int .i64 xo, .int .i64 xa, .int .i64 xl.k, .int .i64 xl.s, .string xl.n, .int .i64 xl.u, .slice xl.a xl.l xl.c, .int .i64 xh.k, .int .i64 xh.s, .string xh.n, .int .i64 xh.u, .slice xh.a xh.l xh.c] 79)).cell? ⟨w.heap.size + 1, 0, none⟩ = some (.string xn) from HCb.out.cell 0)
  have HD1 := Lib.hid (show ((w.alloc (.cells #[.slice ca cn cc, .slice ma mn mc, .slice fa fn fc, .slice ta tn tc, .slice (some ⟨b2, o2, none⟩) yn yc, .int .i64 mi] 30)).alloc (.cells #[.string xn, .int .i64 xo, .int .i64 xa, .int .i64 xl.k, .int .i64 xl.s, .string xl.n, .int .i64 xl.u, .slice xl.a xl.l xl.c, .int .i64 xh.k, .int .i64 xh.s, .string xh.n, .int .i64 xh.u, .slice xh.a xh.l xh.c] 79)).cell? ⟨w.heap.size + 1, 1, none⟩ = some (.int .i64 xo) from HCb.out.cell 1)
  clear hB2 hB0 hP hA
  go_enter Tryz.func99, Tryz.ntmps99
  go_wp2_with fail
  refine (cont_155 L (w.heap.size + 1) _ _ _ xn xo _ HRow.out HD0.out HD1.out (by rw [hsW]; omega)).mono ?_
  rintro e w1 ⟨⟨r, rfl⟩, hB'⟩
  have HB3 := Lib.hid (HB2.out.trans (hB'.mono (by rw [hsW]; omega)))
  clear hB'
  go_wp2_with fail
  cases r
  all_goals
    refine (twice_all _ _).mono ?_
    rintro e w' ⟨rfl, rfl⟩
    go_wp2_with fail
    go_ret
    exact ⟨⟨_, rfl⟩, HB3.out⟩

set_option maxRecDepth 100000 in
set_option maxHeartbeats 8000000 in
theorem checkTypeParamName_all (L k : Nat) (ca ma fa ta ya : Option Addr) (cn mn fn tn yn cc mc fc tc yc : Nat) (mi : Int) (w : World) (_ : cn ≤ 1048576) (_ : mn ≤ 1048576) (_ : fn ≤ 1048576) (_ : tn ≤ 1048576) (_ : yn ≤ 1048576) (hk : k < tn) (hcap : tn ≤ tc) (hP : PrgR L w ca ma fa ta ya cn mn fn tn yn) :
    Calls Tryz.prog 100 #[.agg #[.slice ca cn cc, .slice ma mn mc, .slice fa fn fc, .slice ta tn tc, .slice ya yn yc, .int .i64 mi], .int .i64 k] w fun e w' => (∃ z : Int, e = .returned (.int .i64 z)) ∧ Below w.heap.size w w' := by
  obtain ⟨b2, o2, ⟨xn, xo, xm, xv, xa, xl, xh⟩, hA, _⟩ := hP.tp.2 k hk
  obtain rfl := hA.ad
  have HPR := Lib.hid hP
  have hB0 := Bl.new w 30 [.slice ca cn cc, .slice ma mn mc, .slice fa fn fc, .slice (some ⟨b2, o2, none⟩) tn tc, .slice ya yn yc, .int .i64 mi]
  have hB2 := Bl.new (w.alloc (.cells #[.slice ca cn cc, .slice ma mn mc, .slice fa fn fc, .slice (some ⟨b2, o2, none⟩) tn tc, .slice ya yn yc, .int .i64 mi] 30)) 76 [.string xn, .int .i64 xo, .int .i64 xm, .int .i64 xv, .int .i64 xa, .int .i64 xl.k, .int .i64 xl.s, .string xl.n, .int .i64 xl.u, .slice xl.a xl.l xl.c, .int .i64 xh.k, .int .i64 xh.s, .string xh.n, .int .i64 xh.u, .slice xh.a xh.l xh.c]
  rw [World.size_alloc] at hB2
  have HPb := Lib.hid (hB0.alloc (.cells #[.string xn, .int .i64 xo, .int .i64 xm, .int .i64 xv, .int .i64 xa, .int .i64 xl.k, .int .i64 xl.s, .string xl.n, .int .i64 xl.u, .slice xl.a xl.l xl.c, .int .i64 xh.k, .int .i64 xh.s, .string xh.n, .int .i64 xh.u, .slice xh.a xh.l xh.c] 76))
  have HCb := Lib.hid hB2
  have HB1 := Lib.hid ((Below.refl w.heap.size w).alloc (Nat.le_refl _) (.cells #[.slice ca cn cc, .slice ma mn mc, .slice fa fn fc, .slice (some ⟨b2, o2, none⟩) tn tc, .slice ya yn yc, .int .i64 mi] 30))
  have HB2 := Lib.hid (HB1.out.alloc (by simp) (.cells #[.string xn, .int .i64 xo, .int .i64 xm, .int .i64 xv, .int .i64 xa, .int .i64 xl.k, .int .i64 xl.s, .string xl.n, .int .i64 xl.u, .slice xl.a xl.l xl.c, .int .i64 xh.k, .int .i64 xh.s, .string xh.n, .int .i64 xh.u, .slice xh.a xh.l xh.c] 76))
  have HBw : Hid (∀ W', Below (w.heap.size + 1 + 1) ((w.alloc (.cells #[.slice ca cn cc, .slice ma mn mc, .slice fa fn fc, .slice (some ⟨b2, o2, none⟩) tn tc, .slice ya yn yc, .int .i64 mi] 30)).alloc (.cells #[.string xn, .int .i64 xo, .int .i64 xm, .int .i64 xv, .int .i64 xa, .int .i64 xl.k, .int .i64 xl.s, .string xl.n, .int .i64 xl.u, .slice xl.a xl.l xl.c, .int .i64 xh.k, .int .i64 xh.s, .string xh.n, .int .i64 xh.u, .slice xh.a xh.l xh.c] 76)) W' → Below w.heap.size w W') := Lib.hid (fun W' hB => HB2.out.trans (hB.mono (by omega)))
  have HB_W := Lib.hid (Below.refl (w.heap.size + 1 + 1) ((w.alloc (.cells #[.slice ca cn cc, .slice ma mn mc, .slice fa fn fc, .slice (some ⟨b2, o2, none⟩) tn tc, .slice ya yn yc, .int .i64 mi] 30)).alloc (.cells #[.string xn, .int .i64 xo, .int .i64 xm, .int .i64 xv, .int .i64 xa, .int .i64 xl.k, .int .i64 xl.s, .string xl.n, .int .i64 xl.u, .slice xl.a xl.l xl.c, .int .i64 xh.k, .int .i64 xh.s, .string xh.n, .int .i64 xh.u, .slice xh.a xh.l xh.c] 76)))
  have hsW : ((w.alloc (.cells #[.slice ca cn cc, .slice ma mn mc, .slice fa fn fc, .slice (some ⟨b2, o2, none⟩) tn tc, .slice ya yn yc, .int .i64 mi] 30)).alloc (.cells #[.string xn, .int .i64 xo, .int .i64 xm, .int .i64 xv, .int .i64 xa, .int .i64 xl.k, .int .i64 xl.s, .string xl.n, .int .i64 xl.u, .slice xl.a xl.l xl.c, .int .i64 xh.k, .int .i64 xh.s, .string xh.n, .int .i64 xh.u, .slice xh.a xh.l xh.c] 76)).heap.size = w.heap.size + 1 + 1 := by simp
  have hlt0 : w.heap.size < w.heap.size + 1 + 1 := by omega
  have hlt1 : w.heap.size + 1 < w.heap.size + 1 + 1 := by omega
  have qq := hB0.cell 3
  simp only [List.getElem?_cons_zero, List.getElem?_cons_succ] at qq
  have d0 := HCb.out.cell 0
  simp only [List.getElem?_cons_zero] at d0
  have hAA := hA.og (og_of_below HB1.out)
  obtain ⟨-, -, -, k0, k1, k2, k3, k4, k5, k6, k7, k8, k9, k10, k11, k12, k13, k14⟩ := hAA
  dsimp only at k0 k1 k2 k3 k4 k5 k6 k7 k8 k9 k10 k11 k12 k13 k14
  have q3 := HPb.out.cell 3
  simp only [List.getElem?_cons_zero, List.getElem?_cons_succ] at q3
  have hi1 : ¬ (tc : Int) < (k : Int) := by omega
  have hi2 : (k : Int) ≤ (tc : Int) := by omega
  have HRow := Lib.hid (show TpRow L ((w.alloc (.cells #[.slice ca cn cc, .slice ma mn mc, .slice fa fn fc, .slice (some ⟨b2, o2, none⟩) tn tc, .slice ya yn yc, .int .i64 mi] 30)).alloc (.cells #[.string xn, .int .i64 xo, .int .i64 xm, .int .i64 xv, .int .i64 xa, .int .i64 xl.k, .int .i64 xl.s, .string xl.n, .int .i64 xl.u, .slice xl.a xl.l xl.c, .int .i64 xh.k, .int .i64 xh.s, .string xh.n, .int .i64 xh.u, .slice xh.a xh.l xh.c] 76)) (some ⟨b2, o2, none⟩) k from (hP.below HB2.out).tp.take (by omega))
  have HD0 := Lib.hid (show ((w.alloc (.cells #[.slice ca cn cc, .slice ma mn mc, .slice fa fn fc, .slice (some ⟨b2, o2, none⟩) tn tc, .slice ya yn yc, .int .i64 mi] 30)).alloc (.cells #[.string xn, .int .i64 xo, .int .i64 xm, .int .i64 xv, .int .i64 xa, .int .i64 xl.k, .int .i64 xl.s, .string xl.n, .int .i64 xl.u, .slice xl.a xl.l xl.c, .int .i64 xh.k, .int .i64 xh.s, .string xh.n, .int .i64 xh.u, .slice xh.a xh.l xh.c] 76)).cell? ⟨w.heap.size + 1, 0, none⟩ = some (.string xn) from HCb.out.cell 0)
  have HD1 := Lib.hid (show ((w.alloc (.cells #[.slice ca cn cc, .slice ma mn mc, .slice fa fn fc, .slice (some ⟨b2, o2, none⟩) tn tc, .slice ya yn yc, .int .i64 mi] 30)).alloc (.cells #[.string xn, .int .i64 xo, .int .i64 xm, .int .i64 xv, .int .i64 xa, .int .i64 xl.k, .int .i64 xl.s, .string xl.n, .int .i64 xl.u, .slice xl.a xl.l xl.c, .int .i64 xh.k, .int .i64 xh.s, .string xh.n, .int .i64 xh.u, .slice xh.a xh.l xh.c] 76)).cell? ⟨w.heap.size + 1, 1, none⟩ = some (.int .i64 xo) from HCb.out.cell 1)
  have HD2 := Lib.hid (show ((w.alloc (.cells #[.slice ca cn cc, .slice ma mn mc, .slice fa fn fc, .slice (some ⟨b2, o2, none⟩) tn tc, .slice ya yn yc, .int .i64 mi] 30)).alloc (.cells #[.string xn, .int .i64 xo, .int .i64 xm, .int .i64 xv, .int .i64 xa, .int .i64 xl.k, .int .i64 xl.s, .string xl.n, .int .i64 xl.u, .slice xl.a xl.l xl.c, .int .i64 xh.k, .int .i64 xh.s, .string xh.n, .int .i64 xh.u, .slice xh.a xh.l xh.c] 76)).cell? ⟨w.heap.size + 1, 2, none⟩ = some (.int .i64 xm) from HCb.out.cell 2)
  clear hB2 hB0 hP hA
  go_enter Tryz.func100, Tryz.ntmps100
  go_wp2_with fail
  refine (cont_157 L (w.heap.size + 1) _ _ _ xn xo xm _ HRow.out HD0.out HD1.out HD2.out (by rw [hsW]; omega)).mono ?_
  rintro e w1 ⟨⟨r, rfl⟩, hB'⟩
  have HB3 := Lib.hid (HB2.out.trans (hB'.mono (by rw [hsW]; omega)))
  clear hB'
  go_wp2_with fail
  cases r
  all_goals
    refine (twice_all _ _).mono ?_
    rintro e w' ⟨rfl, rfl⟩
    go_wp2_with fail
    go_ret
    exact ⟨⟨_, rfl⟩, HB3.out⟩

set_option maxRecDepth 100000 in
set_option maxHeartbeats 8000000 in
theorem checkClassName_all (L k : Nat) (xs : Nat → ClC) (ca ma fa ta ya : Option Addr) (cn mn fn tn yn cc mc fc tc yc : Nat) (mi : Int) (w : World) (hcn : cn ≤ 1048576) (hk : k < cn) (hx : ∀ i, i < cn → ∃ b o, ClAt w L ca i b o (xs i)) :
    Calls Tryz.prog 96 #[.agg #[.slice ca cn cc, .slice ma mn mc, .slice fa fn fc, .slice ta tn tc, .slice ya yn yc, .int .i64 mi], .int .i64 k] w fun e w' => (∃ z : Int, e = .returned (.int .i64 z)) ∧ Below w.heap.size w w' := by
  obtain ⟨b2, o2, hA⟩ := hx k hk
  obtain rfl := hA.ad
  have hB0 := Bl.new w 30 [.slice (some ⟨b2, o2, none⟩) cn cc, .slice ma mn mc, .slice fa fn fc, .slice ta tn tc, .slice ya yn yc, .int .i64 mi]
  have HB1 := Lib.hid ((Below.refl w.heap.size w).alloc (Nat.le_refl _) (.cells #[.slice (some ⟨b2, o2, none⟩) cn cc, .slice ma mn mc, .slice fa fn fc, .slice ta tn tc, .slice ya yn yc, .int .i64 mi] 30))
  have HB2 := Lib.hid (HB1.out.alloc (by simp) (.cells (xs k).cells.toArray 37))
  have hC := Bl.new (w.alloc (.cells #[.slice (some ⟨b2, o2, none⟩) cn cc, .slice ma mn mc, .slice fa fn fc, .slice ta tn tc, .slice ya yn yc, .int .i64 mi] 30)) 37 (xs k).cells
  rw [World.size_alloc] at hC
  have HX := Lib.hid (fun i (hi : i < cn) => (show ∃ b o, ClAt ((w.alloc (.cells #[.slice (some ⟨b2, o2, none⟩) cn cc, .slice ma mn mc, .slice fa fn fc, .slice ta tn tc, .slice ya yn yc, .int .i64 mi] 30)).alloc (.cells (xs k).cells.toArray 37)) L (some ⟨b2, o2, none⟩) i b o (xs i) from by
    obtain ⟨b, o, h⟩ := hx i hi
    exact ⟨b, o, h.og (og_of_below HB2.out)⟩))
  obtain ⟨q0, q1, q2, q3, q4, q5⟩ := (hB0.alloc (.cells (xs k).cells.toArray 37)).six
  have qq := hB0.cell 0
  obtain ⟨c0, c1, c2, c3, c4, c5, c6, c7, c8, c9, c10, c11, c12⟩ := hC.thirteen
  obtain ⟨-, -, -, k0, k1, k2, k3, k4, k5, k6, k7, k8, k9, k10, k11, k12⟩ := hA.og (og_of_below HB1.out)
  simp only [List.getElem?_cons_zero] at qq
  clear hB0 hC hA hx
  generalize xs k = x at *
  go_enter Tryz.func96, Tryz.ntmps96
  go_wp2_with fail
  refine (find_any L x.ow x.nm (decide (x.kd = 2)) xs (some ⟨b2, o2, none⟩) ma fa ta ya cn mn fn tn yn cc mc fc tc yc mi _ (by omega) HX.out).mono ?_
  rintro e w1 ⟨⟨z, rfl, _⟩, hB'⟩
  have HB3 := Lib.hid (HB2.out.trans (hB'.mono (by simp; omega)))
  clear hB'
  by_cases hz : z < (k : Int)
  · go_wp2_with fail
    go_ret
    exact ⟨⟨_, rfl⟩, HB3.out⟩
  · go_wp2_with fail
    go_ret
    exact ⟨⟨_, rfl⟩, HB3.out⟩
end Go.Proofs.YtkjjieloncdjhaaGreatDoor
