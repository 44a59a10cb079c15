/- A program that is read: where its lists lie. -/
import Derived.Test.YtjhedehhanaokaaGreatDoorO2
namespace Go.Proofs.YtjhedehhanaokaaGreatDoor
open Go Go.RowKit
open Rows (uptoBulk uptoBulkAll)

theorem co2 : Tryz.prog.cellsOf 2 = 1 := by kernel_rfl
theorem co3 : Tryz.prog.cellsOf 3 = 1 := by kernel_rfl
theorem co9 : Tryz.prog.cellsOf 9 = 1 := by kernel_rfl
theorem co33 : Tryz.prog.cellsOf 33 = 1 := by kernel_rfl
theorem co34 : Tryz.prog.cellsOf 34 = 1 := by kernel_rfl
theorem co35 : Tryz.prog.cellsOf 35 = 1 := by kernel_rfl
theorem co61 : Tryz.prog.cellsOf 61 = 1 := by kernel_rfl
theorem co62 : Tryz.prog.cellsOf 62 = 1 := by kernel_rfl
theorem cellsOf129 : Tryz.prog.cellsOf 129 = 7 := by kernel_rfl
theorem cellsOf37 : Tryz.prog.cellsOf 37 = 13 := by kernel_rfl
theorem cellsOf64 : Tryz.prog.cellsOf 64 = 13 := by kernel_rfl
theorem cellsOf74 : Tryz.prog.cellsOf 74 = 9 := by kernel_rfl
theorem cellsOf76 : Tryz.prog.cellsOf 76 = 15 := by kernel_rfl
theorem cellsOf79 : Tryz.prog.cellsOf 79 = 13 := by kernel_rfl

structure LoC where
  nm : ByteArray
  fl : Int
  ty : T5
abbrev LoC.cells (x : LoC) : List Value := [.string x.nm, .int .i64 x.fl, .int .i64 x.ty.k, .int .i64 x.ty.s, .string x.ty.n, .int .i64 x.ty.u, .slice x.ty.a x.ty.l x.ty.c]
structure LoOk (L : Nat) (w : World) (x : LoC) : Prop where
  nm : x.nm.size ≤ 9223372036854775807
  ty : x.ty.Ok L w
structure TmC where
  nm : ByteArray
  ow : Int
  ar : Int
  lo : T5
  hi : T5
abbrev TmC.cells (x : TmC) : List Value := [.string x.nm, .int .i64 x.ow, .int .i64 x.ar, .int .i64 x.lo.k, .int .i64 x.lo.s, .string x.lo.n, .int .i64 x.lo.u, .slice x.lo.a x.lo.l x.lo.c, .int .i64 x.hi.k, .int .i64 x.hi.s, .string x.hi.n, .int .i64 x.hi.u, .slice x.hi.a x.hi.l x.hi.c]
structure TmOk (L : Nat) (w : World) (x : TmC) : Prop where
  nm : x.nm.size ≤ 9223372036854775807
  lo : x.lo.Ok L w
  hi : x.hi.Ok L w

section
variable {H : Type} {enc : TypeId × Value → H} {w : World} {base : Nat} {sp : Nat → Bool} {held : Bool}

theorem int_cs {P : Program} {t : TypeId} {cs : List Value} {x : DataW H × List MemPlace} {fuel : Nat} (ht : P.underlying t = some (.int .i64)) (h : DataW.trod enc P w base sp held fuel t cs = some x) : ∃ n : Int, cs = [.int .i64 n] := by
  cases fuel with
  | zero => simp [DataW.trod] at h
  | succ n =>
    unfold DataW.trod at h
    rw [ht] at h
    split at h <;> simp_all
theorem num_row {fuel n : Nat} {a : Option Addr} {x : DataW H × List MemPlace} (h : ∀ i, i < n → ∃ (b o m : Nat) (cs : List Value) (y : DataW H × List MemPlace), fuel = m + 1 ∧ a = some ⟨b, o, none⟩ ∧ b < w.heap.size ∧ DataW.trod enc Tryz.prog w base sp held m 3 cs = some y ∧ uptoBulk y.1 ≤ uptoBulk x.1 ∧
    ∀ j v, cs[j]? = some v → w.cell? ⟨b, o + i * 1 + j, none⟩ = some v) : ∀ L, w.heap.size ≤ L → NumRow L w a n := fun L hL i hi => by
  obtain ⟨b, o, m, cs, y, _, ha, hb, ht, _, hc⟩ := h i hi
  obtain ⟨z, rfl⟩ := int_cs Tryz.underlying3 ht
  have := hc 0 _ rfl
  simp only [Nat.mul_one, Nat.add_zero] at this
  exact ⟨b, o, z, ha, by omega, hb, this⟩

theorem ty5 {fuel : Nat} {cs : List Value} {y : DataW H × List MemPlace} (h : DataW.trod enc Tryz.prog w base sp held fuel 59 cs = some y) : ∃ t : T5, cs = t.cells ∧ ∀ L, w.heap.size ≤ L → t.Ok L w := by
  obtain ⟨t0, t1, t3, t2, vt, m, zt, _, rfl, hts, hta⟩ := ty_cells h
  obtain ⟨ta, tl, tc, rfl, _, _, hta'⟩ := ty_open _ _ _ hta
  exact ⟨⟨t0, t1, t2, t3, ta, tl, tc⟩, rfl, fun L hL => ⟨hts, hta' 69 L hL⟩⟩

set_option maxRecDepth 100000 in
theorem lo_cells {fuel : Nat} {cs : List Value} {y : DataW H × List MemPlace} (h : DataW.trod enc Tryz.prog w base sp held fuel 129 cs = some y) (hB : uptoBulk y.1 ≤ 1048576) :
    ∃ X : LoC, cs = X.cells ∧ ∀ L, w.heap.size ≤ L → LoOk L w X := by
  obtain ⟨xs, n, hfuel, hy, hlen, hxl, hf⟩ := DataW.trod_struct Tryz.underlying129 h
  rw [cellsOf129] at hlen
  match cs, hlen with
  | [c0, c1, c2, c3, c4, c5, c6], _ =>
    match xs, hxl with
    | [x0, x1, x2], _ =>
      have f0 := hf 0 _ rfl
      have f1 := hf 1 _ rfl
      have f2 := hf 2 _ rfl
      simp [co3, co2, co9, co33, co34, co35, co61, co62, cellsOf59] at f0 f1 f2
      have hB' : uptoBulkAll [x0.1, x1.1, x2.1] + 1 ≤ 1048576 := by
        rw [hy] at hB
        simpa [uptoBulk] using hB
      obtain ⟨v0, rfl, s0⟩ := cell_str Tryz.underlying9 f0
      obtain ⟨v1, rfl⟩ := cell_int Tryz.underlying3 f1
      obtain ⟨t2, e2, r2⟩ := ty5 f2
      injection e2 with e2_0 e2
      injection e2 with e2_1 e2
      injection e2 with e2_2 e2
      injection e2 with e2_3 e2
      injection e2 with e2_4 e2
      subst e2_0 e2_1 e2_2 e2_3 e2_4
      exact ⟨⟨v0, v1, t2⟩, rfl, fun L hL => ⟨s0, r2 L hL⟩⟩

theorem lo_open (fuel : Nat) (v : Value) (x : DataW H × List MemPlace) (h : DataW.trod enc Tryz.prog w base sp held fuel 61 [v] = some x) (hB : uptoBulk x.1 ≤ 1048576) :
    ∃ a n c, v = .slice a n c ∧ n ≤ 1048576 ∧ ∀ L, w.heap.size ≤ L → LoRow L w a n := by
  obtain ⟨a, n, c, hv, hn, hnb, _, hel⟩ := sl_open Tryz.underlying61 cellsOf129 (by omega) h
  refine ⟨a, n, c, hv, by omega, fun L hL => ⟨hn, fun i hi => ?_⟩⟩
  obtain ⟨b, o, m, cs, y, hm, ha, hb, ht, hby, hc⟩ := hel i hi
  obtain ⟨X, rfl, hok⟩ := lo_cells ht (by omega)
  have k := hok L hL
  exact ⟨b, o, X.fl, X.ty.k, X.ty.s, X.ty.u, X.nm, X.ty.n, X.ty.a, X.ty.l, X.ty.c, ⟨ha, by omega, hb, hc 0 _ rfl, hc 1 _ rfl, hc 2 _ rfl, hc 3 _ rfl, hc 4 _ rfl, hc 5 _ rfl, hc 6 _ rfl⟩, k.nm, k.ty.n, k.ty.r⟩

theorem ptr_arms {P : Program} {t e : TypeId} {fuel : Nat} {v : Value} {x : DataW H × List MemPlace} (ht : P.underlying t = some (.pointer e)) (h : DataW.trod enc P w base sp held fuel t [v] = some x) :
    v = .pointer none ∨ ∃ (a : Addr) (n : Nat) (cs : List Value) (y : DataW H × List MemPlace), v = .pointer (some a) ∧ w.cells? base a (P.cellsOf e) = some cs ∧ DataW.trod enc P w base sp held n e cs = some y ∧ uptoBulk y.1 ≤ uptoBulk x.1 := by
  cases fuel with
  | zero => simp [DataW.trod] at h
  | succ n =>
    unfold DataW.trod at h
    rw [ht] at h
    split at h <;> try (simp_all; done)
    rename_i e' a hpe heq
    right
    simp only [Option.some.injEq, TypeDesc.pointer.injEq] at hpe
    subst hpe
    obtain ⟨y, hy, hx⟩ := Option.map_eq_some_iff.1 h
    obtain ⟨cs, hc, ht'⟩ := Option.bind_eq_some_iff.1 hy
    injection heq with heq
    refine ⟨a, n, cs, y, heq, hc, ht', ?_⟩
    rw [← hx]
    simp [uptoBulk]

set_option maxRecDepth 100000 in
theorem bo_open {fuel : Nat} {v : Value} {x : DataW H × List MemPlace} (h : DataW.trod enc Tryz.prog w base sp held fuel 62 [v] = some x) (hB : uptoBulk x.1 ≤ 1048576) :
    ∃ p, v = .pointer p ∧ ∀ L, w.heap.size ≤ L → (p = none ∨ ∃ (b o : Nat) (t : TrC), p = some ⟨b, o, none⟩ ∧ BoAt w L b o t ∧ TrOk 69 L w t ∧ TrRow 69 199 L w t.ka t.kl) := by
  rcases ptr_arms Tryz.underlying62 h with rfl | ⟨a, n, cs, y, rfl, hc, ht, hy⟩
  · exact ⟨none, rfl, fun _ _ => .inl rfl⟩
  · rw [cellsOf72] at hc
    obtain ⟨X, m, z, _, rfl, hok, hk, hbz⟩ := tr_cells ht (by omega)
    obtain ⟨ka, kl, kc, e, _, hrow⟩ := tr_open m _ z hk hbz
    injection e with e1 e2 e3
    obtain ⟨_, _, hcell⟩ := World.cells?_some hc
    have hlt : a.block < w.heap.size := World.cells?_block hc (by omega)
    obtain ⟨b, o, s0⟩ := a
    have hsn : s0 = none := by
      have q : w.cell? ((⟨b, o, s0⟩ : Addr).add 0) = some (.int .i64 X.kd) := hcell 0 (by omega)
      have e : (⟨b, o, s0⟩ : Addr).add 0 = ⟨b, o, s0⟩ := rfl
      rw [e] at q
      have := add_none q
      injection this
    subst hsn
    have k : ∀ j, j < 12 → w.cell? ⟨b, o + j, none⟩ = X.cells[j]? := fun j hj => by
      have := hcell j hj
      rw [add_at] at this
      exact this
    exact ⟨_, rfl, fun L hL => .inr ⟨b, o, X, rfl, ⟨by have : b < w.heap.size := hlt; omega, hlt, k 0 (by omega), k 1 (by omega), k 2 (by omega), k 3 (by omega), k 4 (by omega), k 5 (by omega), k 6 (by omega), k 7 (by omega), k 8 (by omega), k 9 (by omega), k 10 (by omega), k 11 (by omega)⟩, hok L hL, by rw [e1, e2]; exact hrow 199 L hL⟩⟩
set_option maxRecDepth 100000 in
theorem cl_cells {fuel : Nat} {cs : List Value} {y : DataW H × List MemPlace} (h : DataW.trod enc Tryz.prog w base sp held fuel 37 cs = some y) (hB : uptoBulk y.1 ≤ 1048576) :
    ∃ X : ClC, cs = X.cells ∧ ∀ L, w.heap.size ≤ L → ClOk L w X := by
  obtain ⟨xs, n, hfuel, hy, hlen, hxl, hf⟩ := DataW.trod_struct Tryz.underlying37 h
  rw [cellsOf37] at hlen
  match cs, hlen with
  | [c0, c1, c2, c3, c4, c5, c6, c7, c8, c9, c10, c11, c12], _ =>
    match xs, hxl with
    | [x0, x1, x2, x3, x4, x5, x6, x7, x8, x9, x10, x11, x12], _ =>
      have f0 := hf 0 _ rfl
      have f1 := hf 1 _ rfl
      have f2 := hf 2 _ rfl
      have f3 := hf 3 _ rfl
      have f4 := hf 4 _ rfl
      have f5 := hf 5 _ rfl
      have f6 := hf 6 _ rfl
      have f7 := hf 7 _ rfl
      have f8 := hf 8 _ rfl
      have f9 := hf 9 _ rfl
      have f10 := hf 10 _ rfl
      have f11 := hf 11 _ rfl
      have f12 := hf 12 _ rfl
      simp [co3, co2, co9, co33, co34, co35, co61, co62, cellsOf59] at f0 f1 f2 f3 f4 f5 f6 f7 f8 f9 f10 f11 f12
      have hB' : uptoBulkAll [x0.1, x1.1, x2.1, x3.1, x4.1, x5.1, x6.1, x7.1, x8.1, x9.1, x10.1, x11.1, x12.1] + 1 ≤ 1048576 := by
        rw [hy] at hB
        simpa [uptoBulk] using hB
      have b4 : uptoBulk x4.1 ≤ 1048576 := by
        have := bulk_mem (l := [x0.1, x1.1, x2.1, x3.1, x4.1, x5.1, x6.1, x7.1, x8.1, x9.1, x10.1, x11.1, x12.1]) (d := x4.1) (by simp)
        omega
      have b5 : uptoBulk x5.1 ≤ 1048576 := by
        have := bulk_mem (l := [x0.1, x1.1, x2.1, x3.1, x4.1, x5.1, x6.1, x7.1, x8.1, x9.1, x10.1, x11.1, x12.1]) (d := x5.1) (by simp)
        omega
      have b6 : uptoBulk x6.1 ≤ 1048576 := by
        have := bulk_mem (l := [x0.1, x1.1, x2.1, x3.1, x4.1, x5.1, x6.1, x7.1, x8.1, x9.1, x10.1, x11.1, x12.1]) (d := x6.1) (by simp)
        omega
      have b7 : uptoBulk x7.1 ≤ 1048576 := by
        have := bulk_mem (l := [x0.1, x1.1, x2.1, x3.1, x4.1, x5.1, x6.1, x7.1, x8.1, x9.1, x10.1, x11.1, x12.1]) (d := x7.1) (by simp)
        omega
      have b8 : uptoBulk x8.1 ≤ 1048576 := by
        have := bulk_mem (l := [x0.1, x1.1, x2.1, x3.1, x4.1, x5.1, x6.1, x7.1, x8.1, x9.1, x10.1, x11.1, x12.1]) (d := x8.1) (by simp)
        omega
      have b9 : uptoBulk x9.1 ≤ 1048576 := by
        have := bulk_mem (l := [x0.1, x1.1, x2.1, x3.1, x4.1, x5.1, x6.1, x7.1, x8.1, x9.1, x10.1, x11.1, x12.1]) (d := x9.1) (by simp)
        omega
      have b10 : uptoBulk x10.1 ≤ 1048576 := by
        have := bulk_mem (l := [x0.1, x1.1, x2.1, x3.1, x4.1, x5.1, x6.1, x7.1, x8.1, x9.1, x10.1, x11.1, x12.1]) (d := x10.1) (by simp)
        omega
      have b11 : uptoBulk x11.1 ≤ 1048576 := by
        have := bulk_mem (l := [x0.1, x1.1, x2.1, x3.1, x4.1, x5.1, x6.1, x7.1, x8.1, x9.1, x10.1, x11.1, x12.1]) (d := x11.1) (by simp)
        omega
      obtain ⟨v0, rfl, s0⟩ := cell_str Tryz.underlying9 f0
      obtain ⟨v1, rfl⟩ := cell_int Tryz.underlying3 f1
      obtain ⟨v2, rfl⟩ := cell_int Tryz.underlying3 f2
      obtain ⟨v3, rfl⟩ := cell_int Tryz.underlying3 f3
      obtain ⟨a4, n4, d4, rfl, m4, l4, _, k4⟩ := sl_open Tryz.underlying33 co3 (by omega) f4
      have u4 := num_row k4
      have s34 := sl_open Tryz.underlying34 cellsOf59 (by omega) f5
      obtain ⟨a5, n5, d5, rfl, m5, _, r5⟩ := ty_open _ _ _ f5
      obtain ⟨_, _, _, q34, _, l5, _, _⟩ := s34
      injection q34 with q34a q34b q34c
      subst q34b
      obtain ⟨a6, n6, d6, rfl, m6, l6, _, k6⟩ := sl_open Tryz.underlying33 co3 (by omega) f6
      have u6 := num_row k6
      obtain ⟨a7, n7, d7, rfl, m7, l7, _, k7⟩ := sl_open Tryz.underlying33 co3 (by omega) f7
      have u7 := num_row k7
      obtain ⟨a8, n8, d8, rfl, m8, l8, _, k8⟩ := sl_open Tryz.underlying33 co3 (by omega) f8
      have u8 := num_row k8
      obtain ⟨a9, n9, d9, rfl, m9, l9, _, k9⟩ := sl_open Tryz.underlying33 co3 (by omega) f9
      have u9 := num_row k9
      obtain ⟨a10, n10, d10, rfl, m10, r10⟩ := tr_open _ _ _ f10 b10
      obtain ⟨a11, n11, d11, rfl, m11, r11⟩ := tr_open _ _ _ f11 b11
      obtain ⟨v12, rfl⟩ := cell_int Tryz.underlying3 f12
      exact ⟨⟨v0, v1, v2, v3, ⟨a4, n4, d4⟩, ⟨a5, n5, d5⟩, ⟨a6, n6, d6⟩, ⟨a7, n7, d7⟩, ⟨a8, n8, d8⟩, ⟨a9, n9, d9⟩, ⟨a10, n10, d10⟩, ⟨a11, n11, d11⟩, v12⟩, rfl, fun L hL => ⟨s0, (by show n4 ≤ 1048576; omega), (by show n6 ≤ 1048576; omega), (by show n7 ≤ 1048576; omega), (by show n8 ≤ 1048576; omega), (by show n9 ≤ 1048576; omega), r5 _ L hL, r10 _ L hL, r11 _ L hL, (by show n5 ≤ 1048576; omega), u4 L hL, u6 L hL, u7 L hL, u8 L hL, u9 L hL⟩⟩
set_option maxRecDepth 100000 in
theorem me_cells {fuel : Nat} {cs : List Value} {y : DataW H × List MemPlace} (h : DataW.trod enc Tryz.prog w base sp held fuel 64 cs = some y) (hB : uptoBulk y.1 ≤ 1048576) :
    ∃ X : MeC, cs = X.cells ∧ ∀ L, w.heap.size ≤ L → MeOk L w X := by
  obtain ⟨xs, n, hfuel, hy, hlen, hxl, hf⟩ := DataW.trod_struct Tryz.underlying64 h
  rw [cellsOf64] at hlen
  match cs, hlen with
  | [c0, c1, c2, c3, c4, c5, c6, c7, c8, c9, c10, c11, c12], _ =>
    match xs, hxl with
    | [x0, x1, x2, x3, x4, x5, x6, x7, x8], _ =>
      have f0 := hf 0 _ rfl
      have f1 := hf 1 _ rfl
      have f2 := hf 2 _ rfl
      have f3 := hf 3 _ rfl
      have f4 := hf 4 _ rfl
      have f5 := hf 5 _ rfl
      have f6 := hf 6 _ rfl
      have f7 := hf 7 _ rfl
      have f8 := hf 8 _ rfl
      simp [co3, co2, co9, co33, co34, co35, co61, co62, cellsOf59] at f0 f1 f2 f3 f4 f5 f6 f7 f8
      have hB' : uptoBulkAll [x0.1, x1.1, x2.1, x3.1, x4.1, x5.1, x6.1, x7.1, x8.1] + 1 ≤ 1048576 := by
        rw [hy] at hB
        simpa [uptoBulk] using hB
      have b3 : uptoBulk x3.1 ≤ 1048576 := by
        have := bulk_mem (l := [x0.1, x1.1, x2.1, x3.1, x4.1, x5.1, x6.1, x7.1, x8.1]) (d := x3.1) (by simp)
        omega
      have b5 : uptoBulk x5.1 ≤ 1048576 := by
        have := bulk_mem (l := [x0.1, x1.1, x2.1, x3.1, x4.1, x5.1, x6.1, x7.1, x8.1]) (d := x5.1) (by simp)
        omega
      have b7 : uptoBulk x7.1 ≤ 1048576 := by
        have := bulk_mem (l := [x0.1, x1.1, x2.1, x3.1, x4.1, x5.1, x6.1, x7.1, x8.1]) (d := x7.1) (by simp)
        omega
      obtain ⟨v0, rfl, s0⟩ := cell_str Tryz.underlying9 f0
      obtain ⟨v1, rfl⟩ := cell_int Tryz.underlying3 f1
      obtain ⟨v2, rfl⟩ := cell_int Tryz.underlying3 f2
      obtain ⟨a3, n3, d3, rfl, m3, l3, _, k3⟩ := sl_open Tryz.underlying33 co3 (by omega) f3
      have u3 := num_row k3
      obtain ⟨v4, rfl⟩ := cell_int Tryz.underlying3 f4
      obtain ⟨a5, n5, d5, rfl, l5, r5⟩ := lo_open _ _ _ f5 b5
      obtain ⟨t6, e6, r6⟩ := ty5 f6
      injection e6 with e6_0 e6
      injection e6 with e6_1 e6
      injection e6 with e6_2 e6
      injection e6 with e6_3 e6
      injection e6 with e6_4 e6
      subst e6_0 e6_1 e6_2 e6_3 e6_4
      obtain ⟨p7, rfl, r7⟩ := bo_open f7 b7
      obtain ⟨v8, rfl⟩ := cell_int Tryz.underlying3 f8
      exact ⟨⟨v0, v1, v2, ⟨a3, n3, d3⟩, v4, ⟨a5, n5, d5⟩, t6, p7, v8⟩, rfl, fun L hL => ⟨s0, m3, r5 L hL, r6 L hL, r7 L hL, (by show n3 ≤ 1048576; omega), l5, u3 L hL⟩⟩
set_option maxRecDepth 100000 in
theorem fi_cells {fuel : Nat} {cs : List Value} {y : DataW H × List MemPlace} (h : DataW.trod enc Tryz.prog w base sp held fuel 74 cs = some y) (hB : uptoBulk y.1 ≤ 1048576) :
    ∃ X : FiC, cs = X.cells ∧ ∀ L, w.heap.size ≤ L → FiOk L w X := by
  obtain ⟨xs, n, hfuel, hy, hlen, hxl, hf⟩ := DataW.trod_struct Tryz.underlying74 h
  rw [cellsOf74] at hlen
  match cs, hlen with
  | [c0, c1, c2, c3, c4, c5, c6, c7, c8], _ =>
    match xs, hxl with
    | [x0, x1, x2, x3, x4], _ =>
      have f0 := hf 0 _ rfl
      have f1 := hf 1 _ rfl
      have f2 := hf 2 _ rfl
      have f3 := hf 3 _ rfl
      have f4 := hf 4 _ rfl
      simp [co3, co2, co9, co33, co34, co35, co61, co62, cellsOf59] at f0 f1 f2 f3 f4
      have hB' : uptoBulkAll [x0.1, x1.1, x2.1, x3.1, x4.1] + 1 ≤ 1048576 := by
        rw [hy] at hB
        simpa [uptoBulk] using hB
      obtain ⟨v0, rfl, s0⟩ := cell_str Tryz.underlying9 f0
      obtain ⟨v1, rfl⟩ := cell_int Tryz.underlying3 f1
      obtain ⟨v2, rfl⟩ := cell_int Tryz.underlying3 f2
      obtain ⟨t3, e3, r3⟩ := ty5 f3
      injection e3 with e3_0 e3
      injection e3 with e3_1 e3
      injection e3 with e3_2 e3
      injection e3 with e3_3 e3
      injection e3 with e3_4 e3
      subst e3_0 e3_1 e3_2 e3_3 e3_4
      obtain ⟨v4, rfl⟩ := cell_int Tryz.underlying3 f4
      exact ⟨⟨v0, v1, v2, t3, v4⟩, rfl, fun L hL => ⟨s0, r3 L hL⟩⟩
set_option maxRecDepth 100000 in
theorem tp_cells {fuel : Nat} {cs : List Value} {y : DataW H × List MemPlace} (h : DataW.trod enc Tryz.prog w base sp held fuel 76 cs = some y) (hB : uptoBulk y.1 ≤ 1048576) :
    ∃ X : TpC, cs = X.cells ∧ ∀ L, w.heap.size ≤ L → TpOk L w X := by
  obtain ⟨xs, n, hfuel, hy, hlen, hxl, hf⟩ := DataW.trod_struct Tryz.underlying76 h
  rw [cellsOf76] at hlen
  match cs, hlen with
  | [c0, c1, c2, c3, c4, c5, c6, c7, c8, c9, c10, c11, c12, c13, c14], _ =>
    match xs, hxl with
    | [x0, x1, x2, x3, x4, x5, x6], _ =>
      have f0 := hf 0 _ rfl
      have f1 := hf 1 _ rfl
      have f2 := hf 2 _ rfl
      have f3 := hf 3 _ rfl
      have f4 := hf 4 _ rfl
      have f5 := hf 5 _ rfl
      have f6 := hf 6 _ rfl
      simp [co3, co2, co9, co33, co34, co35, co61, co62, cellsOf59] at f0 f1 f2 f3 f4 f5 f6
      have hB' : uptoBulkAll [x0.1, x1.1, x2.1, x3.1, x4.1, x5.1, x6.1] + 1 ≤ 1048576 := by
        rw [hy] at hB
        simpa [uptoBulk] using hB
      obtain ⟨v0, rfl, s0⟩ := cell_str Tryz.underlying9 f0
      obtain ⟨v1, rfl⟩ := cell_int Tryz.underlying3 f1
      obtain ⟨v2, rfl⟩ := cell_int Tryz.underlying3 f2
      obtain ⟨v3, rfl⟩ := cell_int Tryz.underlying3 f3
      obtain ⟨v4, rfl⟩ := cell_int Tryz.underlying3 f4
      obtain ⟨t5, e5, r5⟩ := ty5 f5
      injection e5 with e5_0 e5
      injection e5 with e5_1 e5
      injection e5 with e5_2 e5
      injection e5 with e5_3 e5
      injection e5 with e5_4 e5
      subst e5_0 e5_1 e5_2 e5_3 e5_4
      obtain ⟨t6, e6, r6⟩ := ty5 f6
      injection e6 with e6_0 e6
      injection e6 with e6_1 e6
      injection e6 with e6_2 e6
      injection e6 with e6_3 e6
      injection e6 with e6_4 e6
      subst e6_0 e6_1 e6_2 e6_3 e6_4
      exact ⟨⟨v0, v1, v2, v3, v4, t5, t6⟩, rfl, fun L hL => ⟨s0, r5 L hL, r6 L hL⟩⟩
set_option maxRecDepth 100000 in
theorem tm_cells {fuel : Nat} {cs : List Value} {y : DataW H × List MemPlace} (h : DataW.trod enc Tryz.prog w base sp held fuel 79 cs = some y) (hB : uptoBulk y.1 ≤ 1048576) :
    ∃ X : TmC, cs = X.cells ∧ ∀ L, w.heap.size ≤ L → TmOk L w X := by
  obtain ⟨xs, n, hfuel, hy, hlen, hxl, hf⟩ := DataW.trod_struct Tryz.underlying79 h
  rw [cellsOf79] at hlen
  match cs, hlen with
  | [c0, c1, c2, c3, c4, c5, c6, c7, c8, c9, c10, c11, c12], _ =>
    match xs, hxl with
    | [x0, x1, x2, x3, x4], _ =>
      have f0 := hf 0 _ rfl
      have f1 := hf 1 _ rfl
      have f2 := hf 2 _ rfl
      have f3 := hf 3 _ rfl
      have f4 := hf 4 _ rfl
      simp [co3, co2, co9, co33, co34, co35, co61, co62, cellsOf59] at f0 f1 f2 f3 f4
      have hB' : uptoBulkAll [x0.1, x1.1, x2.1, x3.1, x4.1] + 1 ≤ 1048576 := by
        rw [hy] at hB
        simpa [uptoBulk] using hB
      obtain ⟨v0, rfl, s0⟩ := cell_str Tryz.underlying9 f0
      obtain ⟨v1, rfl⟩ := cell_int Tryz.underlying3 f1
      obtain ⟨v2, rfl⟩ := cell_int Tryz.underlying3 f2
      obtain ⟨t3, e3, r3⟩ := ty5 f3
      injection e3 with e3_0 e3
      injection e3 with e3_1 e3
      injection e3 with e3_2 e3
      injection e3 with e3_3 e3
      injection e3 with e3_4 e3
      subst e3_0 e3_1 e3_2 e3_3 e3_4
      obtain ⟨t4, e4, r4⟩ := ty5 f4
      injection e4 with e4_0 e4
      injection e4 with e4_1 e4
      injection e4 with e4_2 e4
      injection e4 with e4_3 e4
      injection e4 with e4_4 e4
      subst e4_0 e4_1 e4_2 e4_3 e4_4
      exact ⟨⟨v0, v1, v2, t3, t4⟩, rfl, fun L hL => ⟨s0, r3 L hL, r4 L hL⟩⟩

theorem cl_open {fuel : Nat} {v : Value} {x : DataW H × List MemPlace} (h : DataW.trod enc Tryz.prog w base sp held fuel 24 [v] = some x) (hB : uptoBulk x.1 ≤ 1048576) :
    ∃ a n c, v = .slice a n c ∧ ∀ L, w.heap.size ≤ L → ClRow L w a n := by
  obtain ⟨a, n, c, hv, hn, _, _, hel⟩ := sl_open Tryz.underlying24 cellsOf37 (by omega) h
  refine ⟨a, n, c, hv, fun L hL => ⟨hn, fun i hi => ?_⟩⟩
  obtain ⟨b, o, m, cs, y, hm, ha, hb, ht, hby, hc⟩ := hel i hi
  obtain ⟨X, rfl, hok⟩ := cl_cells ht (by omega)
  exact ⟨b, o, X, ⟨ha, by omega, hb, hc 0 _ rfl, hc 1 _ rfl, hc 2 _ rfl, hc 3 _ rfl, hc 4 _ rfl, hc 5 _ rfl, hc 6 _ rfl, hc 7 _ rfl, hc 8 _ rfl, hc 9 _ rfl, hc 10 _ rfl, hc 11 _ rfl, hc 12 _ rfl⟩, hok L hL⟩

theorem me_open {fuel : Nat} {v : Value} {x : DataW H × List MemPlace} (h : DataW.trod enc Tryz.prog w base sp held fuel 25 [v] = some x) (hB : uptoBulk x.1 ≤ 1048576) :
    ∃ a n c, v = .slice a n c ∧ ∀ L, w.heap.size ≤ L → MeRow L w a n := by
  obtain ⟨a, n, c, hv, hn, _, _, hel⟩ := sl_open Tryz.underlying25 cellsOf64 (by omega) h
  refine ⟨a, n, c, hv, fun L hL => ⟨hn, fun i hi => ?_⟩⟩
  obtain ⟨b, o, m, cs, y, hm, ha, hb, ht, hby, hc⟩ := hel i hi
  obtain ⟨X, rfl, hok⟩ := me_cells ht (by omega)
  exact ⟨b, o, X, ⟨ha, by omega, hb, hc 0 _ rfl, hc 1 _ rfl, hc 2 _ rfl, hc 3 _ rfl, hc 4 _ rfl, hc 5 _ rfl, hc 6 _ rfl, hc 7 _ rfl, hc 8 _ rfl, hc 9 _ rfl, hc 10 _ rfl, hc 11 _ rfl, hc 12 _ rfl⟩, hok L hL⟩

theorem fi_open {fuel : Nat} {v : Value} {x : DataW H × List MemPlace} (h : DataW.trod enc Tryz.prog w base sp held fuel 26 [v] = some x) (hB : uptoBulk x.1 ≤ 1048576) :
    ∃ a n c, v = .slice a n c ∧ ∀ L, w.heap.size ≤ L → FiRow L w a n := by
  obtain ⟨a, n, c, hv, hn, _, _, hel⟩ := sl_open Tryz.underlying26 cellsOf74 (by omega) h
  refine ⟨a, n, c, hv, fun L hL => ⟨hn, fun i hi => ?_⟩⟩
  obtain ⟨b, o, m, cs, y, hm, ha, hb, ht, hby, hc⟩ := hel i hi
  obtain ⟨X, rfl, hok⟩ := fi_cells ht (by omega)
  exact ⟨b, o, X, ⟨ha, by omega, hb, hc 0 _ rfl, hc 1 _ rfl, hc 2 _ rfl, hc 3 _ rfl, hc 4 _ rfl, hc 5 _ rfl, hc 6 _ rfl, hc 7 _ rfl, hc 8 _ rfl⟩, hok L hL⟩

theorem tp_open {fuel : Nat} {v : Value} {x : DataW H × List MemPlace} (h : DataW.trod enc Tryz.prog w base sp held fuel 27 [v] = some x) (hB : uptoBulk x.1 ≤ 1048576) :
    ∃ a n c, v = .slice a n c ∧ ∀ L, w.heap.size ≤ L → TpRow L w a n := by
  obtain ⟨a, n, c, hv, hn, _, _, hel⟩ := sl_open Tryz.underlying27 cellsOf76 (by omega) h
  refine ⟨a, n, c, hv, fun L hL => ⟨hn, fun i hi => ?_⟩⟩
  obtain ⟨b, o, m, cs, y, hm, ha, hb, ht, hby, hc⟩ := hel i hi
  obtain ⟨X, rfl, hok⟩ := tp_cells ht (by omega)
  exact ⟨b, o, X, ⟨ha, by omega, hb, hc 0 _ rfl, hc 1 _ rfl, hc 2 _ rfl, hc 3 _ rfl, hc 4 _ rfl, hc 5 _ rfl, hc 6 _ rfl, hc 7 _ rfl, hc 8 _ rfl, hc 9 _ rfl, hc 10 _ rfl, hc 11 _ rfl, hc 12 _ rfl, hc 13 _ rfl, hc 14 _ rfl⟩, hok L hL⟩

theorem tm_open {fuel : Nat} {v : Value} {x : DataW H × List MemPlace} (h : DataW.trod enc Tryz.prog w base sp held fuel 28 [v] = some x) (hB : uptoBulk x.1 ≤ 1048576) :
    ∃ a n c, v = .slice a n c ∧ ∀ L, w.heap.size ≤ L → TmRow L w a n := by
  obtain ⟨a, n, c, hv, hn, _, _, hel⟩ := sl_open Tryz.underlying28 cellsOf79 (by omega) h
  refine ⟨a, n, c, hv, fun L hL => ⟨hn, fun i hi => ?_⟩⟩
  obtain ⟨b, o, m, cs, y, hm, ha, hb, ht, hby, hc⟩ := hel i hi
  obtain ⟨X, rfl, hok⟩ := tm_cells ht (by omega)
  have k := hok L hL
  exact ⟨b, o, X.nm, X.ow, X.ar, X.lo, X.hi, ⟨ha, by omega, hb, hc 0 _ rfl, hc 1 _ rfl, hc 2 _ rfl, hc 3 _ rfl, hc 4 _ rfl, hc 5 _ rfl, hc 6 _ rfl, hc 7 _ rfl, hc 8 _ rfl, hc 9 _ rfl, hc 10 _ rfl, hc 11 _ rfl, hc 12 _ rfl⟩, k.nm, k.lo, k.hi⟩
end
end Go.Proofs.YtjhedehhanaokaaGreatDoor
