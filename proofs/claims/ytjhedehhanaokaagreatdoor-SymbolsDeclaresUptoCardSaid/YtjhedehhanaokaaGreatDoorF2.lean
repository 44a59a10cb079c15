/- Types: whether a list of types is small. -/
import Derived.Test.YtjhedehhanaokaaGreatDoorF1
namespace Go.Proofs.YtjhedehhanaokaaGreatDoor
open Go Go.RowKit

/-- The counter of nodes. -/
def LB (L : Nat) (W : World) : Prop := ∃ z : Int, Bl W L 3 [.int .i64 z]

/-- What the closure of Types holds. -/
structure TI (L p q : Nat) (deep : Int) (W : World) : Prop where
  lb : LB L W
  bp : Bl W p 68 [ptr L]
  bq : Bl W q 3 [.int .i64 deep]
  np : p ≠ L
  nq : q ≠ L

def BoolEnd (e : Ending) : Prop := ∃ r : Bool, e = .returned (.bool r)

theorem TI.og {L p q : Nat} {deep : Int} {W W' : World} (h : TI L p q deep W) (hg : Og L W W') (hl : LB L W') : TI L p q deep W' :=
  ⟨hl, h.bp.grown hg (by intro e; injection e with e; exact h.np e), h.bq.grown hg (by intro e; injection e with e; exact h.nq e), h.np, h.nq⟩

set_option maxHeartbeats 4000000 in
theorem clos_ty (L p q : Nat) (deep : Int) (hd : deep ≤ 70) (h1 : 1 ≤ deep) (kd sy nu : Int) (nm : ByteArray) (a : Option Addr) (n c : Nat) (W : World) (hI : TI L p q deep W) (hnm : nm.size ≤ 9223372036854775807)
    (hT : ∀ W', Og L W W' → LB L W' → Calls Tryz.prog 36 #[.slice a n c, .int .i64 (deep + 1), ptr L] W' fun e W'' => BoolEnd e ∧ Og L W' W'' ∧ LB L W'') :
    Calls Tryz.prog 69 #[tyV kd sy nu nm a n c, ptr p, ptr q] W fun e W' => BoolEnd e ∧ Og L W W' ∧ TI L p q deep W' := by
  obtain ⟨z, hz⟩ := hI.lb
  have c0 := hz.cell 0
  have f0 := hz.froz 0
  have cp := hI.bp.cell 0
  have cq := hI.bq.cell 0
  have lL := hz.lt
  have lp := hI.bp.lt
  have lq := hI.bq.lt
  have np := hI.np
  have nq := hI.nq
  have HI := Lib.hid hI
  have HT := Lib.hid hT
  have HZ := Lib.hid hz
  clear hI hT hz
  go_enter Tryz.func69, Tryz.ntmps69
  go_upto_region 2 with fail
  generalize wrap64 (z - 1) = z1
  have hbx : Bl ((W.setCell ⟨L, 0, none⟩ (.int .i64 z1)).alloc (.cells #[.int .i64 kd, .int .i64 sy, .string nm, .int .i64 nu, .slice a n c] 59)) W.heap.size 59 [.int .i64 kd, .int .i64 sy, .string nm, .int .i64 nu, .slice a n c] := by
    have := Bl.new (W.setCell ⟨L, 0, none⟩ (.int .i64 z1)) 59 [.int .i64 kd, .int .i64 sy, .string nm, .int .i64 nu, .slice a n c]
    simpa using this
  have hl2 : Bl ((W.setCell ⟨L, 0, none⟩ (.int .i64 z1)).alloc (.cells #[.int .i64 kd, .int .i64 sy, .string nm, .int .i64 nu, .slice a n c] 59)) L 3 [.int .i64 z1] := (HZ.out.set 0 (.int .i64 z1)).alloc _
  have hog : Og L W ((W.setCell ⟨L, 0, none⟩ (.int .i64 z1)).alloc (.cells #[.int .i64 kd, .int .i64 sy, .string nm, .int .i64 nu, .slice a n c] 59)) := ((Og.refl L W).set 0 _).alloc _
  clear c0 f0 cp cq lL lp lq np nq
  generalize (W.setCell ⟨L, 0, none⟩ (.int .i64 z1)).alloc (.cells #[.int .i64 kd, .int .i64 sy, .string nm, .int .i64 nu, .slice a n c] 59) = W2 at *
  have I2 := Lib.hid (HI.out.og hog ⟨z1, hl2⟩)
  have HG := Lib.hid hog
  clear hog
  have c0 := hl2.cell 0
  have cp := I2.out.bp.cell 0
  have cq := I2.out.bq.cell 0
  have x2 := hbx.cell 2
  have x4 := hbx.cell 4
  clear hl2 hbx
  by_cases hz1 : z1 < 0
  · go_wp2_with fail
    go_ret
    exact ⟨⟨_, rfl⟩, HG.out, I2.out⟩
  · by_cases hnb : 100 < nm.size
    · have q : (100 : Int) < (nm.size : Int) := by omega
      go_wp2_with fail
      go_ret
      exact ⟨⟨_, rfl⟩, HG.out, I2.out⟩
    · have q : ¬ (100 : Int) < (nm.size : Int) := by omega
      go_wp2_with fail
      refine (HT.out W2 HG.out I2.out.lb).mono ?_
      rintro e w1 ⟨⟨r, rfl⟩, hg, hl⟩
      have I3 := Lib.hid (I2.out.og hg hl)
      have G3 := Lib.hid (HG.out.trans hg)
      clear hg hl
      cases r
      · go_wp2_with fail
        go_ret
        exact ⟨⟨_, rfl⟩, G3.out, I3.out⟩
      · go_wp2_with fail
        go_ret
        exact ⟨⟨_, rfl⟩, G3.out, I3.out⟩

set_option maxHeartbeats 1000000 in
theorem contains_ty (p q L : Nat) (R : World → Prop) (a : Option Addr) (n c : Nat) (w : World) (hn : n ≤ 9223372036854775807) (h0 : R w)
    (hs : ∀ W i, R W → i < n → ∃ (b o : Nat) (kd sy nu : Int) (nm : ByteArray) (a' : Option Addr) (n' c' : Nat), TyAt W L a i b o kd sy nu nm a' n' c' ∧
      Calls Tryz.prog 69 #[tyV kd sy nu nm a' n' c', ptr p, ptr q] W fun e W' => (∃ r, e = .returned (.bool r)) ∧ R W') :
    Calls Tryz.prog 68 #[.slice a n c, .func (.func 69) #[] #[ptr p, ptr q]] w fun e W' => BoolEnd e ∧ R W' := by
  have HX := Lib.hid (idx_ty p q L R a n c w hn h0 hs)
  clear hs h0
  go_enter Tryz.func68, Tryz.ntmps68
  go_wp2_with fail
  refine HX.out.mono ?_
  rintro e w1 ⟨⟨z, rfl⟩, hR⟩
  have HR := Lib.hid hR
  clear hR HX
  go_wp2_with fail
  go_ret
  exact ⟨⟨_, rfl⟩, HR.out⟩
end Go.Proofs.YtjhedehhanaokaaGreatDoor
