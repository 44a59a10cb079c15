/- Types: its contract. -/
import Derived.Test.YtjhedehhanaokaaGreatDoorF2
namespace Go.Proofs.YtjhedehhanaokaaGreatDoor
open Go Go.RowKit

def TyPost (L : Nat) (W : World) (e : Ending) (W' : World) : Prop := BoolEnd e ∧ Og L W W' ∧ LB L W'

theorem LB.alloc {L : Nat} {W : World} (h : LB L W) (o : Obj) : LB L (W.alloc o) := h.elim fun z hz => ⟨z, hz.alloc o⟩
theorem LB.lt {L : Nat} {W : World} (h : LB L W) : L < W.heap.size := h.elim fun _ hz => hz.lt

set_option maxHeartbeats 4000000 in
theorem types_any : ∀ (d : Nat) (deep : Int) (L : Nat) (a : Option Addr) (n c : Nat) (W : World), deep + d = 71 → 1 ≤ deep → TyRow d L W a n → LB L W →
    Calls Tryz.prog 36 #[.slice a n c, .int .i64 deep, ptr L] W (TyPost L W)
  | 0, deep, L, a, n, c, W, hd, h1, hr, hl => by
    obtain rfl : deep = 71 := by omega
    have HL := Lib.hid hl
    clear hd h1 hr hl
    go_enter Tryz.func36, Tryz.ntmps36
    go_wp2_with fail
    go_ret
    exact ⟨⟨_, rfl⟩, ((Og.refl L W).alloc _).alloc _, (HL.out.alloc _).alloc _⟩
  | d + 1, deep, L, a, n, c, W, hd, h1, hr, hl => by
    have hdeep : deep ≤ 70 := by omega
    have HL := Lib.hid hl
    have HR := Lib.hid hr
    have HI := Lib.hid (fun (a' : Option Addr) (n' c' : Nat) (W' : World) (hr' : TyRow d L W' a' n') (hl' : LB L W') => types_any d (deep + 1) L a' n' c' W' (by omega) (by omega) hr' hl')
    have I0 : TI L (W.heap.size + 1) W.heap.size deep ((W.alloc (.cells #[.int .i64 deep] 3)).alloc (.cells #[ptr L] 68)) :=
      ⟨(hl.alloc _).alloc _, by simpa using Bl.new (W.alloc (.cells #[.int .i64 deep] 3)) 68 [ptr L], (Bl.new W 3 [.int .i64 deep]).alloc _, by have := hl.lt; omega, by have := hl.lt; omega⟩
    have O0 : Og L W ((W.alloc (.cells #[.int .i64 deep] 3)).alloc (.cells #[ptr L] 68)) := ((Og.refl L W).alloc _).alloc _
    have HC := Lib.hid (contains_ty (W.heap.size + 1) W.heap.size L (fun W' => Og L W W' ∧ TI L (W.heap.size + 1) W.heap.size deep W') a n c _ hr.1 ⟨O0, I0⟩ (fun W' i hR hi => by
      obtain ⟨b, o, kd, sy, nu, nm, a', n', c', hA, hnm, hr'⟩ := (TyRow.og hR.1 HR.out).2 i hi
      refine ⟨b, o, kd, sy, nu, nm, a', n', c', hA, (clos_ty L _ _ deep hdeep h1 kd sy nu nm a' n' c' W' hR.2 hnm (fun W2 hg hl2 => HI.out a' n' c' W2 (TyRow.og hg hr') hl2)).mono ?_⟩
      rintro e W2 ⟨he, hg, hI⟩
      exact ⟨he, hR.1.trans hg, hI⟩))
    have q0 := I0.bq.cell 0
    have HO := Lib.hid O0
    clear hd hr hl I0 O0 HI
    go_enter Tryz.func36, Tryz.ntmps36
    go_wp2_with fail
    refine HC.out.mono ?_
    rintro e W1 ⟨⟨r, rfl⟩, hg, hI⟩
    have HG := Lib.hid hg
    have HT := Lib.hid hI
    clear hg hI HC
    cases r
    · go_wp2_with fail
      go_ret
      exact ⟨⟨_, rfl⟩, HG.out, HT.out.lb⟩
    · go_wp2_with fail
      go_ret
      exact ⟨⟨_, rfl⟩, HG.out, HT.out.lb⟩
end Go.Proofs.YtjhedehhanaokaaGreatDoor
