/- FindClass and the reference's. -/
import Derived.Test.YtkjjieloncdjhaaGreatDoorF13
import Derived.Test.YtkjjieloncdjhaaGreatDoorL10
namespace Go.Proofs.YtkjjieloncdjhaaGreatDoor
open Go Go.RowKit

set_option maxRecDepth 100000 in
set_option maxHeartbeats 2000000 in
theorem find_any (L : Nat) (ow : Int) (nm : ByteArray) (ob : Bool) (xs : Nat → ClC) (ca ma fa ta ya : Option Addr) (cn mn fn tn yn cc mc fc tc yc : Nat) (mi : Int) (w : World) (hn : cn ≤ 9223372036854775807)
    (hx : ∀ i, i < cn → ∃ b o, ClAt w L ca i b o (xs i)) :
    Calls Tryz.prog 14 #[.agg #[.slice ca cn cc, .slice ma mn mc, .slice fa fn fc, .slice ta tn tc, .slice ya yn yc, .int .i64 mi], .int .i64 ow, .string nm, .bool ob] w fun e W' => (∃ z : Int, e = .returned (.int .i64 z) ∧ IdxSpec (fun i => hitF ow nm ob (xs i)) cn z) ∧ Below w.heap.size w W' := by
  have F := Lib.hid (((((Frs.nil w).snoc (by simp) 30 [.slice ca cn cc, .slice ma mn mc, .slice fa fn fc, .slice ta tn tc, .slice ya yn yc, .int .i64 mi]).snoc (by simp) 3 [.int .i64 ow]).snoc (by simp) 9 [.string nm]).snoc (by simp) 4 [.bool ob])
  have HI := Lib.hid (idx_find (w.heap.size + 1) (w.heap.size + 1 + 1) (w.heap.size + 1 + 1 + 1) L ow nm ob xs ca cn cc _ hn (F.out.bl 1 _ _ rfl) (F.out.bl 2 _ _ rfl) (F.out.bl 3 _ _ rfl) (fun i hi => by
    obtain ⟨b, o, hA⟩ := hx i hi
    exact ⟨b, o, hA.below F.out.be hA.lt⟩))
  clear hx
  go_enter Tryz.func14, Tryz.ntmps14
  go_wp2_with fail
  refine HI.out.mono ?_
  rintro e w1 ⟨⟨z, rfl, hz⟩, hB⟩
  have HZ := Lib.hid hz
  have HB := Lib.hid (F.out.be.trans (hB.mono F.out.be.size))
  clear hz hB HI
  go_wp2_with fail
  go_ret
  exact ⟨⟨_, rfl, HZ.out⟩, HB.out⟩

set_option maxRecDepth 100000 in
set_option maxHeartbeats 4000000 in
theorem refFind_any (L : Nat) (ow : Int) (nm : ByteArray) (ob : Bool) (xs : Nat → ClC) (ca ma fa ta ya : Option Addr) (cn mn fn tn yn cc mc fc tc yc : Nat) (mi : Int) (w : World) (hn : cn ≤ 9223372036854775807)
    (hx : ∀ i, i < cn → ∃ b o, ClAt w L ca i b o (xs i)) :
    Calls Tryz.prog 15 #[.agg #[.slice ca cn cc, .slice ma mn mc, .slice fa fn fc, .slice ta tn tc, .slice ya yn yc, .int .i64 mi], .int .i64 ow, .string nm, .bool ob] w fun e W' => (∃ z : Int, e = .returned (.int .i64 z) ∧ IdxSpec (fun i => hitF ow nm ob (xs i)) cn z) ∧ Below w.heap.size w W' := by
  have HX := Lib.hid hx
  have HP0 := Lib.hid (Bl.new w 30 [.slice ca cn cc, .slice ma mn mc, .slice fa fn fc, .slice ta tn tc, .slice ya yn yc, .int .i64 mi])
  have HB0 := Lib.hid ((Below.refl w.heap.size w).alloc (Nat.le_refl _) (.cells #[.slice ca cn cc, .slice ma mn mc, .slice fa fn fc, .slice ta tn tc, .slice ya yn yc, .int .i64 mi] 30))
  clear hx
  go_enter Tryz.func15, Tryz.ntmps15
  go_wp2_with fail
  go_loopw [9] (fun i wr => ∃ k : Nat, k ≤ cn ∧ i = .int .i64 k ∧ (∀ j, j < k → hitF ow nm ob (xs j) = false) ∧ (Below w.heap.size w wr ∧ Bl wr w.heap.size 30 [.slice ca cn cc, .slice ma mn mc, .slice fa fn fc, .slice ta tn tc, .slice ya yn yc, .int .i64 mi])) (fun i _ => cn - (intOf i).toNat)
  case atStart => exact ⟨0, by omega, rfl, fun j hj => absurd hj (by omega), HB0.out, HP0.out⟩
  case round =>
    obtain ⟨k, hk, rfl, hno, hB⟩ := hrel
    have HN := Lib.hid hno
    have HB := Lib.hid hB
    have pc : wr.cell? ⟨w.heap.size, 0, none⟩ = some (.slice ca cn cc) := hB.2.cell 0
    have pl : w.heap.size < wr.heap.size := hB.2.lt
    have HA := Lib.hid (fun o : Obj => (show Below w.heap.size w (wr.alloc o) ∧ Bl (wr.alloc o) w.heap.size 30 [.slice ca cn cc, .slice ma mn mc, .slice fa fn fc, .slice ta tn tc, .slice ya yn yc, .int .i64 mi] from ⟨hB.1.alloc hB.1.size o, hB.2.alloc o⟩))
    clear hno hB
    by_cases hlt : k < cn
    · obtain ⟨b, o, hA⟩ := HX.out k hlt
      obtain ⟨rfl, ne, lt, k0, k1, k2, k3, k4, k5, k6, k7, k8, k9, k10, k11, k12⟩ := hA.below HB.out.1 hA.lt
      clear hA
      have HH0 : hitF ow nm ob (xs k) = (decide ((xs k).ow = ow) && (decide ((xs k).nm = nm) && (decide ((xs k).kd = 2) == ob))) := rfl
      obtain ⟨x, hxk⟩ : ∃ x, x = xs k := ⟨_, rfl⟩
      rw [← hxk] at HH0 k0 k1 k2 k3 k4 k5 k6 k7 k8 k9 k10 k11 k12
      have HXK := Lib.hid hxk
      clear hxk
      by_cases ho : x.ow = ow
      · by_cases hn' : x.nm = nm
        · by_cases hk2 : x.kd = 2
          · have e1 : (x.kd == 2) = true := by simp [hk2]
            cases ob
            · have HH := Lib.hid (show hitF ow nm false x = false by rw [HH0]; simp [ho, hn', hk2])
              clear HH0
              subst ho
              subst hn'
              go_wp2_with fail
              go_roundw
              case rel => exact ⟨k + 1, by omega, by go_num, fun j hj => (by
                by_cases e : j = k
                · rw [e, ← HXK.out]; exact HH.out
                · exact HN.out j (by omega)), HA.out _⟩
              case measure => simp [intOf]; omega
            · have HH := Lib.hid (show hitF ow nm true x = true by rw [HH0]; simp [ho, hn', hk2])
              clear HH0
              subst ho
              subst hn'
              go_wp2_with fail
              go_ret
              exact ⟨⟨_, rfl, .inl ⟨k, hlt, (by show hitF _ _ _ (xs k) = true; rw [← HXK.out]; exact HH.out), HN.out, rfl⟩⟩, (HA.out _).1⟩
          · have e1 : (x.kd == 2) = false := by simp [hk2]
            cases ob
            · have HH := Lib.hid (show hitF ow nm false x = true by rw [HH0]; simp [ho, hn', hk2])
              clear HH0
              subst ho
              subst hn'
              go_wp2_with fail
              go_ret
              exact ⟨⟨_, rfl, .inl ⟨k, hlt, (by show hitF _ _ _ (xs k) = true; rw [← HXK.out]; exact HH.out), HN.out, rfl⟩⟩, (HA.out _).1⟩
            · have HH := Lib.hid (show hitF ow nm true x = false by rw [HH0]; simp [ho, hn', hk2])
              clear HH0
              subst ho
              subst hn'
              go_wp2_with fail
              go_roundw
              case rel => exact ⟨k + 1, by omega, by go_num, fun j hj => (by
                by_cases e : j = k
                · rw [e, ← HXK.out]; exact HH.out
                · exact HN.out j (by omega)), HA.out _⟩
              case measure => simp [intOf]; omega
        · have HH := Lib.hid (show hitF ow nm ob x = false by rw [HH0]; simp [hn'])
          clear HH0
          subst ho
          have g2 : ¬ x.nm.toList = nm.toList := fun e => hn' (ByteArray.ext (by
            rw [ByteArray.toList_eq, ByteArray.toList_eq] at e
            exact Array.toList_inj.1 e))
          have g3 : ¬ x.nm.data = nm.data := fun e => hn' (ByteArray.ext e)
          go_wp2_with fail
          go_roundw
          case rel => exact ⟨k + 1, by omega, by go_num, fun j hj => (by
            by_cases e : j = k
            · rw [e, ← HXK.out]; exact HH.out
            · exact HN.out j (by omega)), HA.out _⟩
          case measure => simp [intOf]; omega
      · have HH := Lib.hid (show hitF ow nm ob x = false by rw [HH0]; simp [ho])
        clear HH0
        have g1 : (x.ow == ow) = false := by simp [ho]
        go_wp2_with fail
        go_roundw
        case rel => exact ⟨k + 1, by omega, by go_num, fun j hj => (by
          by_cases e : j = k
          · rw [e, ← HXK.out]; exact HH.out
          · exact HN.out j (by omega)), HA.out _⟩
        case measure => simp [intOf]; omega
    · have hkn : k = cn := by omega
      subst hkn
      go_wp2_with fail
      go_ret
      exact ⟨⟨_, rfl, .inr ⟨HN.out, rfl⟩⟩, HB.out.1⟩
end Go.Proofs.YtkjjieloncdjhaaGreatDoor
