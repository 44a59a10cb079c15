/- The statement on names: the walk. -/
import Derived.Test.YtjhedehhanaokaaGreatDoorL21
import Derived.Test.YtjhedehhanaokaaGreatDoorL5
import Derived.Test.YtjhedehhanaokaaGreatDoorL6
namespace Go.Proofs.YtjhedehhanaokaaGreatDoor
open Go Go.RowKit

set_option maxRecDepth 100000 in
set_option maxHeartbeats 6400000 in
theorem names_any (s : ByteArray) (w : World) : Calls Tryz.prog 3 #[.string s] w fun e w' => e = .returned (.bool true) ∧ Below w.heap.size w w' := by
  have AW := Lib.hid (awake_any w)
  by_cases hbig : 1000 < s.size
  · have q : (1000 : Int) < (s.size : Int) := by omega
    clear hbig
    go_enter Tryz.func3, Tryz.ntmps3
    go_wp2_with fail
    go_ret
    exact ⟨rfl, Below.refl _ _⟩
  · have q : ¬ (1000 : Int) < (s.size : Int) := by omega
    have hs : s.size ≤ 100000 := by omega
    have HS := Lib.hid hs
    clear hs hbig
    go_enter Tryz.func3, Tryz.ntmps3
    go_wp2_with fail
    refine AW.out.mono ?_
    rintro e w1 ⟨rfl, hb⟩
    have HB := Lib.hid hb
    clear hb AW
    go_wp2_with fail
    refine (isName_any s w1 HS.out).mono ?_
    rintro e w2 ⟨rfl, hb⟩
    have HB2 := Lib.hid (HB.out.trans (hb.mono HB.out.size))
    clear hb HB
    go_wp2_with fail
    refine (refName_any s w2 HS.out).mono ?_
    rintro e w3 ⟨rfl, rfl⟩
    generalize nameF s = r at *
    cases r
    · go_wp2_with fail
      go_ret
      exact ⟨rfl, HB2.out⟩
    · go_wp2_with fail
      go_ret
      exact ⟨rfl, HB2.out⟩
end Go.Proofs.YtjhedehhanaokaaGreatDoor
