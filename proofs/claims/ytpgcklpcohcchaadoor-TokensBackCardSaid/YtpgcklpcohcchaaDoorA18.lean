/- The look at a list of tokens ahead of its layout. -/
import Derived.Test.YtpgcklpcohcchaaDoorA10
import Derived.Test.YtpgcklpcohcchaaDoorA11
namespace Go.Proofs.YtpgcklpcohcchaaDoor
open Go Go.RowKit

/-- May t stand behind u? -/
def folT (u t : Tok) : Bool :=
  if t.line < u.line ∨ t.pos < u.pos ∨ (t.line = u.line ∧ t.col < u.col) then false
  else if u.kind = 9 then true
  else decide (u.pos < t.pos ∧ (u.line < t.line ∨ u.col < t.col))

set_option maxRecDepth 100000 in
set_option maxHeartbeats 6400000 in
theorem follows_any (u t : Tok) (w : World) :
    Calls Tryd.prog 57 #[.agg u.cs.toArray, .agg t.cs.toArray] w fun e w' => e = .returned (.bool (folT u t)) ∧ (w.alloc (.cells u.cs.toArray 32)).alloc (.cells t.cs.toArray 32) = w' := by
  obtain ⟨uk, us, ua, ul, uc⟩ := u
  obtain ⟨tk, ts, ta, tl, tc⟩ := t
  unfold Tok.cs folT
  simp only
  by_cases h1 : tl < ul ∨ ta < ua ∨ (tl = ul ∧ tc < uc)
  · rw [if_pos h1]
    have H1 := Lib.hid h1
    clear h1
    go_enter Tryd.func57, Tryd.ntmps57
    go_wp2
    all_goals first
      | (exfalso
         have hh := H1.out
         omega)
      | skip
    all_goals
      go_ret
      first
      | exact ⟨rfl, rfl⟩
      | exact ⟨ret_bool (by first | (have hh1 := H1.out; have hh3 := H3.out; simp; omega) | (simp; omega) | (simp_all; done) | (simp_all; omega)), rfl⟩
      | (have e : tl = ul := by omega
         subst e
         first
         | exact ⟨rfl, rfl⟩
         | exact ⟨ret_bool (by first | (have hh1 := H1.out; have hh3 := H3.out; simp; omega) | (simp; omega) | (simp_all; done) | (simp_all; omega)), rfl⟩)
  · rw [if_neg h1]
    have H1 := Lib.hid h1
    clear h1
    by_cases h2 : uk = 9
    · rw [if_pos h2]
      have h2' : ((uk : Int) == 9) = true := by simp; omega
      clear h2
      go_enter Tryd.func57, Tryd.ntmps57
      go_wp2
      all_goals first
        | (exfalso
           have hh := H1.out
           omega)
        | skip
      all_goals
        go_ret
        first
        | exact ⟨rfl, rfl⟩
        | exact ⟨ret_bool (by first | (have hh1 := H1.out; have hh3 := H3.out; simp; omega) | (simp; omega) | (simp_all; done) | (simp_all; omega)), rfl⟩
        | (have e : tl = ul := by omega
           subst e
           first
           | exact ⟨rfl, rfl⟩
           | exact ⟨ret_bool (by first | (have hh1 := H1.out; have hh3 := H3.out; simp; omega) | (simp; omega) | (simp_all; done) | (simp_all; omega)), rfl⟩)
    · rw [if_neg h2]
      have h2' : ((uk : Int) == 9) = false := by simp; omega
      clear h2
      by_cases h3 : ua < ta ∧ (ul < tl ∨ uc < tc)
      · have h3' : decide (ua < ta ∧ (ul < tl ∨ uc < tc)) = true := by simpa using h3
        rw [h3']
        have H3 := Lib.hid h3
        clear h3 h3'
        go_enter Tryd.func57, Tryd.ntmps57
        go_wp2
        all_goals first
          | (exfalso
             have hh := H3.out
             omega)
          | skip
        all_goals first
          | (exfalso
             have hh := H1.out
             omega)
          | skip
        all_goals
          go_ret
          first
          | exact ⟨rfl, rfl⟩
          | exact ⟨ret_bool (by first | (have hh1 := H1.out; have hh3 := H3.out; simp; omega) | (simp; omega) | (simp_all; done) | (simp_all; omega)), rfl⟩
          | (have e : tl = ul := by omega
             subst e
             first
             | exact ⟨rfl, rfl⟩
             | exact ⟨ret_bool (by first | (have hh1 := H1.out; have hh3 := H3.out; simp; omega) | (simp; omega) | (simp_all; done) | (simp_all; omega)), rfl⟩)
      · have h3' : decide (ua < ta ∧ (ul < tl ∨ uc < tc)) = false := by simpa using h3
        rw [h3']
        have H3 := Lib.hid h3
        clear h3 h3'
        go_enter Tryd.func57, Tryd.ntmps57
        go_wp2
        all_goals first
          | (exfalso
             have hh := H3.out
             omega)
          | skip
        all_goals first
          | (exfalso
             have hh := H1.out
             omega)
          | skip
        all_goals
          go_ret
          first
          | exact ⟨rfl, rfl⟩
          | exact ⟨ret_bool (by first | (have hh1 := H1.out; have hh3 := H3.out; simp; omega) | (simp; omega) | (simp_all; done) | (simp_all; omega)), rfl⟩
          | (have e : tl = ul := by omega
             subst e
             first
             | exact ⟨rfl, rfl⟩
             | exact ⟨ret_bool (by first | (have hh1 := H1.out; have hh3 := H3.out; simp; omega) | (simp; omega) | (simp_all; done) | (simp_all; omega)), rfl⟩)
end Go.Proofs.YtpgcklpcohcchaaDoor
