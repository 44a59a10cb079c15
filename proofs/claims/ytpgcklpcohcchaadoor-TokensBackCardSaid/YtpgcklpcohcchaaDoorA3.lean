/- Small contracts of the reader of tokens: the byte at hand, and the class of a byte. Contracts of the functions of package tokens that compare texts with lists of words. Contracts of the functions that look at one token. -/
import Derived.Test.YtpgcklpcohcchaaDoorRows
import Derived.Test.YtpgcklpcohcchaaDoorW
import Derived.WalkKit
import Derived.Deep.QuietTactic
import Derived.BigQuiet
import Derived.RegionTactic
import Derived.ChangeAlike
import Derived.Below
import Derived.Laws.OwnMore
import Derived.Deep.AppendLies
import Derived.Deep.Draws
import Derived.Laws.Rows
import Derived.Lib.LaidTab
import Derived.Lib.Hide
import Derived.WalkLawsBesides
import Derived.Deep.LoopGhost
namespace Go.Proofs.YtpgcklpcohcchaaDoor
open Go Go.RowKit

def pk (s : ByteArray) (i : Nat) : UInt8 := if h : i < s.size then s[i] else 0

theorem pk_lt {s : ByteArray} {i : Nat} (h : i < s.size) : pk s i = s[i] := by simp [pk, h]
theorem pk_ge {s : ByteArray} {i : Nat} (h : ¬ i < s.size) : pk s i = 0 := by simp [pk, h]


set_option maxHeartbeats 400000 in
theorem peek0 (rb : Nat) (s : ByteArray) (a : Nat) (w : World) (hs : s.size ≤ 65536) (ha : a ≤ 70000)
    (h0 : w.cell? ⟨rb, 0, none⟩ = some (.string s)) (h1 : w.cell? ⟨rb, 1, none⟩ = some (.int .i64 a)) :
    Calls Tryd.prog 22 #[.pointer (some ⟨rb, 0, none⟩), .int .i64 0] w fun e w' => e = .returned (.int .u8 (pk s a).toNat) ∧ ∃ k, w' = w.drewN k := by
  by_cases hlt : a < s.size
  · rw [pk_lt hlt]
    go_enter Tryd.func22, Tryd.ntmps22
    go_wp2
    go_quiet (fail)
    go_wp2
    go_quiet (fail)
    go_wp2
    go_ret
    exact ⟨rfl, _, World.drewN_drewN ..⟩
  · rw [pk_ge hlt]
    go_enter Tryd.func22, Tryd.ntmps22
    go_wp2
    go_quiet (fail)
    go_wp2
    go_ret
    exact ⟨rfl, _, rfl⟩

set_option maxHeartbeats 400000 in
theorem peek1 (rb : Nat) (s : ByteArray) (a : Nat) (w : World) (hs : s.size ≤ 65536) (ha : a ≤ 70000)
    (h0 : w.cell? ⟨rb, 0, none⟩ = some (.string s)) (h1 : w.cell? ⟨rb, 1, none⟩ = some (.int .i64 a)) :
    Calls Tryd.prog 22 #[.pointer (some ⟨rb, 0, none⟩), .int .i64 1] w fun e w' => e = .returned (.int .u8 (pk s (a + 1)).toNat) ∧ ∃ k, w' = w.drewN k := by
  have q1 : IntKind.i64.wrap ((a : Int) + 1) = (a : Int) + 1 := by rw [IntKind.wrap_i64]; omega
  by_cases hlt : a + 1 < s.size
  · rw [pk_lt hlt]
    have q2 : 0 ≤ (a : Int) + 1 := by omega
    have q3 : ((a : Int) + 1) < (s.size : Int) := by omega
    have q4 : ((a : Int) + 1).toNat = a + 1 := by omega
    go_enter Tryd.func22, Tryd.ntmps22
    go_wp2
    go_quiet (fail)
    go_wp2
    go_quiet (fail)
    go_wp2
    go_ret
    exact ⟨rfl, _, World.drewN_drewN ..⟩
  · rw [pk_ge hlt]
    have q3 : ¬ ((a : Int) + 1) < (s.size : Int) := by omega
    go_enter Tryd.func22, Tryd.ntmps22
    go_wp2
    go_quiet (fail)
    go_wp2
    go_ret
    exact ⟨rfl, _, rfl⟩

/-- The class of a byte. -/
def clsTab : List Nat := [0,0,0,0,0,0,0,0,0,0,0,0,0,0,0,0,0,0,0,0,0,0,0,0,0,0,0,0,0,0,0,0,0,3,0,0,0,3,3,0,4,5,3,3,6,3,6,3,2,2,2,2,2,2,2,2,2,2,3,6,3,3,3,3,6,1,1,1,1,1,1,1,1,1,1,1,1,1,1,1,1,1,1,1,1,1,1,1,1,1,1,4,0,5,3,1,0,1,1,1,1,1,1,1,1,1,1,1,1,1,1,1,1,1,1,1,1,1,1,1,1,1,1,4,3,5,3,0]
def cls (b : UInt8) : Nat := clsTab.getD b.toNat 0
theorem clsTab_length : clsTab.length = 128 := by decide +kernel
theorem cls_ge {b : UInt8} (h : ¬ b.toNat < 128) : cls b = 0 := by
  unfold cls; rw [List.getD_eq_getElem?_getD, List.getElem?_eq_none (by rw [clsTab_length]; omega)]; simp

/-- The table of classes stands in its variable. -/
def Tab (w : World) : Prop := ∀ i : Nat, i < 128 → w.cell? ⟨0, i, none⟩ = some (.int .u8 (clsTab.getD i 0 : Nat))

set_option maxRecDepth 100000 in
set_option maxHeartbeats 400000 in
theorem classOf_any (b : UInt8) (w : World) (ht : Tab w) :
    Calls Tryd.prog 26 #[.int .u8 b.toNat] w fun e w' => e = .returned (.int .u8 (cls b)) ∧ w = w' := by
  have hb : b.toNat < 256 := b.toNat_lt
  by_cases hlt : b.toNat < 128
  · have hc : w.cell? ⟨0, b.toNat, none⟩ = some (.int .u8 (cls b)) := ht b.toNat hlt
    clear ht
    generalize cls b = c at *
    go_enter Tryd.func26, Tryd.ntmps26
    go_wp2
    go_ret
    exact ⟨rfl, rfl⟩
  · rw [cls_ge hlt]
    clear ht
    go_enter Tryd.func26, Tryd.ntmps26
    go_wp2
    go_ret
    exact ⟨rfl, rfl⟩

theorem cls_lt (b : UInt8) : cls b ≤ 6 := by
  unfold cls
  by_cases h : b.toNat < 128
  · have : ∀ i, i < 128 → clsTab.getD i 0 ≤ 6 := by decide
    exact this _ h
  · rw [List.getD_eq_getElem?_getD, List.getElem?_eq_none (by rw [clsTab_length]; omega)]; decide

/-- May a byte stand in a word? -/
def inW (b : UInt8) : Bool := cls b == 1 || cls b == 2

set_option maxHeartbeats 400000 in
theorem inWord_any (b : UInt8) (w : World) (ht : Tab w) :
    Calls Tryd.prog 47 #[.int .u8 b.toNat] w fun e w' => e = .returned (.bool (inW b)) ∧ w = w' := by
  have c := classOf_any b w ht
  have hl := cls_lt b
  have H := Lib.hid c; clear c ht
  unfold inW
  generalize cls b = n at *
  by_cases h1 : n = 1
  · subst h1
    go_enter Tryd.func47, Tryd.ntmps47
    go_wp2_with (go_at_call 26; refine H.out.mono ?_; rintro e w' ⟨rfl, rfl⟩)
    go_ret
    exact ⟨rfl, rfl⟩
  · have h1' : ((n : Int) == 1) = false := by simp; omega
    have e1 : (n == 1) = false := by simpa using h1
    by_cases h2 : n = 2
    · subst h2
      go_enter Tryd.func47, Tryd.ntmps47
      go_wp2_with (go_at_call 26; refine H.out.mono ?_; rintro e w' ⟨rfl, rfl⟩)
      go_ret
      exact ⟨rfl, rfl⟩
    · have h2' : ((n : Int) == 2) = false := by simp; omega
      have e2 : (n == 2) = false := by simpa using h2
      rw [e1, e2]
      clear h1 h2 e1 e2
      go_enter Tryd.func47, Tryd.ntmps47
      go_wp2_with (go_at_call 26; refine H.out.mono ?_; rintro e w' ⟨rfl, rfl⟩)
      go_ret
      exact ⟨rfl, rfl⟩

/-- The value of a panic of the tokens' own. -/
def fv (at_ : Int) (code : Int) : List PanicEntry := [{ v := .iface 26 (.agg #[.int .i64 at_, .int .i64 code]), recovered := false }]

theorem fail_any (at_ code : Int) (w : World) :
    Calls Tryd.prog 14 #[.int .i64 at_, .int .i64 code] w fun e w' => e = .panicked (fv at_ code) ∧ w = w' := by
  go_enter Tryd.func14, Tryd.ntmps14
  go_wp2
  exact ⟨rfl, rfl, rfl⟩
end Go.Proofs.YtpgcklpcohcchaaDoor
namespace Go.Proofs.YtpgcklpcohcchaaDoor
open Go Go.RowKit

/-- The keywords. -/
def kwd (l : List UInt8) : Bool :=
  l == [97, 98, 115, 116, 114, 97, 99, 116] || l == [99, 97, 115, 101] || l == [99, 97, 116, 99, 104] || l == [99, 108, 97, 115, 115] || l == [100, 101, 102] || l == [100, 111] || l == [101, 108, 115, 101] || l == [101, 110, 117, 109] || l == [101, 120, 116, 101, 110, 100, 115] || l == [101, 120, 116, 101, 110, 115, 105, 111, 110] || l == [102, 97, 108, 115, 101] || l == [102, 105, 110, 97, 108] || l == [102, 105, 110, 97, 108, 108, 121] || l == [102, 111, 114] || l == [103, 105, 118, 101, 110] || l == [105, 102] || l == [105, 109, 112, 111, 114, 116] || l == [105, 110, 108, 105, 110, 101] || l == [108, 97, 122, 121] || l == [109, 97, 116, 99, 104] || l == [110, 101, 119] || l == [110, 117, 108, 108] || l == [111, 98, 106, 101, 99, 116] || l == [111, 118, 101, 114, 114, 105, 100, 101] || l == [112, 114, 105, 118, 97, 116, 101] || l == [114, 101, 116, 117, 114, 110] || l == [115, 101, 97, 108, 101, 100] || l == [115, 117, 112, 101, 114] || l == [116, 104, 101, 110] || l == [116, 104, 105, 115] || l == [116, 104, 114, 111, 119] || l == [116, 114, 97, 105, 116] || l == [116, 114, 117, 101] || l == [116, 114, 121] || l == [116, 121, 112, 101] || l == [117, 115, 105, 110, 103] || l == [118, 97, 108] || l == [118, 97, 114] || l == [118, 111, 108, 97, 116, 105, 108, 101] || l == [119, 104, 105, 108, 101] || l == [119, 105, 116, 104] || l == [121, 105, 101, 108, 100]
/-- The marks, and the keywords, behind which an indentation may begin. -/
def opM (l : List UInt8) : Bool :=
  l == [58] || l == [61] || l == [61, 62] || l == [60, 45]
def opK (l : List UInt8) : Bool :=
  l == [116, 104, 101, 110] || l == [101, 108, 115, 101] || l == [100, 111] || l == [109, 97, 116, 99, 104] || l == [116, 114, 121] || l == [99, 97, 116, 99, 104] || l == [102, 105, 110, 97, 108, 108, 121] || l == [121, 105, 101, 108, 100] || l == [114, 101, 116, 117, 114, 110] || l == [116, 104, 114, 111, 119]
/-- The marks behind which a statement cannot end, and the keywords behind which it can. -/
def unM (l : List UInt8) : Bool :=
  l == [40] || l == [91] || l == [123] || l == [39, 123] || l == [36, 123] || l == [44] || l == [46] || l == [59] || l == [61] || l == [61, 62] || l == [60, 45] || l == [58] || l == [60, 58] || l == [62, 58]
def unK (l : List UInt8) : Bool :=
  l == [102, 97, 108, 115, 101] || l == [110, 117, 108, 108] || l == [114, 101, 116, 117, 114, 110] || l == [115, 117, 112, 101, 114] || l == [116, 104, 105, 115] || l == [116, 114, 117, 101]
/-- The marks and the keywords that go on with a statement. -/
def coM (l : List UInt8) : Bool :=
  l == [41] || l == [93] || l == [125] || l == [44] || l == [46] || l == [61] || l == [61, 62] || l == [60, 45] || l == [58] || l == [60, 58] || l == [62, 58] || l == [59]
def coK (l : List UInt8) : Bool :=
  l == [99, 97, 116, 99, 104] || l == [100, 111] || l == [101, 108, 115, 101] || l == [101, 120, 116, 101, 110, 100, 115] || l == [102, 105, 110, 97, 108, 108, 121] || l == [109, 97, 116, 99, 104] || l == [116, 104, 101, 110] || l == [119, 105, 116, 104] || l == [121, 105, 101, 108, 100]

/-- The mark that closes a bracket. -/
def clo (l : List UInt8) : ByteArray :=
  if l == [40] then ⟨#[41]⟩ else if l == [91] then ⟨#[93]⟩ else if l == [123] || l == [39, 123] || l == [36, 123] then ⟨#[125]⟩ else ⟨#[]⟩

theorem ret_bool {a b : Bool} (h : a = b) : Ending.returned (.bool a) = .returned (.bool b) := by rw [h]
theorem ret_str {a b : ByteArray} (h : a = b) : Ending.returned (.string a) = .returned (.string b) := by rw [h]

theorem closing_any (s : ByteArray) (w : World) :
    Calls Tryd.prog 49 #[.string s] w fun e w' => e = .returned (.string (clo s.toList)) ∧ w = w' := by
  go_enter Tryd.func49, Tryd.ntmps49
  go_wp2
  all_goals
    go_ret
    exact ⟨ret_str (by simp_all [clo]), rfl⟩

set_option maxHeartbeats 4000000 in
theorem keyword_any (s : ByteArray) (w : World) :
    Calls Tryd.prog 67 #[.string s] w fun e w' => e = .returned (.bool (kwd s.toList)) ∧ w = w' := by
  go_enter Tryd.func67, Tryd.ntmps67
  go_wp2
  all_goals
    go_ret
    exact ⟨ret_bool (by simp_all [kwd]), rfl⟩
end Go.Proofs.YtpgcklpcohcchaaDoor
namespace Go.Proofs.YtpgcklpcohcchaaDoor
open Go Go.RowKit

/-- A token. -/
structure Tok where
  kind : Nat
  text : ByteArray
  pos : Nat
  line : Nat
  col : Nat

/-- The cells of a token. -/
def Tok.cs (t : Tok) : List Value := [.int .i64 t.kind, .string t.text, .int .i64 t.pos, .int .i64 t.line, .int .i64 t.col]

def opensT (t : Tok) : Bool := (t.kind == 3 && opM t.text.toList) || (t.kind == 1 && opK t.text.toList)
def unfT (t : Tok) : Bool := t.kind == 2 || (t.kind == 3 && unM t.text.toList) || (t.kind == 1 && !unK t.text.toList && kwd t.text.toList)

theorem ik1 (k : Nat) : ((k : Int) = 1) = (k = 1) := propext ⟨fun h => by omega, fun h => by omega⟩
theorem ik2 (k : Nat) : ((k : Int) = 2) = (k = 2) := propext ⟨fun h => by omega, fun h => by omega⟩
theorem ik3 (k : Nat) : ((k : Int) = 3) = (k = 3) := propext ⟨fun h => by omega, fun h => by omega⟩

set_option maxHeartbeats 4000000 in
theorem opens_any (t : Tok) (w : World) :
    Calls Tryd.prog 59 #[.agg t.cs.toArray] w fun e w' => e = .returned (.bool (opensT t)) ∧ w.alloc (.cells t.cs.toArray 32) = w' := by
  obtain ⟨k, s, a, l, c⟩ := t
  unfold opensT Tok.cs
  go_enter Tryd.func59, Tryd.ntmps59
  go_wp2
  all_goals
    go_ret
    exact ⟨ret_bool (by simp_all [opM, opK, ik1, ik3]), rfl⟩

set_option maxHeartbeats 4000000 in
theorem unfinished_any (t : Tok) (w : World) :
    Calls Tryd.prog 63 #[.agg t.cs.toArray] w fun e w' => e = .returned (.bool (unfT t)) ∧ w.alloc (.cells t.cs.toArray 32) = w' := by
  obtain ⟨k, s, a, l, c⟩ := t
  unfold unfT Tok.cs
  go_enter Tryd.func63, Tryd.ntmps63
  go_wp2_with (go_at_call 67; refine (keyword_any _ _).mono ?_; rintro e w' ⟨rfl, rfl⟩)
  all_goals
    go_ret
    exact ⟨ret_bool (by simp_all [unM, unK, ik1, ik2, ik3]), rfl⟩
end Go.Proofs.YtpgcklpcohcchaaDoor
