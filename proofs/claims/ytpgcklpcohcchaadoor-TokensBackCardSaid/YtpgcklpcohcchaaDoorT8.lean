/- The library's contracts at this program: strings.Builder, strings.IndexByte. -/
import Derived.Shelf.Strings.Builder1
import Derived.Shelf.Small.Strs
import Derived.Shelf.Strings.Search1
import Derived.Test.YtpgcklpcohcchaaDoorProg
import Derived.Shelf.Strings.BuilderF
import Derived.Shelf.Strings.BuilderK
import Derived.Test.YtpgcklpcohcchaaDoorQ7
import Derived.Test.YtpgcklpcohcchaaDoorS21
import Derived.BigQuiet
namespace Go.Proofs
open Go.Shelf
def Tryd.lays170_ren : Go.Shelf.Ren := ⟨fun | 170 => 18 | n => n, fun | 70 => 47 | 3 => 3 | 0 => 0 | 72 => 50 | 37 => 48 | 5 => 5 | n => n, fun | n => n⟩
theorem Tryd.lays170 : Go.Proofs.Lays.n170 Tryd.prog Tryd.lays170_ren := {
  mixed := by kernel_rfl
  f170 := Tryd.func18.trans (congrArg some (by kernel_rfl))
  t0 := Tryd.underlying0
  a0 := Tryd.isAgg0
  z0 := Tryd.sizeOf0
  v0 := Tryd.zeroValue0
  t3 := Tryd.underlying3
  a3 := Tryd.isAgg3
  z3 := Tryd.sizeOf3
  v3 := Tryd.zeroValue3
  t37 := Tryd.underlying48
  a37 := Tryd.isAgg48
  z37 := Tryd.sizeOf48
  v37 := Tryd.zeroValue48
  t70 := Tryd.underlying47
  a70 := Tryd.isAgg47
  z70 := Tryd.sizeOf47
  v70 := Tryd.zeroValue47
  t72 := Tryd.underlying50
  a72 := Tryd.isAgg50
  z72 := Tryd.sizeOf50
  v72 := Tryd.zeroValue50 }
open Go.RowKit in
/-- (*strings.Builder).Len: "Len returns the number of accumulated bytes; b.Len() == len(b.String()).": the world is as it was. (LAID: no walk: one application.) -/
theorem Tryd.Builder_Len (B b : Nat) (bs : List Value) (w : World) (h : Lib.IsBuilder 50 5 B b bs w) :
    Calls Tryd.prog 18 #[.pointer (some ⟨b, 0, none⟩)] w fun e w' => e = .returned (.int .i64 bs.length) ∧ w' = w := Any.Builder_Len Tryd.lays170 B b bs w h
def Tryd.lays169_ren : Go.Shelf.Ren := ⟨fun | 169 => 20 | n => n, fun | 70 => 47 | 9 => 9 | 0 => 0 | 72 => 50 | 37 => 48 | 127 => 67 | 3 => 3 | 5 => 5 | n => n, fun | n => n⟩
theorem Tryd.lays169 : Go.Proofs.Lays.n169 Tryd.prog Tryd.lays169_ren := {
  mixed := by kernel_rfl
  f169 := Tryd.func20.trans (congrArg some (by kernel_rfl))
  t0 := Tryd.underlying0
  a0 := Tryd.isAgg0
  z0 := Tryd.sizeOf0
  v0 := Tryd.zeroValue0
  t3 := Tryd.underlying3
  a3 := Tryd.isAgg3
  z3 := Tryd.sizeOf3
  v3 := Tryd.zeroValue3
  t9 := Tryd.underlying9
  a9 := Tryd.isAgg9
  z9 := Tryd.sizeOf9
  v9 := Tryd.zeroValue9
  t37 := Tryd.underlying48
  a37 := Tryd.isAgg48
  z37 := Tryd.sizeOf48
  v37 := Tryd.zeroValue48
  t70 := Tryd.underlying47
  a70 := Tryd.isAgg47
  z70 := Tryd.sizeOf47
  v70 := Tryd.zeroValue47
  t72 := Tryd.underlying50
  a72 := Tryd.isAgg50
  z72 := Tryd.sizeOf50
  v72 := Tryd.zeroValue50
  t127 := Tryd.underlying67
  a127 := Tryd.isAgg67
  z127 := Tryd.sizeOf67
  v127 := Tryd.zeroValue67 }
theorem Tryd.Builder_Extra_169 : Builder.Extra Tryd.prog Tryd.lays169_ren := {
  sizeBuilder := by kernel_rfl
  liesBuilder := by kernel_rfl
  t5 := Tryd.underlying5
  a5 := Tryd.isAgg5
  z5 := Tryd.sizeOf5
  v5 := Tryd.zeroValue5
  infoByte := by kernel_rfl
  cellsByte := by kernel_rfl
  sizeByte := by kernel_rfl
  neB5 := by decide }
open Go.RowKit in
/-- (*strings.Builder).String: "String returns the accumulated string.": OF A BUILDER THAT HOLDS AT LEAST ONE BYTE. ✋ THE MODEL FREEZES THOSE BYTES IN THE BUFFER (unsafe.String): a later write INTO them ends the model's run without an answer; a later append BEHIND them goes on. The statement's order of evaluation is drawn: one draw. (LAID: no walk: one application.) -/
theorem Tryd.Builder_String (B b : Nat) (l : List UInt8) (w : World) (h : Lib.IsBuilder 50 5 B b (Lib.byteCells l) w) (h0 : l ≠ []) :
    Calls Tryd.prog 20 #[.pointer (some ⟨b, 0, none⟩)] w fun e w' => e = .returned (.string ⟨l.toArray⟩) ∧ Below B w w' := Any.Builder_String Tryd.lays169 Tryd.Builder_Extra_169 B b l w h h0
open Go.RowKit in
/-- (*strings.Builder).String OF A BUILDER THAT HOLDS NO BYTE: the empty string. (Its buffer is nil, or a row of which it has taken nothing yet; where that row has NO capacity the model lays one new block for unsafe.SliceData's 'some address'.) One draw. (LAID: no walk: one application.) -/
theorem Tryd.Builder_String_empty (B b : Nat) (w : World) (h : Lib.IsBuilder 50 5 B b [] w) (hBw : B ≤ w.heap.size) :
    Calls Tryd.prog 20 #[.pointer (some ⟨b, 0, none⟩)] w fun e w' => e = .returned (.string ⟨#[]⟩) ∧ Below B w w' := Any.Builder_String_empty Tryd.lays169 Tryd.Builder_Extra_169 B b w h hBw
open Go.RowKit in
/-- (*strings.Builder).String: "String returns the accumulated string.": WHATEVER THE BUILDER HOLDS. (LAID: no walk: one application.) -/
theorem Tryd.Builder_String_any (B b : Nat) (l : List UInt8) (w : World) (h : Lib.IsBuilder 50 5 B b (Lib.byteCells l) w) (hBw : B ≤ w.heap.size) :
    Calls Tryd.prog 20 #[.pointer (some ⟨b, 0, none⟩)] w fun e w' => e = .returned (.string ⟨l.toArray⟩) ∧ Below B w w' := Any.Builder_String_any Tryd.lays169 Tryd.Builder_Extra_169 B b l w h hBw
def Tryd.lays137_ren : Go.Shelf.Ren := ⟨fun | 137 => 55 | 217 => 70 | 266 => 74 | n => n, fun | 9 => 9 | 5 => 5 | 3 => 3 | n => n, fun | n => n⟩
theorem Tryd.lays137 : Go.Proofs.Lays.n137 Tryd.prog Tryd.lays137_ren := {
  mixed := by kernel_rfl
  f137 := Tryd.func55.trans (congrArg some (by kernel_rfl))
  f217 := Tryd.func70.trans (congrArg some (by kernel_rfl))
  f266 := Tryd.func74.trans (congrArg some (by kernel_rfl))
  t3 := Tryd.underlying3
  a3 := Tryd.isAgg3
  z3 := Tryd.sizeOf3
  v3 := Tryd.zeroValue3
  t5 := Tryd.underlying5
  a5 := Tryd.isAgg5
  z5 := Tryd.sizeOf5
  v5 := Tryd.zeroValue5
  t9 := Tryd.underlying9
  a9 := Tryd.isAgg9
  z9 := Tryd.sizeOf9
  v9 := Tryd.zeroValue9 }
open Go.RowKit in
/-- strings.IndexByte: "IndexByte returns the index of the first instance of c in s, or -1 if c is not present in s.": IT RETURNS 'Lib.indexByte s c'; the world is as it was. (LAID: no walk: one application.) -/
theorem Tryd.strings_IndexByte (s : ByteArray) (c : Int) (w : World) :
    Calls Tryd.prog 55 #[.string s, .int .u8 c] w fun e w' => e = .returned (.int .i64 (Lib.indexByte s.data.toList c.toNat.toUInt8)) ∧ w' = w := Any.strings_IndexByte Tryd.lays137 s c w
def Tryd.lays217_ren : Go.Shelf.Ren := ⟨fun | 217 => 70 | 266 => 74 | n => n, fun | 9 => 9 | 5 => 5 | 3 => 3 | n => n, fun | n => n⟩
theorem Tryd.lays217 : Go.Proofs.Lays.n217 Tryd.prog Tryd.lays217_ren := {
  mixed := by kernel_rfl
  f217 := Tryd.func70.trans (congrArg some (by kernel_rfl))
  f266 := Tryd.func74.trans (congrArg some (by kernel_rfl))
  t3 := Tryd.underlying3
  a3 := Tryd.isAgg3
  z3 := Tryd.sizeOf3
  v3 := Tryd.zeroValue3
  t5 := Tryd.underlying5
  a5 := Tryd.isAgg5
  z5 := Tryd.sizeOf5
  v5 := Tryd.zeroValue5
  t9 := Tryd.underlying9
  a9 := Tryd.isAgg9
  z9 := Tryd.sizeOf9
  v9 := Tryd.zeroValue9 }
open Go.RowKit Go.Lib in
/-- internal/stringslite.IndexByte (what strings.IndexByte calls): IT RETURNS 'Lib.indexByte s c'; the world is as it was. (LAID: no walk: one application.) -/
theorem Tryd.stringslite_IndexByte (s : ByteArray) (c : Int) (w : World) :
    Calls Tryd.prog 70 #[.string s, .int .u8 c] w fun e w' => e = .returned (.int .i64 (Lib.indexByte s.data.toList c.toNat.toUInt8)) ∧ w' = w := Any.stringslite_IndexByte Tryd.lays217 s c w
def Tryd.lays167_ren : Go.Shelf.Ren := ⟨fun | 240 => 34 | 276 => 54 | 167 => 15 | 166 => 16 | n => n, fun | 0 => 0 | 3 => 3 | 4 => 4 | 5 => 5 | 9 => 9 | 20 => 20 | 37 => 48 | 70 => 47 | 72 => 50 | 75 => 52 | 80 => 59 | 164 => 83 | 127 => 67 | n => n, fun n => n⟩
theorem Tryd.lays167 : Go.Proofs.Lays.n167 Tryd.prog Tryd.lays167_ren := {
  mixed := by kernel_rfl
  f167 := Tryd.func15.trans (congrArg some (by kernel_rfl))
  f240 := Tryd.func34.trans (congrArg some (by kernel_rfl))
  f276 := Tryd.func54.trans (congrArg some (by kernel_rfl))
  t0 := Tryd.underlying0
  a0 := Tryd.isAgg0
  z0 := Tryd.sizeOf0
  v0 := Tryd.zeroValue0
  t4 := Tryd.underlying4
  a4 := Tryd.isAgg4
  z4 := Tryd.sizeOf4
  v4 := Tryd.zeroValue4
  t5 := Tryd.underlying5
  a5 := Tryd.isAgg5
  z5 := Tryd.sizeOf5
  v5 := Tryd.zeroValue5
  t9 := Tryd.underlying9
  a9 := Tryd.isAgg9
  z9 := Tryd.sizeOf9
  v9 := Tryd.zeroValue9
  t20 := Tryd.underlying20
  a20 := Tryd.isAgg20
  z20 := Tryd.sizeOf20
  v20 := Tryd.zeroValue20
  t37 := Tryd.underlying48
  a37 := Tryd.isAgg48
  z37 := Tryd.sizeOf48
  v37 := Tryd.zeroValue48
  t70 := Tryd.underlying47
  a70 := Tryd.isAgg47
  z70 := Tryd.sizeOf47
  v70 := Tryd.zeroValue47
  t72 := Tryd.underlying50
  a72 := Tryd.isAgg50
  z72 := Tryd.sizeOf50
  v72 := Tryd.zeroValue50
  t75 := Tryd.underlying52
  a75 := Tryd.isAgg52
  z75 := Tryd.sizeOf52
  v75 := Tryd.zeroValue52
  t164 := Tryd.underlying83
  a164 := Tryd.isAgg83
  z164 := Tryd.sizeOf83
  v164 := Tryd.zeroValue83 }
theorem Tryd.Builder_Extra_167 : Builder.Extra Tryd.prog Tryd.lays167_ren := {
  sizeBuilder := by kernel_rfl
  liesBuilder := by kernel_rfl
  t5 := Tryd.underlying5
  a5 := Tryd.isAgg5
  z5 := Tryd.sizeOf5
  v5 := Tryd.zeroValue5
  infoByte := by kernel_rfl
  cellsByte := by kernel_rfl
  sizeByte := by kernel_rfl
  neB5 := by decide }
open Go.RowKit in
theorem Tryd.Builder_WriteByte (B b : Nat) (bs : List Value) (c : Int) (w : World) (h : Lib.IsBuilder 50 5 B b bs w) (hlen : bs.length + 1 ≤ 140737488355328) (hBw : B ≤ w.heap.size) :
    Calls Tryd.prog 15 #[.pointer (some ⟨b, 0, none⟩), .int .u8 c] w fun e w' => e = .returned .nilIface ∧ (Lib.BuilderAt 50 5 B b (.pointer (some ⟨b, 0, none⟩)) (bs ++ [.int .u8 c]) w' ∧ Below B w w') := Any.Builder_WriteByte Tryd.lays167 Tryd.Builder_Extra_167 B b bs c w h hlen hBw
def Tryd.lays166_ren : Go.Shelf.Ren := ⟨fun | 240 => 34 | 276 => 54 | 167 => 15 | 166 => 16 | n => n, fun | 0 => 0 | 3 => 3 | 4 => 4 | 5 => 5 | 9 => 9 | 20 => 20 | 37 => 48 | 70 => 47 | 72 => 50 | 75 => 52 | 80 => 59 | 164 => 83 | 127 => 67 | n => n, fun n => n⟩
theorem Tryd.lays166 : Go.Proofs.Lays.n166 Tryd.prog Tryd.lays166_ren := {
  mixed := by kernel_rfl
  f166 := Tryd.func16.trans (congrArg some (by kernel_rfl))
  f240 := Tryd.func34.trans (congrArg some (by kernel_rfl))
  f276 := Tryd.func54.trans (congrArg some (by kernel_rfl))
  t0 := Tryd.underlying0
  a0 := Tryd.isAgg0
  z0 := Tryd.sizeOf0
  v0 := Tryd.zeroValue0
  t3 := Tryd.underlying3
  a3 := Tryd.isAgg3
  z3 := Tryd.sizeOf3
  v3 := Tryd.zeroValue3
  t4 := Tryd.underlying4
  a4 := Tryd.isAgg4
  z4 := Tryd.sizeOf4
  v4 := Tryd.zeroValue4
  t9 := Tryd.underlying9
  a9 := Tryd.isAgg9
  z9 := Tryd.sizeOf9
  v9 := Tryd.zeroValue9
  t20 := Tryd.underlying20
  a20 := Tryd.isAgg20
  z20 := Tryd.sizeOf20
  v20 := Tryd.zeroValue20
  t37 := Tryd.underlying48
  a37 := Tryd.isAgg48
  z37 := Tryd.sizeOf48
  v37 := Tryd.zeroValue48
  t70 := Tryd.underlying47
  a70 := Tryd.isAgg47
  z70 := Tryd.sizeOf47
  v70 := Tryd.zeroValue47
  t72 := Tryd.underlying50
  a72 := Tryd.isAgg50
  z72 := Tryd.sizeOf50
  v72 := Tryd.zeroValue50
  t75 := Tryd.underlying52
  a75 := Tryd.isAgg52
  z75 := Tryd.sizeOf52
  v75 := Tryd.zeroValue52
  t164 := Tryd.underlying83
  a164 := Tryd.isAgg83
  z164 := Tryd.sizeOf83
  v164 := Tryd.zeroValue83 }
theorem Tryd.Builder_Extra_166 : Builder.Extra Tryd.prog Tryd.lays166_ren := {
  sizeBuilder := by kernel_rfl
  liesBuilder := by kernel_rfl
  t5 := Tryd.underlying5
  a5 := Tryd.isAgg5
  z5 := Tryd.sizeOf5
  v5 := Tryd.zeroValue5
  infoByte := by kernel_rfl
  cellsByte := by kernel_rfl
  sizeByte := by kernel_rfl
  neB5 := by decide }
open Go.RowKit in
theorem Tryd.Builder_WriteString (B b : Nat) (bs : List Value) (s : ByteArray) (w : World) (h : Lib.IsBuilder 50 5 B b bs w) (hlen : bs.length + s.size ≤ 140737488355328) (hBw : B ≤ w.heap.size) :
    Calls Tryd.prog 16 #[.pointer (some ⟨b, 0, none⟩), .string s] w fun e w' => e = .returned (.tuple #[.int .i64 s.size, .nilIface]) ∧ (Lib.BuilderAt 50 5 B b (.pointer (some ⟨b, 0, none⟩)) (bs ++ Lib.strCells s) w' ∧ Below B w w') := Any.Builder_WriteString Tryd.lays166 Tryd.Builder_Extra_166 B b bs s w h hlen hBw
end Go.Proofs
namespace Go.Proofs
open Go.Shelf
open Go.RowKit in
theorem Tryd.Builder_String_any_f (B b : Nat) (l : List UInt8) (w : World) (h : Lib.IsBuilderF 50 5 B b (Lib.byteCells l) w) (hBw : B ≤ w.heap.size) :
    Calls Tryd.prog 20 #[.pointer (some ⟨b, 0, none⟩)] w fun e w' => e = .returned (.string ⟨l.toArray⟩) ∧ (Lib.IsBuilderF 50 5 B b (Lib.byteCells l) w' ∧ Below B w w') := Any.Builder_String_any_f Tryd.lays169 Tryd.Builder_Extra_169 B b l w h hBw
end Go.Proofs
namespace Go.Proofs
open Go.Shelf
open Go.RowKit in
theorem Tryd.Builder_Len_f (B b : Nat) (bs : List Value) (w : World) (h : Lib.IsBuilderF 50 5 B b bs w) :
    Calls Tryd.prog 18 #[.pointer (some ⟨b, 0, none⟩)] w fun e w' => e = .returned (.int .i64 bs.length) ∧ w' = w := Any.Builder_Len_f Tryd.lays170 B b bs w h
open Go.RowKit in
theorem Tryd.Builder_WriteByte_k (B b : Nat) (bs : List Value) (c : Int) (w : World) (h : Lib.IsBuilderF 50 5 B b bs w) (hlen : bs.length + 1 ≤ 140737488355328) (hBw : B ≤ w.heap.size) :
    Calls Tryd.prog 15 #[.pointer (some ⟨b, 0, none⟩), .int .u8 c] w fun e w' => e = .returned .nilIface ∧ (Lib.BuilderAtF 50 5 B b (.pointer (some ⟨b, 0, none⟩)) (bs ++ [.int .u8 c]) w' ∧ Below B w w' ∧ Lib.OthersKept 5 (some b) w w') := Any.Builder_WriteByte_k Tryd.lays167 Tryd.Builder_Extra_167 B b bs c w h hlen hBw
open Go.RowKit in
theorem Tryd.Builder_WriteString_k (B b : Nat) (bs : List Value) (s : ByteArray) (w : World) (h : Lib.IsBuilderF 50 5 B b bs w) (hlen : bs.length + s.size ≤ 140737488355328) (hBw : B ≤ w.heap.size) :
    Calls Tryd.prog 16 #[.pointer (some ⟨b, 0, none⟩), .string s] w fun e w' => e = .returned (.tuple #[.int .i64 s.size, .nilIface]) ∧ (Lib.BuilderAtF 50 5 B b (.pointer (some ⟨b, 0, none⟩)) (bs ++ Lib.strCells s) w' ∧ Below B w w' ∧ Lib.OthersKept 5 (some b) w w') := Any.Builder_WriteString_k Tryd.lays166 Tryd.Builder_Extra_166 B b bs s w h hlen hBw
end Go.Proofs
namespace Go.Proofs.YtpgcklpcohcchaaDoor
open Go Go.RowKit

def digB : ByteArray := { data := #[48, 49, 50, 51, 52, 53, 54, 55, 56, 57, 97, 98, 99, 100, 101, 102] }
theorem numb_list : ∀ n : Fin 256, (({ data := #[92, 120] } : ByteArray) ++ digB.extract (n.val / 16) (n.val / 16 + 1) ++ digB.extract (n.val % 16) (n.val % 16 + 1)).data.toList = numB (UInt8.ofNat n.val) := by decide +kernel
theorem numb_text (b : UInt8) : (({ data := #[92, 120] } : ByteArray) ++ digB.extract (b.toNat / 16) (b.toNat / 16 + 1) ++ digB.extract (b.toNat % 16) (b.toNat % 16 + 1)) = ⟨(numB b).toArray⟩ := by
  have h := numb_list ⟨b.toNat, b.toNat_lt⟩
  simp only [UInt8.ofNat_toNat] at h
  apply ByteArray.ext
  apply Array.toList_inj.mp
  rw [h]

set_option maxRecDepth 100000 in
set_option maxHeartbeats 1600000 in
theorem numb_any (b : UInt8) (w : World) : Calls Tryd.prog 56 #[.int .u8 b.toNat] w fun e w' => e = .returned (.string ⟨(numB b).toArray⟩) ∧ ∃ n, w' = w.drewN n := by
  have ht := numb_text b
  unfold digB at ht
  go_enter Tryd.func56, Tryd.ntmps56
  have hb := b.toNat_lt
  have w1 : IntKind.u8.wrap ((b.toNat : Int) / 16 + 1) = (b.toNat : Int) / 16 + 1 := by
    unfold IntKind.wrap
    simp [IntKind.bits, IntKind.signed]
    omega
  have f0 : 0 ≤ (b.toNat : Int) / 16 := by omega
  have f1 : (b.toNat : Int) / 16 ≤ (b.toNat : Int) / 16 + 1 := by omega
  have f2 : (b.toNat : Int) / 16 + 1 ≤ 16 := by omega
  go_wp2_with fail
  go_quiet (fail)
  go_wp2
  go_ret
  exact ⟨rfl, _, rfl⟩
end Go.Proofs.YtpgcklpcohcchaaDoor
namespace Go.Proofs.YtpgcklpcohcchaaDoor
open Go Go.RowKit

theorem escB_app (sl nu : List UInt8) (a c : List UInt8) : escB sl nu (a ++ c) = escB sl nu a ++ escB sl nu c := by
  induction a with
  | nil => rfl
  | cons x a ih => simp [escB, ih]
theorem bcells_app (a c : List UInt8) : Lib.byteCells (a ++ c) = Lib.byteCells a ++ Lib.byteCells c := by simp [Lib.byteCells]

def EscRes (w : World) (o : List UInt8) (e : Ending) (w' : World) : Prop := e = .returned (.string ⟨o.toArray⟩) ∧ Below w.heap.size w w'

theorem escB_next (sl nu : List UInt8) (t : ByteArray) (k : Nat) (h : k < t.size) : escB sl nu (t.data.toList.take (k + 1)) = escB sl nu (t.data.toList.take k) ++ escB1 sl nu t[k] := by
  have hl : k < t.data.toList.length := by rw [Array.length_toList]; exact h
  rw [List.take_add_one, escB_app, List.getElem?_eq_getElem hl]
  congr 1
  show escB1 sl nu _ ++ [] = _
  rw [List.append_nil]
  congr 1
theorem escB_short (sl nu : List UInt8) (t : ByteArray) (k : Nat) (h : t.size ≤ 65536) : (Lib.byteCells (escB sl nu (t.data.toList.take k))).length ≤ 262144 := by
  rw [Lib.byteCells_length]
  have h1 := (escB_len sl nu (t.data.toList.take k)).2
  have h2 : (t.data.toList.take k).length ≤ t.data.toList.length := List.length_take_le' _ _
  have h3 : t.data.toList.length = t.size := Array.length_toList
  omega
theorem index_mem (l : List UInt8) (c : UInt8) : (0 ≤ Lib.indexByte l c) ↔ c ∈ l := by
  induction l with
  | nil => simp [Lib.indexByte]
  | cons b l ih =>
    have hg := Lib.indexByte_ge l c
    unfold Lib.indexByte
    by_cases h : b = c
    · simp [h]
    · have h' : (b == c) = false := by simpa using h
      rw [h']
      have h2 : ¬ c = b := fun e => h e.symm
      by_cases h3 : Lib.indexByte l c = -1
      · rw [h3] at ih ⊢
        simp [h2] at ih ⊢
        exact ih
      · have h4 : (Lib.indexByte l c == -1) = false := by simpa using h3
        rw [h4]
        have : c ∈ l := ih.1 (by omega)
        simp [this]
        omega
theorem index_any (s : ByteArray) (c : UInt8) (w : World) : Calls Tryd.prog 55 #[.string s, .int .u8 c.toNat] w fun e w' => e = .returned (.int .i64 (Lib.indexByte s.data.toList c)) ∧ w' = w := by
  have := Tryd.strings_IndexByte s c.toNat w
  rw [show ((c.toNat : Int)).toNat.toUInt8 = c by simp] at this
  exact this

theorem isB_drewN {T e : TypeId} {B b : Nat} {bs : List Value} {w : World} (h : Lib.IsBuilder T e B b bs w) (n : Nat) : Lib.IsBuilder T e B b bs (w.drewN n) := by
  induction n with
  | zero => exact h
  | succ n ih => exact ih
theorem esc_write {t : ByteArray} {sl nu : List UInt8} {k : Nat} {B : Nat} {w' : World} {x : List Value} {o : List UInt8} (h : k < t.size) (hb : Lib.BuilderAt 50 5 B B (.pointer (some ⟨B, 0, none⟩)) (Lib.byteCells (escB sl nu (t.data.toList.take k)) ++ x) w') (he : escB1 sl nu t[k] = o) (hx : x = Lib.byteCells o) :
    Lib.IsBuilder 50 5 B B (Lib.byteCells (escB sl nu (t.data.toList.take (k + 1)))) w' := by
  rw [escB_next sl nu t k h, bcells_app, he, ← hx]
  exact .inr hb

set_option maxRecDepth 100000 in
set_option maxHeartbeats 1600000 in
theorem escaped_any (t sl nu : ByteArray) (w : World) (ht : t.size ≤ 65536) : Calls Tryd.prog 35 #[.string t, .string sl, .string nu] w (EscRes w (escB sl.data.toList nu.data.toList t.data.toList)) := by
  have HT := Lib.hid ht
  go_enter Tryd.func35, Tryd.ntmps35
  go_wp2_with fail
  go_loopg [12] t.size (fun gh v wr => ∃ k : Nat, v = .int .i64 k ∧ k + gh = t.size ∧ Lib.IsBuilder 50 5 w.heap.size w.heap.size (Lib.byteCells (escB sl.data.toList nu.data.toList (t.data.toList.take k))) wr ∧ Below w.heap.size w wr)
  case atStart =>
    refine ⟨0, rfl, by omega, .inl ⟨Nat.le_refl _, _, Go.heap_alloc_new w _, World.ownsRow_nil _ _ _ _, by simp [Value.ownBlock]⟩, (Below.refl _ _).alloc (Nat.le_refl _) _⟩
  case round =>
    obtain ⟨k, rfl, hk, hI, hB⟩ := hrel
    have hBw : w.heap.size ≤ wr.heap.size := hB.size
    have HI := Lib.hid hI
    have HB := Lib.hid hB
    have HS := Lib.hid (escB_short sl.data.toList nu.data.toList t k ht)
    clear hI hB
    by_cases hlt : k < t.size
    · obtain ⟨g', rfl⟩ : ∃ g', gk = g' + 1 := ⟨gk - 1, by omega⟩
      have HE := Lib.hid (fun B w' x o => esc_write (t := t) (sl := sl.data.toList) (nu := nu.data.toList) (k := k) (B := B) (w' := w') (x := x) (o := o) hlt)
      have HN := Lib.hid (fun n => numb_any t[k] (wr.drewN n))
      have HX := Lib.hid (fun s n => index_any s t[k] (wr.drewN n))
      have hun : ∀ x, escB1 sl.data.toList nu.data.toList x = if x = 10 then [92, 110] else if x = 9 then [92, 116] else if x = 92 ∨ x ∈ sl.data.toList then [92, x] else if x.toNat < 32 ∨ 126 < x.toNat ∨ x ∈ nu.data.toList then numB x else [x] := fun x => rfl
      have HU := Lib.hid (hun t[k])
      have HL := Lib.hid (show (⟨(numB t[k]).toArray⟩ : ByteArray).size = 4 from rfl)
      clear hun
      by_cases h10 : t[k] = 10
      · have q10 : ((t[k].toNat : Int) == 10) = true := by rw [h10]; rfl
        go_wp2_with fail
        refine (Tryd.Builder_WriteString _ _ _ _ _ HI.out (by have := HS.out; simp [ByteArray.size]; omega) hBw).mono ?_
        rintro e w1 ⟨rfl, hb1, hB1⟩
        have H1 := Lib.hid (HE.out _ _ _ [92, 110] hb1 (by rw [h10]; rfl) rfl)
        have HB1 := Lib.hid (HB.out.trans hB1)
        clear hb1 hB1
        go_simp
        go_wp2_with fail
        go_roundg g'
        case rel => exact ⟨k + 1, by simp, by omega, H1.out, HB1.out⟩
        case measure => omega
      · have q10 : ((t[k].toNat : Int) == 10) = false := u8eq _ 10 (by decide) h10
        by_cases h9 : t[k] = 9
        · have q9 : ((t[k].toNat : Int) == 9) = true := by rw [h9]; rfl
          go_wp2_with fail
          refine (Tryd.Builder_WriteString _ _ _ _ _ HI.out (by have := HS.out; simp [ByteArray.size]; omega) hBw).mono ?_
          rintro e w1 ⟨rfl, hb1, hB1⟩
          have H1 := Lib.hid (HE.out _ _ _ [92, 116] hb1 (by rw [h9]; rfl) rfl)
          have HB1 := Lib.hid (HB.out.trans hB1)
          clear hb1 hB1
          go_simp
          go_wp2_with fail
          go_roundg g'
          case rel => exact ⟨k + 1, by simp, by omega, H1.out, HB1.out⟩
          case measure => omega
        · have q9 : ((t[k].toNat : Int) == 9) = false := u8eq _ 9 (by decide) h9
          by_cases h92 : t[k] = 92
          · have q92 : ((t[k].toNat : Int) == 92) = true := by rw [h92]; rfl
            go_wp2_with fail
            refine (Tryd.Builder_WriteByte _ _ _ _ _ HI.out (by have := HS.out; omega) hBw).mono ?_
            rintro e w1 ⟨rfl, hb1, hB1⟩
            have H0 := Lib.hid hb1
            have HB0 := Lib.hid (HB.out.trans hB1)
            have hBw1 : w.heap.size ≤ w1.heap.size := HB0.out.size
            clear hb1 hB1
            go_simp
            go_wp2_with fail
            refine (Tryd.Builder_WriteByte _ _ _ _ _ (.inr H0.out) (by have := HS.out; simp; omega) hBw1).mono ?_
            rintro e w2 ⟨rfl, hb1, hB1⟩
            have H1 := Lib.hid (HE.out _ _ _ [92, t[k]] (by rw [List.append_assoc] at hb1; exact hb1) (by rw [HU.out, if_neg h10, if_neg h9, if_pos (.inl h92)]) (by simp [Lib.byteCells, h92]))
            have HB1 := Lib.hid (HB0.out.trans hB1)
            clear hb1 hB1
            go_simp
            go_wp2_with fail
            go_roundg g'
            case rel => exact ⟨k + 1, by simp, by omega, H1.out, HB1.out⟩
            case measure => omega
          · have q92 : ((t[k].toNat : Int) == 92) = false := u8eq _ 92 (by decide) h92
            obtain ⟨ix, hix⟩ : ∃ ix, Lib.indexByte sl.data.toList t[k] = ix := ⟨_, rfl⟩
            have HXs := Lib.hid (fun n => hix ▸ HX.out sl n)
            have hm := index_mem sl.data.toList t[k]
            rw [hix] at hm
            by_cases hsl : 0 ≤ ix
            · have qs : decide ((0 : Int) ≤ ix) = true := by simpa using hsl
              have HM := Lib.hid (hm.1 hsl)
              clear hix hm
              go_wp2_with fail
              refine (HXs.out 0).mono ?_
              rintro e w1 ⟨rfl, rfl⟩
              go_simp
              go_wp2_with fail
              refine (Tryd.Builder_WriteByte _ _ _ _ _ HI.out (by have := HS.out; omega) hBw).mono ?_
              rintro e w1 ⟨rfl, hb1, hB1⟩
              have H0 := Lib.hid hb1
              have HB0 := Lib.hid (HB.out.trans hB1)
              have hBw1 : w.heap.size ≤ w1.heap.size := HB0.out.size
              clear hb1 hB1
              go_simp
              go_wp2_with fail
              refine (Tryd.Builder_WriteByte _ _ _ _ _ (.inr H0.out) (by have := HS.out; simp; omega) hBw1).mono ?_
              rintro e w2 ⟨rfl, hb1, hB1⟩
              have H1 := Lib.hid (HE.out _ _ _ [92, t[k]] (by rw [List.append_assoc] at hb1; exact hb1) (by rw [HU.out, if_neg h10, if_neg h9, if_pos (.inr HM.out)]) (by simp [Lib.byteCells]))
              have HB1 := Lib.hid (HB0.out.trans hB1)
              clear hb1 hB1
              go_simp
              go_wp2_with fail
              go_roundg g'
              case rel => exact ⟨k + 1, by simp, by omega, H1.out, HB1.out⟩
              case measure => omega
            · have qs : decide ((0 : Int) ≤ ix) = false := by simpa using hsl
              have HM := Lib.hid (fun e => hsl (hm.2 e))
              clear hix hm
              by_cases h32 : t[k].toNat < 32
              · have q32 : decide ((t[k].toNat : Int) < 32) = true := decide_eq_true (by omega)
                have q32' : (t[k].toNat : Int) < 32 := by omega
                go_wp2_with fail
                refine (HXs.out 0).mono ?_
                rintro e w1 ⟨rfl, rfl⟩
                go_simp
                go_wp2_with fail
                refine (HN.out _).mono ?_
                rintro e w1 ⟨rfl, n1, rfl⟩
                go_simp
                go_wp2_with fail
                refine (Tryd.Builder_WriteString _ _ _ _ _ (isB_drewN HI.out _) (by have := HS.out; have := HL.out; omega) (by simpa using hBw)).mono ?_
                rintro e w1 ⟨rfl, hb1, hB1⟩
                have H1 := Lib.hid (HE.out _ _ _ (numB t[k]) hb1 (by rw [HU.out, if_neg h10, if_neg h9, if_neg (fun e => e.elim h92 HM.out), if_pos (.inl h32)]) (by simp [Lib.strCells, Lib.byteCells]))
                have HB1 := Lib.hid ((drewN_below HB.out _).trans hB1)
                clear hb1 hB1
                go_simp
                go_wp2_with fail
                go_roundg g'
                case rel => exact ⟨k + 1, by simp, by omega, H1.out, HB1.out⟩
                case measure => omega
              · have q32 : decide ((t[k].toNat : Int) < 32) = false := decide_eq_false (by omega)
                have q32' : ¬ (t[k].toNat : Int) < 32 := by omega
                by_cases h126 : 126 < t[k].toNat
                · have q126 : decide ((126 : Int) < (t[k].toNat : Int)) = true := decide_eq_true (by omega)
                  have q126' : (126 : Int) < (t[k].toNat : Int) := by omega
                  go_wp2_with fail
                  refine (HXs.out 0).mono ?_
                  rintro e w1 ⟨rfl, rfl⟩
                  go_simp
                  go_wp2_with fail
                  refine (HN.out _).mono ?_
                  rintro e w1 ⟨rfl, n1, rfl⟩
                  go_simp
                  go_wp2_with fail
                  refine (Tryd.Builder_WriteString _ _ _ _ _ (isB_drewN HI.out _) (by have := HS.out; have := HL.out; omega) (by simpa using hBw)).mono ?_
                  rintro e w1 ⟨rfl, hb1, hB1⟩
                  have H1 := Lib.hid (HE.out _ _ _ (numB t[k]) hb1 (by rw [HU.out, if_neg h10, if_neg h9, if_neg (fun e => e.elim h92 HM.out), if_pos (.inr (.inl h126))]) (by simp [Lib.strCells, Lib.byteCells]))
                  have HB1 := Lib.hid ((drewN_below HB.out _).trans hB1)
                  clear hb1 hB1
                  go_simp
                  go_wp2_with fail
                  go_roundg g'
                  case rel => exact ⟨k + 1, by simp, by omega, H1.out, HB1.out⟩
                  case measure => omega
                · have q126 : decide ((126 : Int) < (t[k].toNat : Int)) = false := decide_eq_false (by omega)
                  have q126' : ¬ (126 : Int) < (t[k].toNat : Int) := by omega
                  obtain ⟨iy, hiy⟩ : ∃ iy, Lib.indexByte nu.data.toList t[k] = iy := ⟨_, rfl⟩
                  have HYs := Lib.hid (fun n => hiy ▸ HX.out nu n)
                  have hm := index_mem nu.data.toList t[k]
                  rw [hiy] at hm
                  by_cases hnu : 0 ≤ iy
                  · have qn : decide ((0 : Int) ≤ iy) = true := by simpa using hnu
                    have HM2 := Lib.hid (hm.1 hnu)
                    clear hiy hm
                    go_wp2_with fail
                    refine (HXs.out 0).mono ?_
                    rintro e w1 ⟨rfl, rfl⟩
                    go_simp
                    go_wp2_with fail
                    refine (HYs.out 0).mono ?_
                    rintro e w1 ⟨rfl, rfl⟩
                    go_simp
                    go_wp2_with fail
                    refine (HN.out _).mono ?_
                    rintro e w1 ⟨rfl, n1, rfl⟩
                    go_simp
                    go_wp2_with fail
                    refine (Tryd.Builder_WriteString _ _ _ _ _ (isB_drewN HI.out _) (by have := HS.out; have := HL.out; omega) (by simpa using hBw)).mono ?_
                    rintro e w1 ⟨rfl, hb1, hB1⟩
                    have H1 := Lib.hid (HE.out _ _ _ (numB t[k]) hb1 (by rw [HU.out, if_neg h10, if_neg h9, if_neg (fun e => e.elim h92 HM.out), if_pos (.inr (.inr HM2.out))]) (by simp [Lib.strCells, Lib.byteCells]))
                    have HB1 := Lib.hid ((drewN_below HB.out _).trans hB1)
                    clear hb1 hB1
                    go_simp
                    go_wp2_with fail
                    go_roundg g'
                    case rel => exact ⟨k + 1, by simp, by omega, H1.out, HB1.out⟩
                    case measure => omega
                  · have qn : decide ((0 : Int) ≤ iy) = false := by simpa using hnu
                    have HM2 := Lib.hid (fun e => hnu (hm.2 e))
                    clear hiy hm
                    go_wp2_with fail
                    refine (HXs.out 0).mono ?_
                    rintro e w1 ⟨rfl, rfl⟩
                    go_simp
                    go_wp2_with fail
                    refine (HYs.out 0).mono ?_
                    rintro e w1 ⟨rfl, rfl⟩
                    go_simp
                    go_wp2_with fail
                    refine (Tryd.Builder_WriteByte _ _ _ _ _ HI.out (by have := HS.out; omega) hBw).mono ?_
                    rintro e w1 ⟨rfl, hb1, hB1⟩
                    have H1 := Lib.hid (HE.out _ _ _ [t[k]] hb1 (by rw [HU.out, if_neg h10, if_neg h9, if_neg (fun e => e.elim h92 HM.out), if_neg (fun e => e.elim h32 (fun e => e.elim h126 HM2.out))]) (by simp [Lib.byteCells]))
                    have HB1 := Lib.hid (HB.out.trans hB1)
                    clear hb1 hB1
                    go_simp
                    go_wp2_with fail
                    go_roundg g'
                    case rel => exact ⟨k + 1, by simp, by omega, H1.out, HB1.out⟩
                    case measure => omega
    · obtain rfl : gk = 0 := by omega
      obtain rfl : k = t.size := by omega
      have HA := Lib.hid (show t.data.toList.take t.size = t.data.toList from List.take_of_length_le (by rw [Array.length_toList]; exact Nat.le_refl _))
      rw [HA.out] at HI
      go_wp2_with fail
      refine (Tryd.Builder_String_any _ _ _ _ HI.out hBw).mono ?_
      rintro e w1 ⟨rfl, hB1⟩
      have HB1 := Lib.hid (HB.out.trans hB1)
      clear hB1
      go_simp
      go_wp2_with fail
      go_ret
      exact ⟨rfl, HB1.out⟩
end Go.Proofs.YtpgcklpcohcchaaDoor
namespace Go.Proofs.YtpgcklpcohcchaaDoor
open Go Go.RowKit

theorem bytes_cons {t : ByteArray} (h : 0 < t.size) : t.data.toList = t[0] :: (t.extract 1 t.size).data.toList := by
  rw [Lib.extract_data]
  have hl : t.data.toList.length = t.size := Array.length_toList
  apply List.ext_getElem?
  intro i
  cases i with
  | zero =>
    rw [List.getElem?_eq_getElem (by omega)]
    rfl
  | succ i =>
    rw [List.getElem?_cons_succ, List.getElem?_take, List.getElem?_drop, Nat.add_comm 1 i]
    split
    · rfl
    · exact List.getElem?_eq_none (by omega)
theorem bytes_ne {t : ByteArray} (h : 0 < t.size) : t.toList.isEmpty = false := by
  rw [ByteArray.toList_eq]
  have := bytes_cons h
  rw [this]
  rfl
theorem bytes_nil {t : ByteArray} (h : ¬ 0 < t.size) : t = ⟨#[]⟩ := by
  apply ByteArray.ext
  exact Array.eq_empty_of_size_eq_zero (by have : t.data.size = t.size := rfl; omega)

theorem cat_bytes (a b : List UInt8) : (⟨a.toArray⟩ : ByteArray) ++ ⟨b.toArray⟩ = ⟨(a ++ b).toArray⟩ := by
  apply ByteArray.ext
  rw [ByteArray.data_append]
  simp
theorem below_drewN {w w' : World} {n : Nat} (h : Below (w.drewN n).heap.size (w.drewN n) w') : Below w.heap.size w w' := by
  have hs : (w.drewN n).heap.size = w.heap.size := by simp
  rw [hs] at h
  exact (drewN_below (Below.refl _ w) n).trans h

set_option maxRecDepth 100000 in
set_option maxHeartbeats 1600000 in
theorem part_num0 (t : ByteArray) (w : World) (ht : t.size ≤ 65536) (htb : Tab w) (h0 : 0 < t.size) (hw : inW t[0] = true) : Calls Tryd.prog 36 #[.int .i64 0, .string t] w (EscRes w (partB 0 t.data.toList)) := by
  have HP := Lib.hid (show partB 0 t.data.toList = numB t[0] ++ escB [34, 36] [] (t.extract 1 t.size).data.toList by rw [bytes_cons h0, partB_cons, if_pos ⟨by decide, hw⟩])
  have CE := Lib.hid (fun (_ : Unit) w => escaped_any (t.extract 1 t.size) ⟨#[34, 36]⟩ ⟨#[]⟩ w (by rw [ByteArray.size_extract]; omega))
  have CN := Lib.hid (fun w => numb_any t[0] w)
  have CW := Lib.hid (fun (_ : Unit) => inWord_any t[0] w htb)
  have q3 := (escB_len [34, 36] [] (t.extract 1 t.size).data.toList).2
  have q4 : (t.extract 1 t.size).data.toList.length = t.size - 1 := ext_list (Nat.le_refl _)
  have q5 : (numB t[0]).length = 4 := rfl
  obtain ⟨o, ho⟩ : ∃ o, escB [34, 36] [] (t.extract 1 t.size).data.toList = o := ⟨_, rfl⟩
  obtain ⟨nb, hnb⟩ : ∃ nb, numB t[0] = nb := ⟨_, rfl⟩
  have CE := Lib.hid (show ∀ w, Calls Tryd.prog 35 #[.string (t.extract 1 t.size), .string ⟨#[34, 36]⟩, .string ⟨#[]⟩] w (EscRes w o) from fun w => ho ▸ CE.out () w)
  rw [ho] at HP q3
  rw [hnb] at HP CN q5
  have q2 : ¬ 9223372036854775807 < nb.length + o.length := by omega
  clear ho hnb q3 q4 q5
  have q0 : t.toList.isEmpty = false := bytes_ne h0
  have q0' : ¬ t.toList = [] := fun e => by rw [e] at q0; cases q0
  have q1 : (1 : Int) ≤ (t.size : Int) := by omega
  clear ht htb
  go_enter Tryd.func36, Tryd.ntmps36
  go_wp2_with fail
  refine (CW.out ()).mono ?_
  rintro e w1 ⟨rfl, rfl⟩
  go_simp
  go_wp2_with fail
  refine anyC_region (c := 8) (S := fun _ : World => True) (by kernel_rfl) ?_
  refine anyC_take0 (i := 0) (v := ?_) (some 20) (by rfl) rfl (by kernel_rfl) (by kernel_rfl) (by kernel_rfl) (fun _ _ _ h => h) (Or.inl ⟨by rfl, ?_⟩) (by decide) (Or.inr trivial) ?_
  rotate_left
  · (intro w; go_simp; try with_reducible rfl)
  (try simp only [Act.put, List.setIfInBounds_toArray, List.set_cons_zero, List.set_cons_succ])
  refine anyC_take0 (i := 1) (v := ?_) (some 21) (by rfl) rfl (by kernel_rfl) (by kernel_rfl) (by kernel_rfl) (fun _ _ _ h => h) (Or.inl ⟨by rfl, ?_⟩) (by decide) (Or.inr trivial) ?_
  rotate_left
  · (intro w; go_simp; try with_reducible rfl)
  (try simp only [Act.put, List.setIfInBounds_toArray, List.set_cons_zero, List.set_cons_succ])
  refine anyC_take0 (i := 3) (v := ?_) (some 23) (by rfl) rfl (by kernel_rfl) (by kernel_rfl) (by kernel_rfl) (fun _ _ _ h => h) (Or.inl ⟨by rfl, ?_⟩) (by decide) (Or.inr trivial) ?_
  rotate_left
  · (intro w; go_simp; try with_reducible rfl)
  (try simp only [Act.put, List.setIfInBounds_toArray, List.set_cons_zero, List.set_cons_succ])
  refine anyC_take0 (i := 4) (v := ?_) (some 24) (by rfl) rfl (by kernel_rfl) (by kernel_rfl) (by kernel_rfl) (fun _ _ _ h => h) (Or.inl ⟨by rfl, ?_⟩) (by decide) (Or.inr trivial) ?_
  rotate_left
  · (intro w; go_simp; try with_reducible rfl)
  (try simp only [Act.put, List.setIfInBounds_toArray, List.set_cons_zero, List.set_cons_succ])
  refine anyC_one (i := 2) (by kernel_rfl) rfl (by rfl) (fun K hK => ?_)
  go_simp
  refine (CN.out _).mono ?_
  rintro e w1 ⟨rfl, n1, rfl⟩
  refine hK.out _ _ (.inr (.inr trivial)) ?_
  clear hK K
  (try simp only [Act.put, List.setIfInBounds_toArray, List.set_cons_zero, List.set_cons_succ])
  refine anyC_one (i := 5) (by kernel_rfl) rfl (by rfl) (fun K hK => ?_)
  go_simp
  refine (CE.out _).mono ?_
  rintro e w2 ⟨rfl, hb2⟩
  have HB1 := Lib.hid (below_drewN hb2)
  clear hb2
  refine hK.out _ _ (.inr (.inr trivial)) ?_
  clear hK K
  (try simp only [Act.put, List.setIfInBounds_toArray, List.set_cons_zero, List.set_cons_succ])
  refine anyC_take0 (i := 6) (v := ?_) (some 26) (by rfl) rfl (by kernel_rfl) (by kernel_rfl) (by kernel_rfl) (fun _ _ _ h => h) (Or.inl ⟨by rfl, ?_⟩) (by decide) (Or.inr trivial) ?_
  rotate_left
  · (intro w; go_simp; try with_reducible rfl)
  (try simp only [Act.put, List.setIfInBounds_toArray, List.set_cons_zero, List.set_cons_succ])
  refine anyC_one (i := 7) (by kernel_rfl) rfl (by rfl) (fun K hK => ?_)
  go_simp
  refine hK.out _ _ (.inr (.inr trivial)) ?_
  clear hK K
  (try simp only [Act.put, List.setIfInBounds_toArray, List.set_cons_zero, List.set_cons_succ])
  apply anyC_end
  rotate_left
  · kernel_rfl
  go_wp2_with fail
  go_ret
  rw [HP.out]
  exact ⟨congrArg (fun x => Ending.returned (Value.string x)) (cat_bytes nb o), HB1.out⟩

set_option maxRecDepth 100000 in
set_option maxHeartbeats 1600000 in
theorem part_num1 (t : ByteArray) (w : World) (ht : t.size ≤ 65536) (htb : Tab w) (h0 : 0 < t.size) (hw : inW t[0] = true) : Calls Tryd.prog 36 #[.int .i64 1, .string t] w (EscRes w (partB 1 t.data.toList)) := by
  have HP := Lib.hid (show partB 1 t.data.toList = numB t[0] ++ escB [34, 36] [] (t.extract 1 t.size).data.toList by rw [bytes_cons h0, partB_cons, if_pos ⟨by decide, hw⟩])
  have CE := Lib.hid (fun (_ : Unit) w => escaped_any (t.extract 1 t.size) ⟨#[34, 36]⟩ ⟨#[]⟩ w (by rw [ByteArray.size_extract]; omega))
  have CN := Lib.hid (fun w => numb_any t[0] w)
  have CW := Lib.hid (fun (_ : Unit) => inWord_any t[0] w htb)
  have q3 := (escB_len [34, 36] [] (t.extract 1 t.size).data.toList).2
  have q4 : (t.extract 1 t.size).data.toList.length = t.size - 1 := ext_list (Nat.le_refl _)
  have q5 : (numB t[0]).length = 4 := rfl
  obtain ⟨o, ho⟩ : ∃ o, escB [34, 36] [] (t.extract 1 t.size).data.toList = o := ⟨_, rfl⟩
  obtain ⟨nb, hnb⟩ : ∃ nb, numB t[0] = nb := ⟨_, rfl⟩
  have CE := Lib.hid (show ∀ w, Calls Tryd.prog 35 #[.string (t.extract 1 t.size), .string ⟨#[34, 36]⟩, .string ⟨#[]⟩] w (EscRes w o) from fun w => ho ▸ CE.out () w)
  rw [ho] at HP q3
  rw [hnb] at HP CN q5
  have q2 : ¬ 9223372036854775807 < nb.length + o.length := by omega
  clear ho hnb q3 q4 q5
  have q0 : t.toList.isEmpty = false := bytes_ne h0
  have q0' : ¬ t.toList = [] := fun e => by rw [e] at q0; cases q0
  have q1 : (1 : Int) ≤ (t.size : Int) := by omega
  clear ht htb
  go_enter Tryd.func36, Tryd.ntmps36
  go_wp2_with fail
  refine (CW.out ()).mono ?_
  rintro e w1 ⟨rfl, rfl⟩
  go_simp
  go_wp2_with fail
  refine anyC_region (c := 8) (S := fun _ : World => True) (by kernel_rfl) ?_
  refine anyC_take0 (i := 0) (v := ?_) (some 20) (by rfl) rfl (by kernel_rfl) (by kernel_rfl) (by kernel_rfl) (fun _ _ _ h => h) (Or.inl ⟨by rfl, ?_⟩) (by decide) (Or.inr trivial) ?_
  rotate_left
  · (intro w; go_simp; try with_reducible rfl)
  (try simp only [Act.put, List.setIfInBounds_toArray, List.set_cons_zero, List.set_cons_succ])
  refine anyC_take0 (i := 1) (v := ?_) (some 21) (by rfl) rfl (by kernel_rfl) (by kernel_rfl) (by kernel_rfl) (fun _ _ _ h => h) (Or.inl ⟨by rfl, ?_⟩) (by decide) (Or.inr trivial) ?_
  rotate_left
  · (intro w; go_simp; try with_reducible rfl)
  (try simp only [Act.put, List.setIfInBounds_toArray, List.set_cons_zero, List.set_cons_succ])
  refine anyC_take0 (i := 3) (v := ?_) (some 23) (by rfl) rfl (by kernel_rfl) (by kernel_rfl) (by kernel_rfl) (fun _ _ _ h => h) (Or.inl ⟨by rfl, ?_⟩) (by decide) (Or.inr trivial) ?_
  rotate_left
  · (intro w; go_simp; try with_reducible rfl)
  (try simp only [Act.put, List.setIfInBounds_toArray, List.set_cons_zero, List.set_cons_succ])
  refine anyC_take0 (i := 4) (v := ?_) (some 24) (by rfl) rfl (by kernel_rfl) (by kernel_rfl) (by kernel_rfl) (fun _ _ _ h => h) (Or.inl ⟨by rfl, ?_⟩) (by decide) (Or.inr trivial) ?_
  rotate_left
  · (intro w; go_simp; try with_reducible rfl)
  (try simp only [Act.put, List.setIfInBounds_toArray, List.set_cons_zero, List.set_cons_succ])
  refine anyC_one (i := 2) (by kernel_rfl) rfl (by rfl) (fun K hK => ?_)
  go_simp
  refine (CN.out _).mono ?_
  rintro e w1 ⟨rfl, n1, rfl⟩
  refine hK.out _ _ (.inr (.inr trivial)) ?_
  clear hK K
  (try simp only [Act.put, List.setIfInBounds_toArray, List.set_cons_zero, List.set_cons_succ])
  refine anyC_one (i := 5) (by kernel_rfl) rfl (by rfl) (fun K hK => ?_)
  go_simp
  refine (CE.out _).mono ?_
  rintro e w2 ⟨rfl, hb2⟩
  have HB1 := Lib.hid (below_drewN hb2)
  clear hb2
  refine hK.out _ _ (.inr (.inr trivial)) ?_
  clear hK K
  (try simp only [Act.put, List.setIfInBounds_toArray, List.set_cons_zero, List.set_cons_succ])
  refine anyC_take0 (i := 6) (v := ?_) (some 26) (by rfl) rfl (by kernel_rfl) (by kernel_rfl) (by kernel_rfl) (fun _ _ _ h => h) (Or.inl ⟨by rfl, ?_⟩) (by decide) (Or.inr trivial) ?_
  rotate_left
  · (intro w; go_simp; try with_reducible rfl)
  (try simp only [Act.put, List.setIfInBounds_toArray, List.set_cons_zero, List.set_cons_succ])
  refine anyC_one (i := 7) (by kernel_rfl) rfl (by rfl) (fun K hK => ?_)
  go_simp
  refine hK.out _ _ (.inr (.inr trivial)) ?_
  clear hK K
  (try simp only [Act.put, List.setIfInBounds_toArray, List.set_cons_zero, List.set_cons_succ])
  apply anyC_end
  rotate_left
  · kernel_rfl
  go_wp2_with fail
  go_ret
  rw [HP.out]
  exact ⟨congrArg (fun x => Ending.returned (Value.string x)) (cat_bytes nb o), HB1.out⟩

theorem partB_plain {u : Nat} {t : ByteArray} (h : ¬ ((u = 0 ∨ u = 1) ∧ ∃ h : 0 < t.size, inW t[0] = true)) : partB u t.data.toList = escB [34, 36] [] t.data.toList := by
  by_cases h0 : 0 < t.size
  · rw [bytes_cons h0, partB_cons, if_neg (fun e => h ⟨e.1, h0, e.2⟩)]
  · rw [bytes_nil h0]
    rfl
set_option maxRecDepth 100000 in
set_option maxHeartbeats 1600000 in
theorem part_any (u : Nat) (t : ByteArray) (w : World) (ht : t.size ≤ 65536) (htb : Tab w) : Calls Tryd.prog 36 #[.int .i64 u, .string t] w (EscRes w (partB u t.data.toList)) := by
  have CE := Lib.hid (fun w => escaped_any t ⟨#[34, 36]⟩ ⟨#[]⟩ w ht)
  by_cases hu : u = 0 ∨ u = 1
  · by_cases h0 : 0 < t.size
    · by_cases hw : inW t[0] = true
      · rcases hu with rfl | rfl
        · exact part_num0 t w ht htb h0 hw
        · exact part_num1 t w ht htb h0 hw
      · have HP := Lib.hid (partB_plain (u := u) (t := t) (fun e => e.2.elim fun _ e => hw e))
        have hwf : inW t[0] = false := by simpa using hw
        have CW := Lib.hid (fun (_ : Unit) => inWord_any t[0] w htb)
        rw [hwf] at CW
        have q0 : t.toList.isEmpty = false := bytes_ne h0
        have q0' : ¬ t.toList = [] := fun e => by rw [e] at q0; cases q0
        clear hw hwf htb
        rcases hu with rfl | rfl
        · go_enter Tryd.func36, Tryd.ntmps36
          go_wp2_with fail
          refine (CW.out ()).mono ?_
          rintro e w1 ⟨rfl, rfl⟩
          go_simp
          go_wp2_with fail
          refine (CE.out _).mono ?_
          rintro e w2 ⟨rfl, hb2⟩
          have HB1 := Lib.hid hb2
          clear hb2
          go_simp
          go_wp2_with fail
          go_ret
          rw [HP.out]
          exact ⟨rfl, HB1.out⟩
        · go_enter Tryd.func36, Tryd.ntmps36
          go_wp2_with fail
          refine (CW.out ()).mono ?_
          rintro e w1 ⟨rfl, rfl⟩
          go_simp
          go_wp2_with fail
          refine (CE.out _).mono ?_
          rintro e w2 ⟨rfl, hb2⟩
          have HB1 := Lib.hid hb2
          clear hb2
          go_simp
          go_wp2_with fail
          go_ret
          rw [HP.out]
          exact ⟨rfl, HB1.out⟩
    · obtain rfl := bytes_nil h0
      have HP := Lib.hid (partB_plain (u := u) (t := ⟨#[]⟩) (fun e => e.2.elim fun h _ => absurd h h0))
      clear htb
      rcases hu with rfl | rfl
      · go_enter Tryd.func36, Tryd.ntmps36
        go_wp2_with fail
        refine (CE.out _).mono ?_
        rintro e w2 ⟨rfl, hb2⟩
        have HB1 := Lib.hid hb2
        clear hb2
        go_simp
        go_wp2_with fail
        go_ret
        rw [HP.out]
        exact ⟨rfl, HB1.out⟩
      · go_enter Tryd.func36, Tryd.ntmps36
        go_wp2_with fail
        refine (CE.out _).mono ?_
        rintro e w2 ⟨rfl, hb2⟩
        have HB1 := Lib.hid hb2
        clear hb2
        go_simp
        go_wp2_with fail
        go_ret
        rw [HP.out]
        exact ⟨rfl, HB1.out⟩
  · have HP := Lib.hid (partB_plain (u := u) (t := t) (fun e => hu e.1))
    have z0 : ¬ u = 0 := fun e => hu (.inl e)
    have z1 : ¬ u = 1 := fun e => hu (.inr e)
    have q0 : ((u : Int) == 0) = false := beq_false_of_ne (by omega)
    have q1 : ((u : Int) == 1) = false := beq_false_of_ne (by omega)
    clear htb hu
    go_enter Tryd.func36, Tryd.ntmps36
    go_wp2_with fail
    refine (CE.out _).mono ?_
    rintro e w2 ⟨rfl, hb2⟩
    have HB1 := Lib.hid hb2
    clear hb2
    go_simp
    go_wp2_with fail
    go_ret
    rw [HP.out]
    exact ⟨rfl, HB1.out⟩
end Go.Proofs.YtpgcklpcohcchaaDoor
namespace Go.Proofs.YtpgcklpcohcchaaDoor
open Go Go.RowKit

def Tok.val (t : Tok) : Value := .agg #[.int .i64 t.kind, .string t.text, .int .i64 t.pos, .int .i64 t.line, .int .i64 t.col]
theorem cat_front (c : UInt8) (x : ByteArray) : (⟨#[c]⟩ : ByteArray) ++ x = ⟨(c :: x.data.toList).toArray⟩ := by
  apply ByteArray.ext
  rw [ByteArray.data_append]
  apply Array.toList_inj.mp
  simp
theorem cat_back (c : UInt8) (x : ByteArray) : x ++ (⟨#[c]⟩ : ByteArray) = ⟨(x.data.toList ++ [c]).toArray⟩ := by
  apply ByteArray.ext
  rw [ByteArray.data_append]
  apply Array.toList_inj.mp
  simp
theorem same_bytes (x : ByteArray) : (⟨x.data.toList.toArray⟩ : ByteArray) = x := by
  apply ByteArray.ext
  simp

theorem new_below {w : World} {o : Obj} : Below w.heap.size w (w.alloc o) := (Below.refl _ w).alloc (Nat.le_refl _) o
theorem new_below2 {w w2 : World} {o : Obj} (h : Below (w.alloc o).heap.size (w.alloc o) w2) : Below w.heap.size w w2 := new_below.trans (h.mono new_below.size)
theorem can_open (x : ByteArray) (a b : UInt8) (o : List UInt8) (hx : x = ⟨o.toArray⟩) : (⟨#[a]⟩ : ByteArray) ++ x ++ (⟨#[b]⟩ : ByteArray) = ⟨(a :: (o ++ [b])).toArray⟩ := by
  subst hx
  rw [cat_front, cat_back]
  rfl

set_option maxRecDepth 100000 in
set_option maxHeartbeats 1600000 in
theorem can_2 (u : Nat) (tx : ByteArray) (a l c : Nat) (w : World) (ht : tx.size ≤ 65536) (htb : Tab w) : Calls Tryd.prog 17 #[.int .i64 u, Tok.val ⟨2, tx, a, l, c⟩] w (EscRes w (canB u ⟨2, tx, a, l, c⟩)) := by
  unfold Tok.val
  have HP := Lib.hid (show canB u ⟨2, tx, a, l, c⟩ = tx.data.toList from canB_plain (by simp))
  simp only
  clear htb
  go_enter Tryd.func17, Tryd.ntmps17
  go_wp2_with fail
  go_ret
  rw [HP.out]
  exact ⟨congrArg (fun x => Ending.returned (Value.string x)) ((same_bytes tx).symm), new_below⟩
set_option maxRecDepth 100000 in
set_option maxHeartbeats 1600000 in
theorem can_3 (u : Nat) (tx : ByteArray) (a l c : Nat) (w : World) (ht : tx.size ≤ 65536) (htb : Tab w) : Calls Tryd.prog 17 #[.int .i64 u, Tok.val ⟨3, tx, a, l, c⟩] w (EscRes w (canB u ⟨3, tx, a, l, c⟩)) := by
  unfold Tok.val
  have HP := Lib.hid (show canB u ⟨3, tx, a, l, c⟩ = tx.data.toList from canB_plain (by simp))
  simp only
  clear htb
  go_enter Tryd.func17, Tryd.ntmps17
  go_wp2_with fail
  go_ret
  rw [HP.out]
  exact ⟨congrArg (fun x => Ending.returned (Value.string x)) ((same_bytes tx).symm), new_below⟩
set_option maxRecDepth 100000 in
set_option maxHeartbeats 1600000 in
theorem can_4 (u : Nat) (tx : ByteArray) (a l c : Nat) (w : World) (ht : tx.size ≤ 65536) (htb : Tab w) : Calls Tryd.prog 17 #[.int .i64 u, Tok.val ⟨4, tx, a, l, c⟩] w (EscRes w (canB u ⟨4, tx, a, l, c⟩)) := by
  unfold Tok.val
  have HP := Lib.hid (show canB u ⟨4, tx, a, l, c⟩ = tx.data.toList from canB_plain (by simp))
  simp only
  clear htb
  go_enter Tryd.func17, Tryd.ntmps17
  go_wp2_with fail
  go_ret
  rw [HP.out]
  exact ⟨congrArg (fun x => Ending.returned (Value.string x)) ((same_bytes tx).symm), new_below⟩
set_option maxRecDepth 100000 in
set_option maxHeartbeats 1600000 in
theorem can_0n (u : Nat) (tx : ByteArray) (a l c : Nat) (w : World) (ht : tx.size ≤ 65536) (htb : Tab w) (hu : u ≠ 9) : Calls Tryd.prog 17 #[.int .i64 u, Tok.val ⟨0, tx, a, l, c⟩] w (EscRes w (canB u ⟨0, tx, a, l, c⟩)) := by
  unfold Tok.val
  have HP := Lib.hid (show canB u ⟨0, tx, a, l, c⟩ = tx.data.toList from canB_plain (by simp [hu]))
  have qu : ((u : Int) == 9) = false := beq_false_of_ne (by omega)
  have qu' : ¬ u = 9 := hu
  simp only
  clear htb hu
  go_enter Tryd.func17, Tryd.ntmps17
  go_wp2_with fail
  go_ret
  rw [HP.out]
  exact ⟨congrArg (fun x => Ending.returned (Value.string x)) ((same_bytes tx).symm), new_below⟩
set_option maxRecDepth 100000 in
set_option maxHeartbeats 1600000 in
theorem can_0p (u : Nat) (tx : ByteArray) (a l c : Nat) (w : World) (ht : tx.size ≤ 65536) (htb : Tab w) (hu : u = 9) : Calls Tryd.prog 17 #[.int .i64 u, Tok.val ⟨0, tx, a, l, c⟩] w (EscRes w (canB u ⟨0, tx, a, l, c⟩)) := by
  unfold Tok.val
  have HP := Lib.hid (show canB u ⟨0, tx, a, l, c⟩ = 36 :: tx.data.toList by rw [hu]; exact canB_var (by simp))
  subst hu
  have q2 : ¬ 9223372036854775807 < 1 + tx.size := by omega
  simp only
  clear htb
  go_enter Tryd.func17, Tryd.ntmps17
  go_wp2_with fail
  go_ret
  rw [HP.out]
  exact ⟨congrArg (fun x => Ending.returned (Value.string x)) (cat_front 36 tx), new_below⟩
set_option maxRecDepth 100000 in
set_option maxHeartbeats 1600000 in
theorem can_1n (u : Nat) (tx : ByteArray) (a l c : Nat) (w : World) (ht : tx.size ≤ 65536) (htb : Tab w) (hu : u ≠ 9) : Calls Tryd.prog 17 #[.int .i64 u, Tok.val ⟨1, tx, a, l, c⟩] w (EscRes w (canB u ⟨1, tx, a, l, c⟩)) := by
  unfold Tok.val
  have HP := Lib.hid (show canB u ⟨1, tx, a, l, c⟩ = tx.data.toList from canB_plain (by simp [hu]))
  have qu : ((u : Int) == 9) = false := beq_false_of_ne (by omega)
  have qu' : ¬ u = 9 := hu
  simp only
  clear htb hu
  go_enter Tryd.func17, Tryd.ntmps17
  go_wp2_with fail
  go_ret
  rw [HP.out]
  exact ⟨congrArg (fun x => Ending.returned (Value.string x)) ((same_bytes tx).symm), new_below⟩
set_option maxRecDepth 100000 in
set_option maxHeartbeats 1600000 in
theorem can_1p (u : Nat) (tx : ByteArray) (a l c : Nat) (w : World) (ht : tx.size ≤ 65536) (htb : Tab w) (hu : u = 9) : Calls Tryd.prog 17 #[.int .i64 u, Tok.val ⟨1, tx, a, l, c⟩] w (EscRes w (canB u ⟨1, tx, a, l, c⟩)) := by
  unfold Tok.val
  have HP := Lib.hid (show canB u ⟨1, tx, a, l, c⟩ = 36 :: tx.data.toList by rw [hu]; exact canB_var (by simp))
  subst hu
  have q2 : ¬ 9223372036854775807 < 1 + tx.size := by omega
  simp only
  clear htb
  go_enter Tryd.func17, Tryd.ntmps17
  go_wp2_with fail
  go_ret
  rw [HP.out]
  exact ⟨congrArg (fun x => Ending.returned (Value.string x)) (cat_front 36 tx), new_below⟩
set_option maxRecDepth 100000 in
set_option maxHeartbeats 1600000 in
theorem can_5 (u : Nat) (tx : ByteArray) (a l c : Nat) (w : World) (ht : tx.size ≤ 65536) (htb : Tab w) : Calls Tryd.prog 17 #[.int .i64 u, Tok.val ⟨5, tx, a, l, c⟩] w (EscRes w (canB u ⟨5, tx, a, l, c⟩)) := by
  unfold Tok.val
  have HP := Lib.hid (show canB u ⟨5, tx, a, l, c⟩ = tx.data.toList ++ [76] from by unfold canB; simp)
  have q2 : ¬ 9223372036854775807 < tx.size + 1 := by omega
  simp only
  clear htb
  go_enter Tryd.func17, Tryd.ntmps17
  go_wp2_with fail
  go_ret
  rw [HP.out]
  exact ⟨congrArg (fun x => Ending.returned (Value.string x)) (cat_back 76 tx), new_below⟩
set_option maxRecDepth 100000 in
set_option maxHeartbeats 1600000 in
theorem can_8 (u : Nat) (tx : ByteArray) (a l c : Nat) (w : World) (ht : tx.size ≤ 65536) (htb : Tab w) : Calls Tryd.prog 17 #[.int .i64 u, Tok.val ⟨8, tx, a, l, c⟩] w (EscRes w (canB u ⟨8, tx, a, l, c⟩)) := by
  unfold Tok.val
  have HP := Lib.hid (show canB u ⟨8, tx, a, l, c⟩ = tx.data.toList ++ [34] from canB_start rfl)
  have q2 : ¬ 9223372036854775807 < tx.size + 1 := by omega
  simp only
  clear htb
  go_enter Tryd.func17, Tryd.ntmps17
  go_wp2_with fail
  go_ret
  rw [HP.out]
  exact ⟨congrArg (fun x => Ending.returned (Value.string x)) (cat_back 34 tx), new_below⟩
set_option maxRecDepth 100000 in
set_option maxHeartbeats 1600000 in
theorem can_10 (u : Nat) (tx : ByteArray) (a l c : Nat) (w : World) (ht : tx.size ≤ 65536) (htb : Tab w) : Calls Tryd.prog 17 #[.int .i64 u, Tok.val ⟨10, tx, a, l, c⟩] w (EscRes w (canB u ⟨10, tx, a, l, c⟩)) := by
  unfold Tok.val
  have HP := Lib.hid (show canB u ⟨10, tx, a, l, c⟩ = [34] from canB_end rfl)
  simp only
  clear htb
  go_enter Tryd.func17, Tryd.ntmps17
  go_wp2_with fail
  go_ret
  rw [HP.out]
  exact ⟨rfl, new_below⟩
set_option maxRecDepth 100000 in
set_option maxHeartbeats 1600000 in
theorem can_6 (u : Nat) (tx : ByteArray) (a l c : Nat) (w : World) (ht : tx.size ≤ 65536) (htb : Tab w) : Calls Tryd.prog 17 #[.int .i64 u, Tok.val ⟨6, tx, a, l, c⟩] w (EscRes w (canB u ⟨6, tx, a, l, c⟩)) := by
  unfold Tok.val
  have q3 := (escB_len [39] [123] tx.data.toList).2
  have q4 : tx.data.toList.length = tx.size := Array.length_toList
  obtain ⟨o, ho⟩ : ∃ o, escB [39] [123] tx.data.toList = o := ⟨_, rfl⟩
  have HP := Lib.hid (show canB u ⟨6, tx, a, l, c⟩ = 39 :: (o ++ [39]) by rw [← ho]; exact canB_char rfl)
  have CE := Lib.hid (show ∀ w, Calls Tryd.prog 35 #[.string tx, .string ⟨#[39]⟩, .string ⟨#[123]⟩] w (EscRes w o) from fun w => ho ▸ escaped_any tx ⟨#[39]⟩ ⟨#[123]⟩ w ht)
  rw [ho] at q3
  have q2 : ¬ 9223372036854775807 < 1 + o.length := by omega
  have q2' : ¬ 9223372036854775807 < 1 + o.length + 1 := by omega
  clear ho q3 q4 htb
  simp only
  go_enter Tryd.func17, Tryd.ntmps17
  go_wp2_with fail
  refine (CE.out _).mono ?_
  rintro e w2 ⟨rfl, hb2⟩
  have HB1 := Lib.hid (new_below2 hb2)
  clear hb2
  go_simp
  go_wp2_with fail
  go_ret
  rw [HP.out]
  exact ⟨congrArg (fun x => Ending.returned (Value.string x)) (can_open _ 39 39 o rfl), HB1.out⟩
set_option maxRecDepth 100000 in
set_option maxHeartbeats 1600000 in
theorem can_7 (u : Nat) (tx : ByteArray) (a l c : Nat) (w : World) (ht : tx.size ≤ 65536) (htb : Tab w) : Calls Tryd.prog 17 #[.int .i64 u, Tok.val ⟨7, tx, a, l, c⟩] w (EscRes w (canB u ⟨7, tx, a, l, c⟩)) := by
  unfold Tok.val
  have q3 := (escB_len [34] [] tx.data.toList).2
  have q4 : tx.data.toList.length = tx.size := Array.length_toList
  obtain ⟨o, ho⟩ : ∃ o, escB [34] [] tx.data.toList = o := ⟨_, rfl⟩
  have HP := Lib.hid (show canB u ⟨7, tx, a, l, c⟩ = 34 :: (o ++ [34]) by rw [← ho]; exact canB_str rfl)
  have CE := Lib.hid (show ∀ w, Calls Tryd.prog 35 #[.string tx, .string ⟨#[34]⟩, .string ⟨#[]⟩] w (EscRes w o) from fun w => ho ▸ escaped_any tx ⟨#[34]⟩ ⟨#[]⟩ w ht)
  rw [ho] at q3
  have q2 : ¬ 9223372036854775807 < 1 + o.length := by omega
  have q2' : ¬ 9223372036854775807 < 1 + o.length + 1 := by omega
  clear ho q3 q4 htb
  simp only
  go_enter Tryd.func17, Tryd.ntmps17
  go_wp2_with fail
  refine (CE.out _).mono ?_
  rintro e w2 ⟨rfl, hb2⟩
  have HB1 := Lib.hid (new_below2 hb2)
  clear hb2
  go_simp
  go_wp2_with fail
  go_ret
  rw [HP.out]
  exact ⟨congrArg (fun x => Ending.returned (Value.string x)) (can_open _ 34 34 o rfl), HB1.out⟩
set_option maxRecDepth 100000 in
set_option maxHeartbeats 1600000 in
theorem can_9 (u : Nat) (tx : ByteArray) (a l c : Nat) (w : World) (ht : tx.size ≤ 65536) (htb : Tab w) : Calls Tryd.prog 17 #[.int .i64 u, Tok.val ⟨9, tx, a, l, c⟩] w (EscRes w (canB u ⟨9, tx, a, l, c⟩)) := by
  unfold Tok.val
  have HP := Lib.hid (show canB u ⟨9, tx, a, l, c⟩ = partB u tx.data.toList from canB_part rfl)
  have HT := Lib.hid (show ∀ w', Below w.heap.size w w' → Tab w' from fun w' h => htb.below h)
  have CE := Lib.hid (fun w hw => part_any u tx w ht hw)
  clear htb
  simp only
  go_enter Tryd.func17, Tryd.ntmps17
  go_wp2_with fail
  refine (CE.out _ (HT.out _ new_below)).mono ?_
  rintro e w2 ⟨rfl, hb2⟩
  have HB1 := Lib.hid (new_below2 hb2)
  clear hb2
  go_simp
  go_wp2_with fail
  go_ret
  rw [HP.out]
  exact ⟨rfl, HB1.out⟩
theorem can_any (u : Nat) (t : Tok) (w : World) (hk : t.kind ≤ 10) (ht : t.text.size ≤ 65536) (htb : Tab w) : Calls Tryd.prog 17 #[.int .i64 u, t.val] w (EscRes w (canB u t)) := by
  obtain ⟨k, tx, a, l, c⟩ := t
  simp only at hk ht
  have : k = 0 ∨ k = 1 ∨ k = 2 ∨ k = 3 ∨ k = 4 ∨ k = 5 ∨ k = 6 ∨ k = 7 ∨ k = 8 ∨ k = 9 ∨ k = 10 := by omega
  rcases this with rfl | rfl | rfl | rfl | rfl | rfl | rfl | rfl | rfl | rfl | rfl
  · by_cases hu : u = 9
    · exact can_0p u tx a l c w ht htb hu
    · exact can_0n u tx a l c w ht htb hu
  · by_cases hu : u = 9
    · exact can_1p u tx a l c w ht htb hu
    · exact can_1n u tx a l c w ht htb hu
  · exact can_2 u tx a l c w ht htb
  · exact can_3 u tx a l c w ht htb
  · exact can_4 u tx a l c w ht htb
  · exact can_5 u tx a l c w ht htb
  · exact can_6 u tx a l c w ht htb
  · exact can_7 u tx a l c w ht htb
  · exact can_8 u tx a l c w ht htb
  · exact can_9 u tx a l c w ht htb
  · exact can_10 u tx a l c w ht htb
end Go.Proofs.YtpgcklpcohcchaaDoor
namespace Go.Proofs.YtpgcklpcohcchaaDoor
open Go Go.RowKit

theorem showB_one (u : Nat) (t : Tok) : showB u [t] = (if u ≠ 8 ∧ u ≠ 9 ∧ t.kind ≠ 9 then [32] else []) ++ canB u t := by rw [showB_cons, showB_nil, List.append_nil]
theorem take_one {l : List Tok} {k : Nat} {t : Tok} (h : l[k]? = some t) : l.take (k + 1) = l.take k ++ [t] := by rw [List.take_add_one, h]; rfl
theorem lastK_take {l : List Tok} {k : Nat} {t : Tok} (h : l[k]? = some t) : lastK 8 (l.take (k + 1)) = t.kind := by rw [take_one h, lastK_end]
theorem showB_take {l : List Tok} {k : Nat} {t : Tok} (h : l[k]? = some t) :
    showB 8 (l.take (k + 1)) = showB 8 (l.take k) ++ ((if lastK 8 (l.take k) ≠ 8 ∧ lastK 8 (l.take k) ≠ 9 ∧ t.kind ≠ 9 then [32] else []) ++ canB (lastK 8 (l.take k)) t) := by
  rw [take_one h, showB_app, showB_one]
theorem showB_le (l : List Tok) (k : Nat) : (showB 8 (l.take k)).length ≤ (showB 8 l).length := by
  have h := congrArg List.length (showB_app (l.drop k) (l.take k) 8)
  rw [List.take_append_drop, List.length_append] at h
  omega
theorem kt_len {l m : List Tok} (h : m.map kt = l.map kt) : m.length = l.length := by
  have := congrArg List.length h
  simpa using this
theorem kt_get {l m : List Tok} (h : m.map kt = l.map kt) {k : Nat} (hk : k < l.length) : ∃ a b, m[k]? = some a ∧ l[k]? = some b ∧ a.kind = b.kind ∧ a.text = b.text := by
  have hl := kt_len h
  refine ⟨m[k]'(by omega), l[k], List.getElem?_eq_getElem _, List.getElem?_eq_getElem _, ?_⟩
  have := congrArg (·[k]?) h
  simp only [List.getElem?_map, List.getElem?_eq_getElem (show k < m.length by omega), List.getElem?_eq_getElem hk, Option.map_some, Option.some.injEq, kt, Prod.mk.injEq] at this
  exact this

/-- Raw, for a caller that keeps all that there was. -/
theorem raw_below (w : World) (s : ByteArray) (htb : Tab w) : Calls Tryd.prog 7 #[.string s] w (LayRes (fun b => b < w.heap.size) w (rawF s)) :=
  raw_any _ w s (fun _ h => h) htb htb.pos

theorem isB_below {T e : TypeId} {B b : Nat} {bs : List Value} {W W' : World} (h : Lib.IsBuilder T e B b bs W) (hb : Below W.heap.size W W') : Lib.IsBuilder T e B b bs W' := by
  have key : ∀ p, Lib.BuilderAt T e B b p bs W → Lib.BuilderAt T e B b p bs W' := fun p x => by
    have hlt := x.lt
    obtain ⟨hB, v, hv, hown, hne⟩ := x
    exact ⟨hB, v, (hb.block b hlt).trans hv, row_keep hown hb, hne⟩
  exact h.elim (fun x => .inl (key _ x)) (fun x => .inr (key _ x))
theorem isBF_below {T e : TypeId} {B b : Nat} {bs : List Value} {W W' : World} (h : Lib.IsBuilderF T e B b bs W) (hb : Below W.heap.size W W') : Lib.IsBuilderF T e B b bs W' := by
  have key : ∀ p, Lib.BuilderAtF T e B b p bs W → Lib.BuilderAtF T e B b p bs W' := fun p x => by
    have hlt := x.lt
    obtain ⟨hB, v, hv, hown, hne⟩ := x
    exact ⟨hB, v, (hb.block b hlt).trans hv, hown.kept (row := none) ⟨hb.os, hb.tape, hb.output, hb.size, fun k hk _ => hb.block k hk⟩ (Classical.em _), hne⟩
  exact h.elim (fun x => .inl (key _ x)) (fun x => .inr (key _ x))
end Go.Proofs.YtpgcklpcohcchaaDoor
namespace Go.Proofs.YtpgcklpcohcchaaDoor
open Go Go.RowKit

set_option maxRecDepth 100000 in
set_option maxHeartbeats 3200000 in
theorem shows_any (s : ByteArray) (l m : List Tok) (lv : Value) (w : World) (htb : Tab w) (hl : w.ownsRow 0 32 5 lv l.length (tcs l)) (hr : rawF s = .ok m) (hm : m.map kt = l.map kt) (hn : l.length ≤ 1000000) :
    Calls Tryd.prog 19 #[.string s, lv] w fun e w' => e = .returned (.bool true) ∧ Below w.heap.size w w' := by
  have cr := raw_below w s htb
  rw [hr] at cr
  have CR := Lib.hid cr
  have HM := Lib.hid hm
  have hlen := kt_len hm
  have hl1 := (row_len hl)
  obtain ⟨la, lc, rfl⟩ := hl1
  have HL := Lib.hid hl
  clear cr hr htb hm hl
  generalize hln : l.length = n at *
  have HLN := Lib.hid hln
  clear hln
  go_enter Tryd.func19, Tryd.ntmps19
  go_wp2_with fail
  refine CR.out.mono ?_
  rintro e w2 ⟨v, rfl, o2, k2, x2⟩
  rw [hlen] at o2
  have K2 := Lib.hid k2.toBelow
  have O2 := Lib.hid o2
  have OL := Lib.hid (row_keep HL.out k2.toBelow)
  have hl2 := (row_len o2)
  obtain ⟨ma, mc, rfl⟩ := hl2
  clear CR k2 x2 o2
  go_simp
  go_wp2_with fail
  have hb := (Below.refl w2.heap.size w2).alloc (Nat.le_refl _) (.cells #[.int .i64 0, .int .i64 0] 26)
  have HB3 := Lib.hid hb
  have HLM := Lib.hid hlen
  clear hb hlen
  generalize w2.alloc (.cells #[.int .i64 0, .int .i64 0] 26) = W at *
  go_loopg [26] n (fun gh s26 wr => ∃ k : Nat, k + gh = n ∧ .int .i64 (k : Int) = s26 ∧ Below w2.heap.size w2 wr)
  case atStart => exact ⟨0, by omega, rfl, HB3.out⟩
  case round =>
    obtain ⟨k, hk, rfl, hbl⟩ := hrel
    have HBL := Lib.hid hbl
    by_cases hlt : k < n
    · obtain ⟨g', rfl⟩ : ∃ g', gk = g' + 1 := ⟨gk - 1, by omega⟩
      obtain ⟨a, b, ha, hb, e1, e2⟩ := kt_get HM.out (k := k) (by rw [HLN.out]; exact hlt)
      obtain ⟨tk, tx, ta, tl, tc⟩ := a
      obtain ⟨tk', tx', ta', tl', tc'⟩ := b
      simp only at e1 e2
      subst e1 e2
      have o3 := row_keep O2.out hbl
      have o4 := row_keep OL.out hbl
      obtain ⟨gm, cm, hvm, _, hgm⟩ := O2.out.form (by omega)
      obtain ⟨gl, cl, hvl, _, hgl⟩ := OL.out.form (by omega)
      injection hvm with hvm1 hvm2 hvm3
      injection hvl with hvl1 hvl2 hvl3
      subst hvm1 hvm3 hvl1 hvl3
      have k0 : wr.cell? ⟨gm, k * 5, none⟩ = some (.int .i64 tk) := by rw [o3.cellAt _ (by omega)]; exact tcs_get m k 0 _ ha (by omega)
      have k1 : wr.cell? ⟨gm, k * 5 + 1, none⟩ = some (.string tx) := by rw [o3.cellAt _ (by omega), tcs_get m k 1 _ ha (by omega)]; rfl
      have k2 : wr.cell? ⟨gm, k * 5 + 2, none⟩ = some (.int .i64 ta) := by rw [o3.cellAt _ (by omega), tcs_get m k 2 _ ha (by omega)]; rfl
      have k3 : wr.cell? ⟨gm, k * 5 + 3, none⟩ = some (.int .i64 tl) := by rw [o3.cellAt _ (by omega), tcs_get m k 3 _ ha (by omega)]; rfl
      have k4 : wr.cell? ⟨gm, k * 5 + 4, none⟩ = some (.int .i64 tc) := by rw [o3.cellAt _ (by omega), tcs_get m k 4 _ ha (by omega)]; rfl
      have j0 : wr.cell? ⟨gl, k * 5, none⟩ = some (.int .i64 tk) := by rw [o4.cellAt _ (by omega)]; exact tcs_get l k 0 _ hb (by omega)
      have j1 : wr.cell? ⟨gl, k * 5 + 1, none⟩ = some (.string tx) := by rw [o4.cellAt _ (by omega), tcs_get l k 1 _ hb (by omega)]; rfl
      have q1 : (k : Int) < (n : Int) := by omega
      have hsz := hbl.size
      have J0 := Lib.hid j0
      have J1 := Lib.hid j1
      clear o3 o4 ha hb hbl j0 j1
      go_wp2_with fail
      have hbw := HBL.out.alloc HBL.out.size (.cells #[.int .i64 tk, .string tx, .int .i64 ta, .int .i64 tl, .int .i64 tc] 32)
      have hbr := (Below.refl wr.heap.size wr).alloc (Nat.le_refl _) (.cells #[.int .i64 tk, .string tx, .int .i64 ta, .int .i64 tl, .int .i64 tc] 32)
      have hnw : Bl (wr.alloc (.cells #[.int .i64 tk, .string tx, .int .i64 ta, .int .i64 tl, .int .i64 tc] 32)) wr.heap.size 32 [.int .i64 tk, .string tx, .int .i64 ta, .int .i64 tl, .int .i64 tc] := Bl.new wr 32 [.int .i64 tk, .string tx, .int .i64 ta, .int .i64 tl, .int .i64 tc]
      have j0 := (hbr.cell (p := ⟨gl, k * 5, none⟩) (Nat.lt_of_lt_of_le hgl hsz)).trans J0.out
      have j1 := (hbr.cell (p := ⟨gl, k * 5 + 1, none⟩) (Nat.lt_of_lt_of_le hgl hsz)).trans J1.out
      have HBW := Lib.hid hbw
      clear hbw hbr k0 k1 k2 k3 k4
      generalize wr.alloc (.cells #[.int .i64 tk, .string tx, .int .i64 ta, .int .i64 tl, .int .i64 tc] 32) = W1 at *
      generalize wr.heap.size = tb at *
      have t0 : W1.cell? ⟨tb, 0, none⟩ = some (.int .i64 tk) := hnw.cell 0
      have t1 : W1.cell? ⟨tb, 1, none⟩ = some (.string tx) := hnw.cell 1
      have e0 : ((tk : Int) != (tk : Int)) = false := by simp
      clear hnw
      go_quiet (fail)
      go_wp2_with fail
      go_roundg g'
      case rel => exact ⟨k + 1, by omega, by go_num, drewN_below HBW.out _⟩
      case measure => omega
    · have hkn : k = n := by omega
      subst hkn
      clear hbl
      go_wp2_with fail
      go_ret
      exact ⟨rfl, K2.out.trans (HBL.out.mono K2.out.size)⟩
end Go.Proofs.YtpgcklpcohcchaaDoor
namespace Go.Proofs.YtpgcklpcohcchaaDoor
open Go Go.RowKit

theorem bl_others {w w' : World} {g b : Nat} {t e : TypeId} {l : List Value} (h : Bl w g t l) (hk : Lib.OthersKept e (some b) w w') (hb : g ≠ b) (ht : t ≠ e) : Bl w' g t l :=
  hk g _ h (fun x => hb (Option.some.inj x)) (fun c fz x => by injection x with x1 x2 x3; exact ht x2)
theorem show_next {l : List Tok} {k : Nat} {t : Tok} (h : l[k]? = some t) {o x : List UInt8} (hx : x = if lastK 8 (l.take k) ≠ 8 ∧ lastK 8 (l.take k) ≠ 9 ∧ t.kind ≠ 9 then [32] else []) (ho : canB (lastK 8 (l.take k)) t = o) :
    showB 8 (l.take (k + 1)) = showB 8 (l.take k) ++ (x ++ o) := by rw [showB_take h, ← hx, ho]

set_option maxRecDepth 100000 in
set_option maxHeartbeats 6400000 in
theorem show_any (l m : List Tok) (lv : Value) (w : World) (htb : Tab w) (hl : w.ownsRow 0 32 5 lv l.length (tcs l)) (hr : rawF (showF l) = .ok m) (hm : m.map kt = l.map kt) (hn : l.length ≤ 1000000) (hs : (showF l).size ≤ 65000) (ht : ∀ t ∈ l, t.kind ≤ 10 ∧ t.text.size ≤ 65536) :
    Calls Tryd.prog 8 #[lv] w fun e w' => e = .returned (.tuple #[.string (showF l), .int .i64 0]) ∧ Below w.heap.size w w' := by
  have SH := Lib.hid (fun (W : World) (hb : Below w.heap.size w W) => shows_any (showF l) l m lv W (htb.below hb) (row_keep hl hb) hr hm hn)
  obtain ⟨la, lc, rfl⟩ := row_len hl
  have HL := Lib.hid hl
  have HT := Lib.hid ht
  have HTB := Lib.hid htb
  rw [showF_size] at hs
  have HS := Lib.hid (fun k => Nat.le_trans (showB_le l k) hs)
  clear hr hm hl ht htb hs
  generalize hln : l.length = n at *
  have HLN := Lib.hid hln
  clear hln
  go_enter Tryd.func8, Tryd.ntmps8
  go_wp2_with fail
  go_loopg [5, 10] n (fun gh s5 s10 wr => ∃ k : Nat, k + gh = n ∧ .int .i64 (lastK 8 (l.take k) : Nat) = s5 ∧ .int .i64 (k : Int) = s10 ∧ Lib.IsBuilderF 50 5 w.heap.size w.heap.size (Lib.byteCells (showB 8 (l.take k))) wr ∧ Below w.heap.size w wr)
  case atStart =>
    exact ⟨0, by omega, rfl, rfl, Lib.IsBuilderF.of (.inl ⟨Nat.le_refl _, _, Go.heap_alloc_new w _, World.ownsRow_nil _ _ _ _, by simp [Value.ownBlock]⟩), (Below.refl _ _).alloc (Nat.le_refl _) _⟩
  case round =>
    obtain ⟨k, hk, rfl, rfl, hI, hbl⟩ := hrel
    have HI := Lib.hid hI
    have HBL := Lib.hid hbl
    by_cases hlt : k < n
    · obtain ⟨g', rfl⟩ : ∃ g', gk = g' + 1 := ⟨gk - 1, by omega⟩
      obtain ⟨t, htk⟩ : ∃ t, l[k]? = some t := ⟨l[k]'(by rw [HLN.out]; exact hlt), List.getElem?_eq_getElem _⟩
      have hto := HT.out t (List.mem_of_getElem? htk)
      have HNX := Lib.hid (fun x o => show_next htk (o := o) (x := x))
      have HLK := Lib.hid (lastK_take htk)
      have HCL := Lib.hid (HS.out k)
      have HCL1 := Lib.hid (HS.out (k + 1))
      have hwr : w.heap.size < wr.heap.size := by
        rcases hI with x | x
        · exact x.lt
        · exact x.lt
      have o3 := row_keep HL.out hbl
      obtain ⟨g, cp, hv, _, hg⟩ := HL.out.form (by omega)
      injection hv with hv1 hv2 hv3
      subst hv1 hv3
      obtain ⟨tk, tx, ta, tl, tc⟩ := t
      have k0 : wr.cell? ⟨g, k * 5, none⟩ = some (.int .i64 tk) := by rw [o3.cellAt _ (by omega)]; exact tcs_get l k 0 _ htk (by omega)
      have k1 : wr.cell? ⟨g, k * 5 + 1, none⟩ = some (.string tx) := by rw [o3.cellAt _ (by omega), tcs_get l k 1 _ htk (by omega)]; rfl
      have k2 : wr.cell? ⟨g, k * 5 + 2, none⟩ = some (.int .i64 ta) := by rw [o3.cellAt _ (by omega), tcs_get l k 2 _ htk (by omega)]; rfl
      have k3 : wr.cell? ⟨g, k * 5 + 3, none⟩ = some (.int .i64 tl) := by rw [o3.cellAt _ (by omega), tcs_get l k 3 _ htk (by omega)]; rfl
      have k4 : wr.cell? ⟨g, k * 5 + 4, none⟩ = some (.int .i64 tc) := by rw [o3.cellAt _ (by omega), tcs_get l k 4 _ htk (by omega)]; rfl
      have q1 : (k : Int) < (n : Int) := by omega
      clear o3 hI hbl htk
      generalize lastK 8 (l.take k) = u at *
      obtain ⟨o, ho⟩ : ∃ o, canB u ⟨tk, tx, ta, tl, tc⟩ = o := ⟨_, rfl⟩
      have HO := Lib.hid ho
      have HC := Lib.hid (fun W (hb : Below w.heap.size w W) => (show Calls Tryd.prog 17 #[.int .i64 u, .agg #[.int .i64 tk, .string tx, .int .i64 ta, .int .i64 tl, .int .i64 tc]] W (EscRes W o) from ho ▸ can_any u ⟨tk, tx, ta, tl, tc⟩ W hto.1 hto.2 (HTB.out.below hb)))
      clear ho hto
      have hbr := (Below.refl wr.heap.size wr).alloc (Nat.le_refl _) (.cells #[.int .i64 tk, .string tx, .int .i64 ta, .int .i64 tl, .int .i64 tc] 32)
      have ht1 : Bl (wr.alloc (.cells #[.int .i64 tk, .string tx, .int .i64 ta, .int .i64 tl, .int .i64 tc] 32)) wr.heap.size 32 [.int .i64 tk, .string tx, .int .i64 ta, .int .i64 tl, .int .i64 tc] := Bl.new wr 32 [.int .i64 tk, .string tx, .int .i64 ta, .int .i64 tl, .int .i64 tc]
      have HI1 := Lib.hid (isBF_below HI.out hbr)
      have HB1 := Lib.hid (HBL.out.alloc HBL.out.size (.cells #[.int .i64 tk, .string tx, .int .i64 ta, .int .i64 tl, .int .i64 tc] 32))
      have hBw1 := HB1.out.size
      have htb1 : w.heap.size < wr.heap.size := hwr
      clear hbr hwr
      by_cases h8 : u = 8
      · subst h8
        go_wp2_with fail
        refine (HC.out _ HB1.out).mono ?_
        rintro e w3 ⟨rfl, hb3⟩
        have ht3 := ht1.below hb3 ht1.lt
        have HI3 := Lib.hid (isBF_below HI1.out hb3)
        have HB3 := Lib.hid (HB1.out.trans (hb3.mono hBw1))
        have hBw3 := HB3.out.size
        clear hb3
        have hnx := HNX.out [] o (by simp) HO.out
        have hol := congrArg List.length hnx
        simp only [List.length_append, List.length_cons, List.length_nil] at hol
        have HWL := Lib.hid (show (Lib.byteCells (showB 8 (l.take k))).length + (⟨o.toArray⟩ : ByteArray).size ≤ 140737488355328 by
          have h1 := HCL1.out
          have h2 : (⟨o.toArray⟩ : ByteArray).size = o.length := by show o.toArray.size = _; simp
          simp only [List.length_append, List.length_cons, List.length_nil, Lib.byteCells_length]
          omega)
        have HNX1 := Lib.hid hnx
        clear hnx hol
        go_simp
        go_wp2_with fail
        refine (Tryd.Builder_WriteString_k _ _ _ _ _ HI3.out HWL.out hBw3).mono ?_
        rintro e w4 ⟨rfl, hA4, hB4, hO4⟩
        have ht4 := bl_others ht3 hO4 (Nat.ne_of_gt htb1) (by decide)
        have t40 : w4.cell? ⟨wr.heap.size, 0, none⟩ = some (.int .i64 tk) := ht4.cell 0
        have HB4 := Lib.hid (HB3.out.trans hB4)
        have HI4 := Lib.hid (show Lib.IsBuilderF 50 5 w.heap.size w.heap.size (Lib.byteCells (showB 8 (l.take (k + 1)))) w4 from by
          rw [HNX1.out, bcells_app, bcells_app]
          have := hA4
          simp only [Lib.strCells, List.append_assoc] at this
          exact .inr (by simpa [Lib.byteCells, List.append_assoc] using this))
        obtain ⟨nn, hnn⟩ : ∃ nn, (Lib.byteCells (showB 8 (l.take (k + 1)))).length = nn := ⟨_, rfl⟩
        have HLn := Lib.hid (show Calls Tryd.prog 18 #[.pointer (some ⟨w.heap.size, 0, none⟩)] w4 (fun e w' => e = .returned (.int .i64 nn) ∧ w' = w4) from by
          have h := Tryd.Builder_Len_f _ _ _ _ HI4.out
          rw [hnn] at h
          exact h)
        have hn4 : ¬ (65536 : Int) < (nn : Int) := by
          have h1 := HCL1.out
          rw [Lib.byteCells_length] at hnn
          omega
        clear hnn hA4 hB4 hO4 ht4
        go_simp
        go_wp2_with fail
        refine HLn.out.mono ?_
        rintro e w5 ⟨rfl, rfl⟩
        go_simp
        go_wp2_with fail
        go_roundg g'
        case rel => exact ⟨k + 1, by omega, (by rw [HLK.out] <;> rfl), by go_num, HI4.out, HB4.out⟩
        case measure => omega
      · have q8 : ((u : Int) != 8) = true := by simp; omega
        have q8' : ¬ (u : Int) = 8 := by omega
        by_cases h9 : u = 9
        · subst h9
          go_wp2_with fail
          refine (HC.out _ HB1.out).mono ?_
          rintro e w3 ⟨rfl, hb3⟩
          have ht3 := ht1.below hb3 ht1.lt
          have HI3 := Lib.hid (isBF_below HI1.out hb3)
          have HB3 := Lib.hid (HB1.out.trans (hb3.mono hBw1))
          have hBw3 := HB3.out.size
          clear hb3
          have hnx := HNX.out [] o (by simp) HO.out
          have hol := congrArg List.length hnx
          simp only [List.length_append, List.length_cons, List.length_nil] at hol
          have HWL := Lib.hid (show (Lib.byteCells (showB 8 (l.take k))).length + (⟨o.toArray⟩ : ByteArray).size ≤ 140737488355328 by
            have h1 := HCL1.out
            have h2 : (⟨o.toArray⟩ : ByteArray).size = o.length := by show o.toArray.size = _; simp
            simp only [List.length_append, List.length_cons, List.length_nil, Lib.byteCells_length]
            omega)
          have HNX1 := Lib.hid hnx
          clear hnx hol
          go_simp
          go_wp2_with fail
          refine (Tryd.Builder_WriteString_k _ _ _ _ _ HI3.out HWL.out hBw3).mono ?_
          rintro e w4 ⟨rfl, hA4, hB4, hO4⟩
          have ht4 := bl_others ht3 hO4 (Nat.ne_of_gt htb1) (by decide)
          have t40 : w4.cell? ⟨wr.heap.size, 0, none⟩ = some (.int .i64 tk) := ht4.cell 0
          have HB4 := Lib.hid (HB3.out.trans hB4)
          have HI4 := Lib.hid (show Lib.IsBuilderF 50 5 w.heap.size w.heap.size (Lib.byteCells (showB 8 (l.take (k + 1)))) w4 from by
            rw [HNX1.out, bcells_app, bcells_app]
            have := hA4
            simp only [Lib.strCells, List.append_assoc] at this
            exact .inr (by simpa [Lib.byteCells, List.append_assoc] using this))
          obtain ⟨nn, hnn⟩ : ∃ nn, (Lib.byteCells (showB 8 (l.take (k + 1)))).length = nn := ⟨_, rfl⟩
          have HLn := Lib.hid (show Calls Tryd.prog 18 #[.pointer (some ⟨w.heap.size, 0, none⟩)] w4 (fun e w' => e = .returned (.int .i64 nn) ∧ w' = w4) from by
            have h := Tryd.Builder_Len_f _ _ _ _ HI4.out
            rw [hnn] at h
            exact h)
          have hn4 : ¬ (65536 : Int) < (nn : Int) := by
            have h1 := HCL1.out
            rw [Lib.byteCells_length] at hnn
            omega
          clear hnn hA4 hB4 hO4 ht4
          go_simp
          go_wp2_with fail
          refine HLn.out.mono ?_
          rintro e w5 ⟨rfl, rfl⟩
          go_simp
          go_wp2_with fail
          go_roundg g'
          case rel => exact ⟨k + 1, by omega, (by rw [HLK.out] <;> rfl), by go_num, HI4.out, HB4.out⟩
          case measure => omega
        · have q9 : ((u : Int) != 9) = true := by simp; omega
          have q9' : ¬ (u : Int) = 9 := by omega
          by_cases hk9 : tk = 9
          · subst hk9
            go_wp2_with fail
            refine (HC.out _ HB1.out).mono ?_
            rintro e w3 ⟨rfl, hb3⟩
            have ht3 := ht1.below hb3 ht1.lt
            have HI3 := Lib.hid (isBF_below HI1.out hb3)
            have HB3 := Lib.hid (HB1.out.trans (hb3.mono hBw1))
            have hBw3 := HB3.out.size
            clear hb3
            have hnx := HNX.out [] o (by simp [h8, h9]) HO.out
            have hol := congrArg List.length hnx
            simp only [List.length_append, List.length_cons, List.length_nil] at hol
            have HWL := Lib.hid (show (Lib.byteCells (showB 8 (l.take k))).length + (⟨o.toArray⟩ : ByteArray).size ≤ 140737488355328 by
              have h1 := HCL1.out
              have h2 : (⟨o.toArray⟩ : ByteArray).size = o.length := by show o.toArray.size = _; simp
              simp only [List.length_append, List.length_cons, List.length_nil, Lib.byteCells_length]
              omega)
            have HNX1 := Lib.hid hnx
            clear hnx hol
            go_simp
            go_wp2_with fail
            refine (Tryd.Builder_WriteString_k _ _ _ _ _ HI3.out HWL.out hBw3).mono ?_
            rintro e w4 ⟨rfl, hA4, hB4, hO4⟩
            have ht4 := bl_others ht3 hO4 (Nat.ne_of_gt htb1) (by decide)
            have t40 : w4.cell? ⟨wr.heap.size, 0, none⟩ = some (.int .i64 9) := ht4.cell 0
            have HB4 := Lib.hid (HB3.out.trans hB4)
            have HI4 := Lib.hid (show Lib.IsBuilderF 50 5 w.heap.size w.heap.size (Lib.byteCells (showB 8 (l.take (k + 1)))) w4 from by
              rw [HNX1.out, bcells_app, bcells_app]
              have := hA4
              simp only [Lib.strCells, List.append_assoc] at this
              exact .inr (by simpa [Lib.byteCells, List.append_assoc] using this))
            obtain ⟨nn, hnn⟩ : ∃ nn, (Lib.byteCells (showB 8 (l.take (k + 1)))).length = nn := ⟨_, rfl⟩
            have HLn := Lib.hid (show Calls Tryd.prog 18 #[.pointer (some ⟨w.heap.size, 0, none⟩)] w4 (fun e w' => e = .returned (.int .i64 nn) ∧ w' = w4) from by
              have h := Tryd.Builder_Len_f _ _ _ _ HI4.out
              rw [hnn] at h
              exact h)
            have hn4 : ¬ (65536 : Int) < (nn : Int) := by
              have h1 := HCL1.out
              rw [Lib.byteCells_length] at hnn
              omega
            clear hnn hA4 hB4 hO4 ht4
            go_simp
            go_wp2_with fail
            refine HLn.out.mono ?_
            rintro e w5 ⟨rfl, rfl⟩
            go_simp
            go_wp2_with fail
            go_roundg g'
            case rel => exact ⟨k + 1, by omega, (by rw [HLK.out] <;> rfl), by go_num, HI4.out, HB4.out⟩
            case measure => omega
          · have qk : ((tk : Int) != 9) = true := by simp; omega
            have qk' : ¬ (tk : Int) = 9 := by omega
            go_wp2_with fail
            refine (Tryd.Builder_WriteByte_k _ _ _ _ _ HI1.out (by rw [Lib.byteCells_length]; have := HCL.out; omega) hBw1).mono ?_
            rintro e w2 ⟨rfl, hA2, hB2, hO2⟩
            have ht2 := bl_others ht1 hO2 (Nat.ne_of_gt htb1) (by decide)
            have HB2 := Lib.hid (HB1.out.trans hB2)
            have hBw2 := HB2.out.size
            have HI2 := Lib.hid (show Lib.IsBuilderF 50 5 w.heap.size w.heap.size (Lib.byteCells (showB 8 (l.take k)) ++ [Value.int .u8 32]) w2 from .inr hA2)
            have d0 : w2.cell? ⟨wr.heap.size, 0, none⟩ = some (.int .i64 tk) := ht2.cell 0
            have d1 : w2.cell? ⟨wr.heap.size, 0 + 1, none⟩ = some (.string tx) := ht2.cell 1
            have d2 : w2.cell? ⟨wr.heap.size, 0 + 2, none⟩ = some (.int .i64 ta) := ht2.cell 2
            have d3 : w2.cell? ⟨wr.heap.size, 0 + 3, none⟩ = some (.int .i64 tl) := ht2.cell 3
            have d4 : w2.cell? ⟨wr.heap.size, 0 + 4, none⟩ = some (.int .i64 tc) := ht2.cell 4
            simp only [Nat.zero_add] at d1 d2 d3 d4
            clear hA2 hB2 hO2
            go_simp
            go_wp2_with fail
            refine (HC.out _ HB2.out).mono ?_
            rintro e w3 ⟨rfl, hb3⟩
            have ht3 := ht2.below hb3 ht2.lt
            have HI3 := Lib.hid (isBF_below HI2.out hb3)
            have HB3 := Lib.hid (HB2.out.trans (hb3.mono hBw2))
            have hBw3 := HB3.out.size
            clear hb3
            have hnx := HNX.out [32] o (by simp [h8, h9, hk9]) HO.out
            have hol := congrArg List.length hnx
            simp only [List.length_append, List.length_cons, List.length_nil] at hol
            have HWL := Lib.hid (show (Lib.byteCells (showB 8 (l.take k)) ++ [Value.int .u8 32]).length + (⟨o.toArray⟩ : ByteArray).size ≤ 140737488355328 by
              have h1 := HCL1.out
              have h2 : (⟨o.toArray⟩ : ByteArray).size = o.length := by show o.toArray.size = _; simp
              simp only [List.length_append, List.length_cons, List.length_nil, Lib.byteCells_length]
              omega)
            have HNX1 := Lib.hid hnx
            clear hnx hol
            go_simp
            go_wp2_with fail
            refine (Tryd.Builder_WriteString_k _ _ _ _ _ HI3.out HWL.out hBw3).mono ?_
            rintro e w4 ⟨rfl, hA4, hB4, hO4⟩
            have ht4 := bl_others ht3 hO4 (Nat.ne_of_gt htb1) (by decide)
            have t40 : w4.cell? ⟨wr.heap.size, 0, none⟩ = some (.int .i64 tk) := ht4.cell 0
            have HB4 := Lib.hid (HB3.out.trans hB4)
            have HI4 := Lib.hid (show Lib.IsBuilderF 50 5 w.heap.size w.heap.size (Lib.byteCells (showB 8 (l.take (k + 1)))) w4 from by
              rw [HNX1.out, bcells_app, bcells_app]
              have := hA4
              simp only [Lib.strCells, List.append_assoc] at this
              exact .inr (by simpa [Lib.byteCells, List.append_assoc] using this))
            obtain ⟨nn, hnn⟩ : ∃ nn, (Lib.byteCells (showB 8 (l.take (k + 1)))).length = nn := ⟨_, rfl⟩
            have HLn := Lib.hid (show Calls Tryd.prog 18 #[.pointer (some ⟨w.heap.size, 0, none⟩)] w4 (fun e w' => e = .returned (.int .i64 nn) ∧ w' = w4) from by
              have h := Tryd.Builder_Len_f _ _ _ _ HI4.out
              rw [hnn] at h
              exact h)
            have hn4 : ¬ (65536 : Int) < (nn : Int) := by
              have h1 := HCL1.out
              rw [Lib.byteCells_length] at hnn
              omega
            clear hnn hA4 hB4 hO4 ht4
            go_simp
            go_wp2_with fail
            refine HLn.out.mono ?_
            rintro e w5 ⟨rfl, rfl⟩
            go_simp
            go_wp2_with fail
            go_roundg g'
            case rel => exact ⟨k + 1, by omega, (by rw [HLK.out] <;> rfl), by go_num, HI4.out, HB4.out⟩
            case measure => omega
    · have hkn : k = n := by omega
      subst hkn
      have HA := Lib.hid (show l.take k = l from List.take_of_length_le (by rw [HLN.out]; exact Nat.le_refl _))
      rw [HA.out] at HI
      have hBw := hbl.size
      clear hbl hI
      go_wp2_with fail
      refine (Tryd.Builder_String_any_f _ _ _ _ HI.out hBw).mono ?_
      rintro e w1 ⟨rfl, hI1, hB1⟩
      have HB1 := Lib.hid (HBL.out.trans hB1)
      have HI1 := Lib.hid hI1
      clear hI1 hB1
      go_simp
      go_wp2_with fail
      refine (SH.out _ HB1.out).mono ?_
      rintro e w2 ⟨rfl, hb2⟩
      have HB2 := Lib.hid (HB1.out.trans (hb2.mono HB1.out.size))
      have HI2 := Lib.hid (isBF_below HI1.out hb2)
      have hBw2 := HB2.out.size
      clear hb2
      go_simp
      go_wp2_with fail
      refine (Tryd.Builder_String_any_f _ _ _ _ HI2.out hBw2).mono ?_
      rintro e w3 ⟨rfl, hI3, hB3⟩
      have HB3 := Lib.hid (HB2.out.trans hB3)
      clear hI3 hB3
      go_simp
      go_wp2_with fail
      refine bodyPost_ret (v := .tuple #[.string (showF l), .int .i64 0]) (by simp [results, Tryd.results8, go_sem]; rfl) rfl ⟨rfl, HB3.out⟩
end Go.Proofs.YtpgcklpcohcchaaDoor
namespace Go.Proofs.YtpgcklpcohcchaaDoor
open Go Go.RowKit

set_option maxRecDepth 100000 in
set_option maxHeartbeats 6400000 in
theorem back_any (s : ByteArray) (w : World) (htb : Tab w) : Calls Tryd.prog 3 #[.string s] w fun e w' => e = .returned (.bool true) ∧ Below w.heap.size w w' := by
  have AW := Lib.hid (awake_any w htb)
  by_cases hbig : 4000 < s.size
  · have q : (4000 : Int) < (s.size : Int) := by omega
    clear hbig htb
    go_enter Tryd.func3, Tryd.ntmps3
    go_wp2_with fail
    refine AW.out.mono ?_
    rintro e w1 ⟨rfl, hb⟩
    have HB := Lib.hid hb
    clear hb AW
    go_simp
    go_wp2_with fail
    go_ret
    exact ⟨rfl, HB.out⟩
  · have q : ¬ (4000 : Int) < (s.size : Int) := by omega
    have HTB := Lib.hid htb
    have HSZ := Lib.hid (show s.size ≤ 13000 by omega)
    clear htb hbig
    go_enter Tryd.func3, Tryd.ntmps3
    go_wp2_with fail
    refine AW.out.mono ?_
    rintro e w1 ⟨rfl, hb⟩
    have HB := Lib.hid hb
    have CR := Lib.hid (raw_below w1 s (HTB.out.below hb))
    have HTB1 := Lib.hid (HTB.out.below hb)
    clear hb AW
    go_simp
    go_wp2_with fail
    cases hs : rawF s with
    | error f =>
      have hc := rawF_coded s f hs
      obtain ⟨fa, fc⟩ := f
      simp only at hc
      have q1 : ¬ (fc : Int) = 0 := by omega
      have q2 : ((fc : Int) != 0) = true := by simpa using hc
      rw [hs] at CR
      clear hs hc
      refine CR.out.mono ?_
      rintro e w2 ⟨rfl, k2⟩
      have K2 := Lib.hid k2.toBelow
      clear k2 CR
      go_simp
      go_wp2_with fail
      go_ret
      exact ⟨rfl, (HB.out.trans (K2.out.mono HB.out.size)).alloc (Nat.le_trans HB.out.size K2.out.size) _⟩
    | ok l =>
      obtain ⟨hsz, m, hm, hkt⟩ := raw_show hs HSZ.out
      have hok := rawF_ok hs
      rw [hs] at CR
      have HKT := Lib.hid hkt
      have hlen := kt_len hkt
      clear hs
      refine CR.out.mono ?_
      rintro e w2 ⟨v, rfl, o2, k2, x2⟩
      have hb2 := k2.toBelow
      have K2 := Lib.hid hb2
      have HTB2 := Lib.hid (HTB1.out.below hb2)
      have hb3 := (Below.refl w2.heap.size w2).alloc (Nat.le_refl _) (.cells #[.int .i64 0, .int .i64 0] 26)
      have HB3 := Lib.hid hb3
      have hs3 := hb3.size
      have SH := Lib.hid (show_any l m v _ (HTB2.out.below hb3) (row_keep o2 hb3) hm hkt (by omega) hsz (fun t ht => by
        have h1 := hok.2.1
        obtain ⟨a1, a2, a3, a4⟩ := hok.2.2 t ht
        exact ⟨a4, by omega⟩))
      have CM := Lib.hid (fun W (hb : Below w2.heap.size w2 W) => hm ▸ raw_below W (showF l) (HTB2.out.below hb))
      obtain ⟨la, lc, rfl⟩ := row_len o2
      have O2 := Lib.hid o2
      have hln1 := hok.1
      clear CR k2 x2 o2 hb2 hb3 hm hkt hok hsz
      generalize hln : l.length = n at *
      have HLN := Lib.hid hln
      have HLM := Lib.hid hlen
      clear hln hlen
      go_simp
      go_wp2_with fail
      generalize w2.alloc (.cells #[.int .i64 0, .int .i64 0] 26) = W at *
      refine SH.out.mono ?_
      rintro e w4 ⟨rfl, hb4⟩
      have hb4' := HB3.out.trans (hb4.mono hs3)
      have HB4 := Lib.hid hb4'
      have CM4 := Lib.hid (CM.out _ hb4')
      have hs4 := hb4'.size
      clear hb4 hb4' SH CM
      go_simp
      go_wp2_with fail
      refine CM4.out.mono ?_
      rintro e w5 ⟨v5, rfl, o5, k5, x5⟩
      have hb5 := k5.toBelow
      have HB5 := Lib.hid (HB4.out.trans (hb5.mono hs4))
      rw [HLM.out] at o5
      obtain ⟨ma, mc, rfl⟩ := row_len o5
      have O5 := Lib.hid o5
      have OL := Lib.hid (row_keep O2.out HB5.out)
      clear CM4 k5 x5 o5 hb5
      go_simp
      go_wp2_with fail
      have hb6 := HB5.out.alloc (HB5.out.size) (.cells #[.int .i64 0, .int .i64 0] 26)
      have hb7 := (Below.refl w5.heap.size w5).alloc (Nat.le_refl _) (.cells #[.int .i64 0, .int .i64 0] 26)
      have HB6 := Lib.hid hb6
      have O6 := Lib.hid (row_keep O5.out hb7)
      have OL6 := Lib.hid (row_keep OL.out hb7)
      clear hb6 hb7
      generalize w5.alloc (.cells #[.int .i64 0, .int .i64 0] 26) = W6 at *
      go_loopg [55] n (fun gh s55 wr => ∃ k : Nat, k + gh = n ∧ .int .i64 (k : Int) = s55 ∧ Below W6.heap.size W6 wr)
      case atStart => exact ⟨0, by omega, rfl, Below.refl _ _⟩
      case round =>
        obtain ⟨k, hk, rfl, hbl⟩ := hrel
        have HBL := Lib.hid hbl
        by_cases hlt : k < n
        · obtain ⟨g', rfl⟩ : ∃ g', gk = g' + 1 := ⟨gk - 1, by omega⟩
          obtain ⟨a, b, ha, hb, e1, e2⟩ := kt_get HKT.out (k := k) (by rw [HLN.out]; exact hlt)
          obtain ⟨tk, tx, ta, tl, tc⟩ := a
          obtain ⟨tk', tx', ta', tl', tc'⟩ := b
          simp only at e1 e2
          subst e1 e2
          have o3 := row_keep O6.out hbl
          have o4 := row_keep OL6.out hbl
          obtain ⟨gm, cm, hvm, _, hgm⟩ := O6.out.form (by omega)
          obtain ⟨gl, cl, hvl, _, hgl⟩ := OL6.out.form (by omega)
          injection hvm with hvm1 hvm2 hvm3
          injection hvl with hvl1 hvl2 hvl3
          subst hvm1 hvm3 hvl1 hvl3
          have k0 : wr.cell? ⟨gm, k * 5, none⟩ = some (.int .i64 tk) := by rw [o3.cellAt _ (by omega)]; exact tcs_get m k 0 _ ha (by omega)
          have k1 : wr.cell? ⟨gm, k * 5 + 1, none⟩ = some (.string tx) := by rw [o3.cellAt _ (by omega), tcs_get m k 1 _ ha (by omega)]; rfl
          have j0 : wr.cell? ⟨gl, k * 5, none⟩ = some (.int .i64 tk) := by rw [o4.cellAt _ (by omega)]; exact tcs_get l k 0 _ hb (by omega)
          have j1 : wr.cell? ⟨gl, k * 5 + 1, none⟩ = some (.string tx) := by rw [o4.cellAt _ (by omega), tcs_get l k 1 _ hb (by omega)]; rfl
          have q1 : (k : Int) < (n : Int) := by omega
          have e0 : ((tk : Int) != (tk : Int)) = false := by simp
          clear o3 o4 ha hb hbl
          go_wp2_with fail
          go_quiet (fail)
          go_wp2_with fail
          go_roundg g'
          case rel => exact ⟨k + 1, by omega, by go_num, drewN_below HBL.out _⟩
          case measure => omega
        · have hkn : k = n := by omega
          subst hkn
          clear hbl
          go_wp2_with fail
          go_ret
          exact ⟨rfl, (HB.out.trans (K2.out.mono HB.out.size)).trans ((HB6.out.trans (HBL.out.mono HB6.out.size)).mono (Nat.le_trans HB.out.size K2.out.size))⟩
end Go.Proofs.YtpgcklpcohcchaaDoor
