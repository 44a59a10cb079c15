/- Canonical forms of tokens, and how the reader reads them. -/
import Derived.Test.YtpgcklpcohcchaaDoorP7
namespace Go.Proofs.YtpgcklpcohcchaaDoor
open Go Go.RowKit

/-- A digit 0 to 9, a to f. -/
def hexD (n : Nat) : UInt8 := if n < 10 then UInt8.ofNat (48 + n) else UInt8.ofNat (87 + n)
/-- The escape of a byte by its number. -/
def numB (b : UInt8) : List UInt8 := [92, 120, hexD (b.toNat / 16), hexD (b.toNat % 16)]
def escB1 (sl nu : List UInt8) (b : UInt8) : List UInt8 :=
  if b = 10 then [92, 110] else if b = 9 then [92, 116] else if b = 92 ∨ b ∈ sl then [92, b] else if b.toNat < 32 ∨ 126 < b.toNat ∨ b ∈ nu then numB b else [b]
def escB (sl nu : List UInt8) : List UInt8 → List UInt8
  | [] => []
  | b :: l => escB1 sl nu b ++ escB sl nu l
def partB (u : Nat) : List UInt8 → List UInt8
  | [] => []
  | b :: l => if (u = 0 ∨ u = 1) ∧ inW b = true then numB b ++ escB [34, 36] [] l else escB [34, 36] [] (b :: l)
/-- The canonical form of a token behind one of the kind u. -/
def canB (u : Nat) (t : Tok) : List UInt8 :=
  if t.kind = 0 ∨ t.kind = 1 then (if u = 9 then 36 :: t.text.data.toList else t.text.data.toList)
  else if t.kind = 5 then t.text.data.toList ++ [76]
  else if t.kind = 6 then 39 :: escB [39] [123] t.text.data.toList ++ [39]
  else if t.kind = 7 then 34 :: escB [34] [] t.text.data.toList ++ [34]
  else if t.kind = 8 then t.text.data.toList ++ [34]
  else if t.kind = 9 then partB u t.text.data.toList
  else if t.kind = 10 then [34]
  else t.text.data.toList

/-- The text S has these bytes at q. -/
def At (S : ByteArray) (q : Nat) (l : List UInt8) : Prop := ∀ i b, l[i]? = some b → pk S (q + i) = b ∧ q + i < S.size
theorem At.nil (S : ByteArray) (q : Nat) : At S q [] := fun i b h => by simp at h
theorem At.cons {S : ByteArray} {q : Nat} {b : UInt8} {l : List UInt8} (h : At S q (b :: l)) : pk S q = b ∧ q < S.size ∧ At S (q + 1) l := by
  refine ⟨(h 0 b rfl).1, (h 0 b rfl).2, fun i c hc => ?_⟩
  have := h (i + 1) c (by simpa using hc)
  rw [show q + 1 + i = q + (i + 1) by omega]
  exact this
theorem At.app {S : ByteArray} {q : Nat} {a b : List UInt8} (h : At S q (a ++ b)) : At S q a ∧ At S (q + a.length) b := by
  refine ⟨fun i c hc => ?_, fun i c hc => ?_⟩
  · have hi := (List.getElem?_eq_some_iff.1 hc).1
    exact h i c (by rw [List.getElem?_append_left hi]; exact hc)
  · have := h (a.length + i) c (by rw [List.getElem?_append_right (by omega)]; simpa using hc)
    rw [show q + a.length + i = q + (a.length + i) by omega]
    exact this
theorem At.le {S : ByteArray} {q : Nat} {l : List UInt8} (h : At S q l) (hq : q ≤ S.size) : q + l.length ≤ S.size := by
  cases hl : l.length with
  | zero => omega
  | succ n =>
    have := h n (l[n]'(by omega)) (List.getElem?_eq_getElem _)
    omega
theorem At.get {S : ByteArray} {q i : Nat} {l : List UInt8} (h : At S q l) (hi : i < l.length) : pk S (q + i) = l[i] := (h i _ (List.getElem?_eq_getElem hi)).1

theorem ext_at {S tx : ByteArray} {q : Nat} (hq : q ≤ S.size) (h : At S q tx.data.toList) : S.extract q (q + tx.size) = tx := by
  have hle := h.le hq
  have hl : tx.data.toList.length = tx.size := by simp
  apply ByteArray.ext
  apply Array.ext
  · have h1 : (S.extract q (q + tx.size)).size = min (q + tx.size) S.size - q := ByteArray.size_extract
    show (S.extract q (q + tx.size)).size = tx.size
    omega
  · intro i h1 h2
    have h1' : i < (S.extract q (q + tx.size)).size := h1
    have h2' : i < tx.size := h2
    show (S.extract q (q + tx.size))[i] = tx[i]
    have hg := h i tx[i] (by rw [List.getElem?_eq_getElem (show i < tx.data.toList.length by omega)]; simp; rfl)
    rw [ByteArray.getElem_extract]
    rw [pk_lt hg.2] at hg
    exact hg.1

theorem hexV_hexD : ∀ n : Fin 16, hexV (hexD n.val) = some (UInt8.ofNat n.val) ∧ 32 ≤ (hexD n.val).toNat := by decide +kernel
theorem hexF_at {S : ByteArray} {lit tok q n : Nat} (hn : n < 16) (h : pk S q = hexD n) : hexF S lit tok q = .ok (UInt8.ofNat n, q + 1) := by
  have := hexV_hexD ⟨n, hn⟩
  simp only at this
  unfold hexF nextF
  rw [h, if_neg (by omega)]
  simp only
  unfold hexEnd
  rw [this.1]

theorem escF_num {S : ByteArray} {lit tok q : Nat} {b : UInt8} (h : At S q (numB b)) : escF S lit tok (q + 1) = .ok (b, q + 4) := by
  unfold numB at h
  obtain ⟨_, _, h1⟩ := h.cons
  obtain ⟨g1, _, h2⟩ := h1.cons
  obtain ⟨g2, _, h3⟩ := h2.cons
  obtain ⟨g3, _, _⟩ := h3.cons
  have hb := b.toNat_lt
  have e : UInt8.ofNat ((UInt8.ofNat (b.toNat / 16)).toNat * 16 + (UInt8.ofNat (b.toNat % 16)).toNat) = b := by
    apply UInt8.toNat_inj.mp
    simp
    omega
  unfold escF nextF
  rw [g1, if_neg (by decide)]
  simp only
  unfold escEnd
  rw [if_neg (by decide), if_neg (by decide), if_neg (by decide), if_pos rfl]
  unfold hexTwo
  rw [hexF_at (by omega) g2]
  simp only
  rw [hexF_at (by omega) g3]
  simp only
  rw [e]

/-- One character, by its canonical form. -/
theorem char_lex {S : ByteArray} {lit tok q f : Nat} {a b c : UInt8} {sl nu acc : List UInt8} (hsl : ∀ x ∈ sl, x = 39 ∨ x = 34 ∨ x = 36) (ha : a ∈ sl) (hb : b ∈ sl) (h : At S q (escB1 sl nu c)) :
    charsF S lit tok a b (f + 1) q acc = charsF S lit tok a b f (q + (escB1 sl nu c).length) (acc ++ [c]) := by
  have hab : ∀ x : UInt8, x = 92 → ¬ (x = a ∨ x = b) := by
    intro x hx e
    subst hx
    rcases e with e | e
    · have := hsl a ha; rw [← e] at this; revert this; decide
    · have := hsl b hb; rw [← e] at this; revert this; decide
  have step : ∀ (v : UInt8) (k2 : Nat), pk S q = 92 → escF S lit tok (q + 1) = .ok (v, k2) → charsF S lit tok a b (f + 1) q acc = charsF S lit tok a b f k2 (acc ++ [v]) := by
    intro v k2 h1 h2
    conv => lhs; unfold charsF
    rw [h1, if_neg (hab 92 rfl)]
    unfold nextF
    rw [h1, if_neg (by decide)]
    simp only [h2, if_true]
  unfold escB1 at h ⊢
  split at h
  · rename_i hc
    rw [if_pos hc]
    obtain ⟨g0, _, h1⟩ := h.cons
    obtain ⟨g1, _, _⟩ := h1.cons
    rw [step 10 (q + 2) g0 (by unfold escF nextF; rw [g1, if_neg (by decide)]; simp only; unfold escEnd; rw [if_pos rfl]), hc]
    rfl
  · rename_i hc
    rw [if_neg hc]
    split at h
    · rename_i hc
      rw [if_pos hc]
      obtain ⟨g0, _, h1⟩ := h.cons
      obtain ⟨g1, _, _⟩ := h1.cons
      rw [step 9 (q + 2) g0 (by unfold escF nextF; rw [g1, if_neg (by decide)]; simp only; unfold escEnd; rw [if_neg (by decide), if_pos rfl]), hc]
      rfl
    · rename_i hc
      rw [if_neg hc]
      split at h
      · rename_i hc
        rw [if_pos hc]
        obtain ⟨g0, _, h1⟩ := h.cons
        obtain ⟨g1, _, _⟩ := h1.cons
        have hcs : c = 92 ∨ c = 39 ∨ c = 34 ∨ c = 36 := hc.elim .inl (fun h => .inr (hsl c h))
        have e : escF S lit tok (q + 1) = .ok (c, q + 2) := by
          unfold escF nextF
          rw [g1]
          rcases hcs with rfl | rfl | rfl | rfl <;> rfl
        rw [step c (q + 2) g0 e]
        rfl
      · rename_i hc
        rw [if_neg hc]
        split at h
        · rename_i hn
          rw [if_pos hn]
          have g0 : pk S q = 92 := (At.cons h).1
          rw [step c (q + 4) g0 (escF_num h)]
          rfl
        · rename_i hn
          rw [if_neg hn]
          obtain ⟨g0, _, _⟩ := h.cons
          have hca : ¬ (c = a ∨ c = b) := by
            rintro (e | e)
            · exact hc (.inr (by rw [e]; exact ha))
            · exact hc (.inr (by rw [e]; exact hb))
          conv => lhs; unfold charsF
          rw [g0, if_neg hca]
          unfold nextF
          rw [g0, if_neg (fun h => hn (.inl h))]
          simp only [if_neg (show ¬ c = 92 from fun e => hc (.inl e))]
          rfl

theorem escB1_pos (sl nu : List UInt8) (c : UInt8) : 1 ≤ (escB1 sl nu c).length ∧ (escB1 sl nu c).length ≤ 4 := by
  unfold escB1 numB
  split
  · simp
  · split
    · simp
    · split
      · simp
      · split <;> simp

/-- Characters, by their canonical forms. -/
theorem chars_lex {S : ByteArray} {lit tok : Nat} {a b : UInt8} {sl nu : List UInt8} (hsl : ∀ x ∈ sl, x = 39 ∨ x = 34 ∨ x = 36) (ha : a ∈ sl) (hb : b ∈ sl) : ∀ (o : List UInt8) (q f : Nat) (acc : List UInt8), At S q (escB sl nu o) → o.length ≤ f →
    charsF S lit tok a b f q acc = charsF S lit tok a b (f - o.length) (q + (escB sl nu o).length) (acc ++ o) := by
  intro o
  induction o with
  | nil => intro q f acc h hf; simp [escB]
  | cons c o ih =>
    intro q f acc h hf
    simp only [escB] at h ⊢
    obtain ⟨h1, h2⟩ := h.app
    simp only [List.length_cons] at hf
    obtain ⟨g, rfl⟩ : ∃ g, f = g + 1 := ⟨f - 1, by omega⟩
    rw [char_lex hsl ha hb h1, ih _ g _ h2 (by omega)]
    simp only [List.length_append, List.length_cons, List.append_assoc, List.singleton_append]
    congr 1
    · omega
    · omega
theorem chars_stop {S : ByteArray} {lit tok q f : Nat} {a b : UInt8} {acc : List UInt8} (hf : 0 < f) (h : pk S q = a ∨ pk S q = b) : charsF S lit tok a b f q acc = .ok (acc, q) := by
  obtain ⟨g, rfl⟩ : ∃ g, f = g + 1 := ⟨f - 1, by omega⟩
  unfold charsF
  rw [if_pos h]
theorem escB_len (sl nu : List UInt8) : ∀ o : List UInt8, o.length ≤ (escB sl nu o).length ∧ (escB sl nu o).length ≤ 4 * o.length := by
  intro o
  induction o with
  | nil => simp [escB]
  | cons c o ih =>
    have := escB1_pos sl nu c
    simp only [escB, List.length_append, List.length_cons]
    omega

/-- A literal's characters and the byte that ends it. -/
theorem lit_lex {S : ByteArray} {lit tok q : Nat} {a b : UInt8} {sl nu o : List UInt8} (hsl : ∀ x ∈ sl, x = 39 ∨ x = 34 ∨ x = 36) (ha : a ∈ sl) (hb : b ∈ sl) (h : At S q (escB sl nu o)) (hq : q ≤ S.size) (he : pk S (q + (escB sl nu o).length) = a ∨ pk S (q + (escB sl nu o).length) = b) :
    charsF S lit tok a b (S.size + 1) q [] = .ok (o, q + (escB sl nu o).length) := by
  have h1 := (escB_len sl nu o).1
  have h2 := h.le hq
  rw [chars_lex hsl ha hb o q _ [] h (by omega), chars_stop (by omega) he]
  rfl

theorem partB_cons (u : Nat) (b : UInt8) (l : List UInt8) : partB u (b :: l) = if (u = 0 ∨ u = 1) ∧ inW b = true then numB b ++ escB [34, 36] [] l else escB [34, 36] [] (b :: l) := rfl
/-- The characters of a Part. -/
theorem part_lex {S : ByteArray} {lit tok q u : Nat} {o : List UInt8} (h : At S q (partB u o)) (hq : q ≤ S.size) (he : pk S (q + (partB u o).length) = 34 ∨ pk S (q + (partB u o).length) = 36) :
    charsF S lit tok 34 36 (S.size + 1) q [] = .ok (o, q + (partB u o).length) := by
  cases o with
  | nil => exact lit_lex (sl := [34, 36]) (nu := []) (o := []) (by decide) (by decide) (by decide) h hq he
  | cons c o =>
    rw [partB_cons] at h he ⊢
    by_cases hc : (u = 0 ∨ u = 1) ∧ inW c = true
    · rw [if_pos hc] at h he ⊢
      obtain ⟨h1, h2⟩ := h.app
      have hl : (numB c).length = 4 := rfl
      have g0 : pk S q = 92 := (At.cons h1).1
      have hle := h.le hq
      simp only [List.length_append, hl] at hle he ⊢
      have e1 : charsF S lit tok 34 36 (S.size + 1) q [] = charsF S lit tok 34 36 S.size (q + 4) [c] := by
        conv => lhs; unfold charsF
        rw [g0, if_neg (by decide)]
        unfold nextF
        rw [g0, if_neg (by decide)]
        simp only [escF_num h1, if_true, List.nil_append]
      have hel := (escB_len [34, 36] [] o).1
      rw [e1, chars_lex (sl := [34, 36]) (nu := []) (by decide) (by decide) (by decide) o (q + 4) _ [c] (by rw [hl] at h2; exact h2) (by omega), chars_stop (by omega) (by rw [show q + 4 + (escB [34, 36] [] o).length = q + (4 + (escB [34, 36] [] o).length) by omega]; exact he)]
      rw [show q + 4 + (escB [34, 36] [] o).length = q + (4 + (escB [34, 36] [] o).length) by omega]
      rfl
    · rw [if_neg hc] at h he ⊢
      exact lit_lex (sl := [34, 36]) (nu := []) (o := c :: o) (by decide) (by decide) (by decide) h hq he
end Go.Proofs.YtpgcklpcohcchaaDoor
namespace Go.Proofs.YtpgcklpcohcchaaDoor
open Go Go.RowKit

def kt (t : Tok) : Nat × ByteArray := (t.kind, t.text)
/-- What Show writes of these tokens behind one of the kind u. -/
def showB (u : Nat) : List Tok → List UInt8
  | [] => []
  | t :: n => (if u ≠ 8 ∧ u ≠ 9 ∧ t.kind ≠ 9 then [32] else []) ++ (canB u t ++ showB t.kind n)
theorem showB_nil (u : Nat) : showB u [] = [] := rfl
theorem showB_cons (u : Nat) (t : Tok) (n : List Tok) : showB u (t :: n) = (if u ≠ 8 ∧ u ≠ 9 ∧ t.kind ≠ 9 then [32] else []) ++ (canB u t ++ showB t.kind n) := rfl
theorem showB_start (t : Tok) (n : List Tok) : showB 8 (t :: n) = canB 8 t ++ showB t.kind n := by rw [showB_cons, if_neg (fun x => x.1 rfl)]; rfl
theorem showB_part (t : Tok) (n : List Tok) : showB 9 (t :: n) = canB 9 t ++ showB t.kind n := by rw [showB_cons, if_neg (fun x => x.2.1 rfl)]; rfl
theorem showB_apart (u : Nat) (t : Tok) (n : List Tok) (h : t.kind = 9) : showB u (t :: n) = canB u t ++ showB t.kind n := by rw [showB_cons, if_neg (fun x => x.2.2 h)]; rfl

/-- From r to r1 the reader adds the tokens n, which Show writes not much longer. -/
structure Src (u : Nat) (r r1 : RSt) (n : List Tok) : Prop where
  out : r1.out = r.out ++ n
  len : (showB u n).length + 4 * r.pos ≤ 4 * r1.pos
  good : ∀ b ∈ showB u n, badB b = false
/-- From R to R1 the reader adds what has the kinds and texts of n. -/
structure Dst (R R1 : RSt) (m : Nat) (n : List Tok) : Prop where
  pos : R1.pos = R.pos + m
  out : ∃ n', R1.out = R.out ++ n' ∧ n'.map kt = n.map kt
def Bnd (S : ByteArray) (e : Nat) : Prop := pk S e = 32 ∨ pk S e = 0

theorem Dst.add {S : ByteArray} {R : RSt} {kd q m : Nat} {tx : ByteArray} {t : Tok} (h1 : kd = t.kind) (h2 : tx = t.text) : Dst R (addF S kd tx q { R with pos := R.pos + m }) m [t] :=
  ⟨rfl, [⟨kd, tx, q, _, _⟩], rfl, by simp [kt, h1, h2]⟩
theorem Dst.trans {R R1 R2 : RSt} {m m' : Nat} {n n' : List Tok} (h : Dst R R1 m n) (k : Dst R1 R2 m' n') : Dst R R2 (m + m') (n ++ n') := by
  obtain ⟨a, ha, hb⟩ := h.out
  obtain ⟨b, hc, hd⟩ := k.out
  exact ⟨by rw [k.pos, h.pos]; omega, a ++ b, by rw [hc, ha, List.append_assoc], by rw [List.map_append, List.map_append, hb, hd]⟩

theorem wordTo_at {S : ByteArray} {q n : Nat} (hle : q + n ≤ S.size) (h : ∀ i, i < n → inW (pk S (q + i)) = true) (hb : inW (pk S (q + n)) = false) : wordTo S (S.size - q) q = q + n := by
  rw [wordTo_run]
  refine runTo_of _ _ _ (by omega) (by omega) (fun i h1 h2 => ?_) hb
  have := h (i - q) (by omega)
  rwa [show q + (i - q) = i by omega] at this
theorem numTo_at {S : ByteArray} {q n : Nat} (hle : q + n ≤ S.size) (h : ∀ i, i < n → cls (pk S (q + i)) = 2) (hb : cls (pk S (q + n)) ≠ 2) : numTo S (S.size - q) q = q + n := by
  rw [numTo_run]
  refine runTo_of _ _ _ (by omega) (by omega) (fun i h1 h2 => ?_) (by simpa using hb)
  have := h (i - q) (by omega)
  rw [show q + (i - q) = i by omega] at this
  simpa using this
theorem opTo_at {S : ByteArray} {q n : Nat} (hle : q + n ≤ S.size) (h : ∀ i, i < n → cls (pk S (q + i)) = 3 ∧ comB S (q + i) = false) (hb : cls (pk S (q + n)) ≠ 3) : opTo S (S.size - q) q = q + n := by
  rw [opTo_run]
  refine runTo_of _ _ _ (by omega) (by omega) (fun i h1 h2 => ?_) (by simpa using fun h => absurd h hb)
  have := h (i - q) (by omega)
  rw [show q + (i - q) = i by omega] at this
  simpa using this

theorem ext_size {s : ByteArray} {a k : Nat} (hk : k ≤ s.size) : (s.extract a k).size = k - a := by
  rw [ByteArray.size_extract]; omega
theorem ext_list {s : ByteArray} {a k : Nat} (hk : k ≤ s.size) : (s.extract a k).data.toList.length = k - a := by
  rw [← ext_size hk (a := a)]
  exact Array.length_toList
theorem ext_get {s : ByteArray} {a k i : Nat} (hk : k ≤ s.size) (hi : i < k - a) : (s.extract a k).data.toList[i]? = some (pk s (a + i)) := by
  have hs := ext_size (s := s) (a := a) hk
  have hl := ext_list (s := s) (a := a) hk
  rw [List.getElem?_eq_getElem (by omega)]
  congr 1
  rw [pk_lt (show a + i < s.size by omega)]
  have e : (s.extract a k)[i]'(by omega) = s[a + i]'(by omega) := ByteArray.getElem_extract _
  rw [← e]
  rfl
theorem At.ext {s S : ByteArray} {a k q : Nat} (h : At S q (s.extract a k).data.toList) (hk : k ≤ s.size) {i : Nat} (hi : i < k - a) : pk S (q + i) = pk s (a + i) ∧ q + i < S.size := h i _ (ext_get hk hi)
theorem At.ext_eq {s S : ByteArray} {a k q : Nat} (h : At S q (s.extract a k).data.toList) (hk : k ≤ s.size) (hq : q ≤ S.size) : S.extract q (q + (k - a)) = s.extract a k := by
  have := ext_at hq h
  rwa [ext_size hk] at this
theorem ext_good {s : ByteArray} {a k : Nat} (hk : k ≤ s.size) (hg : ∀ i, i < s.size → badB (pk s i) = false) : ∀ b ∈ (s.extract a k).data.toList, badB b = false := by
  intro b hb
  obtain ⟨i, hi, rfl⟩ := List.getElem_of_mem hb
  have hl := ext_list (s := s) (a := a) hk
  have := ext_get (s := s) (a := a) hk (i := i) (by omega)
  rw [List.getElem?_eq_getElem hi] at this
  injection this with this
  rw [this]
  exact hg _ (by omega)

theorem wordTo_in {s : ByteArray} {a : Nat} (ha : a ≤ s.size) (hc : cls (pk s a) = 1) : wordTo s (s.size - a) a ≤ s.size ∧ a < wordTo s (s.size - a) a ∧ ∀ i, i < wordTo s (s.size - a) a - a → inW (pk s (a + i)) = true := by
  have hlt := cls_pk_lt1 hc
  have hle := wordTo_le s (s.size - a) a ha
  refine ⟨hle.1, ?_, fun i hi => ?_⟩
  · obtain ⟨m, hm⟩ : ∃ m, s.size - a = m + 1 := ⟨s.size - a - 1, by omega⟩
    rw [hm]
    unfold wordTo
    rw [if_pos (by simp [inW, hc])]
    have := (wordTo_le s m (a + 1) (by omega)).2
    omega
  · rw [wordTo_run] at hi
    exact runTo_all (P := fun i => inW (pk s i)) (s.size - a) a _ (by omega) (by omega)
theorem Bnd.inW {S : ByteArray} {e : Nat} (h : Bnd S e) : inW (pk S e) = false := by rcases h with h | h <;> rw [h] <;> decide +kernel
theorem Bnd.not34 {S : ByteArray} {e : Nat} {P : Prop} (h : Bnd S e) : ¬ (P ∧ pk S e = 34) := by rintro ⟨_, h'⟩; rcases h with h | h <;> rw [h] at h' <;> revert h' <;> decide
theorem Bnd.cls {S : ByteArray} {e : Nat} (h : Bnd S e)  : cls (pk S e) ≠ 1 ∧ cls (pk S e) ≠ 2 ∧ cls (pk S e) ≠ 3 := (by rcases h with h | h <;> rw [h] <;> decide +kernel)

theorem canB_plain {u : Nat} {t : Tok} (h : ((t.kind = 0 ∨ t.kind = 1) ∧ u ≠ 9) ∨ t.kind = 2 ∨ t.kind = 3 ∨ t.kind = 4) : canB u t = t.text.data.toList := by
  unfold canB
  rcases h with ⟨h, hu⟩ | h | h | h
  · rw [if_pos h, if_neg hu]
  all_goals simp [h]

/-- A word that begins no interpolated string. -/
theorem word_show {s : ByteArray} {r r1 : RSt} {kd : Nat} (hr : r.pos ≤ s.size) (hg : ∀ i, i < s.size → badB (pk s i) = false) (hc : cls (pk s r.pos) = 1) (hk : wkF (s.extract r.pos (wordTo s (s.size - r.pos) r.pos)) = some kd)
    (h : r1 = addF s kd (s.extract r.pos (wordTo s (s.size - r.pos) r.pos)) r.pos { r with pos := wordTo s (s.size - r.pos) r.pos }) :
    ∃ n, Src 8 r r1 n ∧ ∀ S R BS, R.pos ≤ S.size → At S R.pos (showB 8 n) → Bnd S (R.pos + (showB 8 n).length) → pk S R.pos = pk s r.pos ∧ ∃ R1, wordF S R BS = .ok (R1, BS) ∧ Dst R R1 (showB 8 n).length n := by
  subst h
  obtain ⟨h1, h2, h3⟩ := wordTo_in hr hc
  have hkd := wkF_le hk
  generalize hkk : wordTo s (s.size - r.pos) r.pos = k at *
  have hcan : ∀ t : Tok, t.kind = kd → canB 8 t = t.text.data.toList := fun t ht => canB_plain (by omega)
  have hl := ext_list (s := s) (a := r.pos) h1
  refine ⟨[⟨kd, s.extract r.pos k, r.pos, _, _⟩], ⟨rfl, ?_, ?_⟩, ?_⟩
  · rw [showB_start, showB_nil, hcan _ rfl, List.append_nil, hl]
    show _ ≤ 4 * k
    omega
  · rw [showB_start, showB_nil, hcan _ rfl, List.append_nil]
    exact ext_good h1 hg
  · intro S R BS hR hA hB
    rw [showB_start, showB_nil, hcan _ rfl, List.append_nil] at hA hB ⊢
    simp only [hl] at hB ⊢
    have ha : ∀ i, i < k - r.pos → pk S (R.pos + i) = pk s (r.pos + i) ∧ R.pos + i < S.size := fun i hi => At.ext hA h1 hi
    have hle := hA.le hR
    rw [hl] at hle
    refine ⟨(ha 0 (by omega)).1, ?_⟩
    have hw := wordTo_at hle (fun i hi => by rw [(ha i hi).1]; exact h3 i hi) hB.inW
    unfold wordF
    rw [hw, At.ext_eq hA h1 hR]
    unfold wordEnd
    rw [hk]
    simp only
    rw [if_neg hB.not34]
    exact ⟨_, rfl, Dst.add rfl rfl⟩
end Go.Proofs.YtpgcklpcohcchaaDoor
namespace Go.Proofs.YtpgcklpcohcchaaDoor
open Go Go.RowKit

theorem numTo_in {s : ByteArray} {a : Nat} (ha : a ≤ s.size) (hc : cls (pk s a) = 2) : numTo s (s.size - a) a ≤ s.size ∧ a < numTo s (s.size - a) a ∧ ∀ i, i < numTo s (s.size - a) a - a → cls (pk s (a + i)) = 2 := by
  have hlt := cls_pk_lt2 hc
  have hle := numTo_le s (s.size - a) a ha
  refine ⟨hle.1, ?_, fun i hi => ?_⟩
  · obtain ⟨m, hm⟩ : ∃ m, s.size - a = m + 1 := ⟨s.size - a - 1, by omega⟩
    rw [hm]
    unfold numTo
    rw [if_pos hc]
    have := (numTo_le s m (a + 1) (by omega)).2
    omega
  · rw [numTo_run] at hi
    simpa using runTo_all (P := fun i => decide (cls (pk s i) = 2)) (s.size - a) a (a + i) (by omega) (by omega)

theorem numFin_ok {s dg : ByteArray} {k kd : Nat} {most : List UInt8} {r r1 : RSt} (h : numFin s dg k kd most r = .ok r1) : r1 = addF s kd dg r.pos { r with pos := k } ∧ ∀ S K R, inW (pk S K) = false → numFin S dg K kd most R = .ok (addF S kd dg R.pos { R with pos := K }) := by
  unfold numFin at h
  split at h
  · cases h
  · rename_i h1
    split at h
    · cases h
    · rename_i h2
      injection h with h
      refine ⟨h.symm, fun S K R hK => ?_⟩
      unfold numFin
      have h1' : ¬ ((1 < dg.size ∧ pk dg 0 = 48) ∨ inW (pk S K) = true) := by
        rintro (e | e)
        · exact h1 (.inl e)
        · rw [hK] at e
          cases e
      rw [if_neg h1', if_neg h2]

theorem num_show {s : ByteArray} {r r1 : RSt} (hr : r.pos ≤ s.size) (hr1 : r1.pos ≤ s.size) (hg : ∀ i, i < s.size → badB (pk s i) = false) (hc : cls (pk s r.pos) = 2) (h : numF s r = .ok r1) :
    ∃ n, Src 8 r r1 n ∧ ∀ S R, R.pos ≤ S.size → At S R.pos (showB 8 n) → Bnd S (R.pos + (showB 8 n).length) → pk S R.pos = pk s r.pos ∧ ∃ R1, numF S R = .ok R1 ∧ Dst R R1 (showB 8 n).length n := by
  obtain ⟨h1, h2, h3⟩ := numTo_in hr hc
  unfold numF at h
  generalize hkk : numTo s (s.size - r.pos) r.pos = k at *
  have hl := ext_list (s := s) (a := r.pos) h1
  unfold numEnd at h
  split at h
  · rename_i h76
    obtain ⟨e, hF⟩ := numFin_ok h
    subst e
    have hcan : ∀ t : Tok, t.kind = 5 → canB 8 t = t.text.data.toList ++ [76] := fun t ht => by unfold canB; simp [ht]
    refine ⟨[⟨5, s.extract r.pos k, r.pos, _, _⟩], ⟨rfl, ?_, ?_⟩, ?_⟩
    · rw [showB_start, showB_nil, hcan _ rfl, List.append_nil, List.length_append, hl]
      show k - r.pos + 1 + 4 * r.pos ≤ 4 * (k + 1)
      omega
    · rw [showB_start, showB_nil, hcan _ rfl, List.append_nil]
      intro b hb
      rcases List.mem_append.1 hb with hb | hb
      · exact ext_good h1 hg b hb
      · rw [List.mem_singleton.1 hb]; decide
    · intro S R hR hA hB
      rw [showB_start, showB_nil, hcan _ rfl, List.append_nil] at hA hB ⊢
      obtain ⟨hA1, hA2⟩ := hA.app
      simp only [List.length_append, hl, List.length_singleton] at hB hA2 ⊢
      have g76 := hA2.cons
      have ha : ∀ i, i < k - r.pos → pk S (R.pos + i) = pk s (r.pos + i) ∧ R.pos + i < S.size := fun i hi => At.ext hA1 h1 hi
      have hle := hA1.le hR
      rw [hl] at hle
      refine ⟨(ha 0 (by omega)).1, ?_⟩
      have hw := numTo_at hle (fun i hi => by rw [(ha i hi).1]; exact h3 i hi) (by rw [g76.1]; decide +kernel)
      unfold numF
      rw [hw]
      unfold numEnd
      rw [if_pos g76.1, At.ext_eq hA1 h1 hR, show R.pos + (k - r.pos) + 1 = R.pos + (k - r.pos + 1) by omega, hF S _ R hB.inW]
      exact ⟨_, rfl, Dst.add rfl rfl⟩
  · obtain ⟨e, hF⟩ := numFin_ok h
    subst e
    have hcan : ∀ t : Tok, t.kind = 4 → canB 8 t = t.text.data.toList := fun t ht => canB_plain (by omega)
    refine ⟨[⟨4, s.extract r.pos k, r.pos, _, _⟩], ⟨rfl, ?_, ?_⟩, ?_⟩
    · rw [showB_start, showB_nil, hcan _ rfl, List.append_nil, hl]
      show _ ≤ 4 * k
      omega
    · rw [showB_start, showB_nil, hcan _ rfl, List.append_nil]
      exact ext_good h1 hg
    · intro S R hR hA hB
      rw [showB_start, showB_nil, hcan _ rfl, List.append_nil] at hA hB ⊢
      simp only [hl] at hB ⊢
      have ha : ∀ i, i < k - r.pos → pk S (R.pos + i) = pk s (r.pos + i) ∧ R.pos + i < S.size := fun i hi => At.ext hA h1 hi
      have hle := hA.le hR
      rw [hl] at hle
      refine ⟨(ha 0 (by omega)).1, ?_⟩
      have hw := numTo_at hle (fun i hi => by rw [(ha i hi).1]; exact h3 i hi) hB.cls.2.1
      unfold numF
      rw [hw]
      unfold numEnd
      rw [if_neg (by rcases hB with e | e <;> rw [e] <;> decide), At.ext_eq hA h1 hR, hF S _ R hB.inW]
      exact ⟨_, rfl, Dst.add rfl rfl⟩

theorem opTo_in {s : ByteArray} {a : Nat} (ha : a ≤ s.size) (hc : cls (pk s a) = 3) (hm : comB s a = false) : opTo s (s.size - a) a ≤ s.size ∧ a < opTo s (s.size - a) a ∧ ∀ i, i < opTo s (s.size - a) a - a → cls (pk s (a + i)) = 3 ∧ comB s (a + i) = false := by
  have hlt := cls_pk_lt hc
  have hle := opTo_le s (s.size - a) a ha
  refine ⟨hle.1, ?_, fun i hi => ?_⟩
  · obtain ⟨m, hm'⟩ : ∃ m, s.size - a = m + 1 := ⟨s.size - a - 1, by omega⟩
    rw [hm']
    unfold opTo
    rw [if_pos ⟨hc, hm⟩]
    have := (opTo_le s m (a + 1) (by omega)).2
    omega
  · rw [opTo_run] at hi
    simpa using runTo_all (P := fun i => decide (cls (pk s i) = 3 ∧ comB s i = false)) (s.size - a) a (a + i) (by omega) (by omega)

theorem opEnd_ok {s : ByteArray} {m : Nat} {r r1 : RSt} (h : opEnd s m r = .ok r1) : ∃ kd, (kd = 2 ∨ kd = 3) ∧ r1 = addF s kd (s.extract r.pos m) r.pos { r with pos := m } ∧ ∀ S M R, S.extract R.pos M = s.extract r.pos m → opEnd S M R = .ok (addF S kd (s.extract r.pos m) R.pos { R with pos := M }) := by
  unfold opEnd at h
  split at h
  · rename_i h1
    injection h with h
    refine ⟨3, .inr rfl, h.symm, fun S M R e => ?_⟩
    unfold opEnd
    rw [e, if_pos h1]
  · rename_i h1
    split at h
    · cases h
    · rename_i h2
      injection h with h
      refine ⟨2, .inl rfl, h.symm, fun S M R e => ?_⟩
      unfold opEnd
      rw [e, if_neg h1, if_neg h2]

theorem op_show {s : ByteArray} {r r1 : RSt} (hr : r.pos ≤ s.size) (hg : ∀ i, i < s.size → badB (pk s i) = false) (hc : cls (pk s r.pos) = 3) (hcm : comB s r.pos = false) (h : opF s r = .ok r1) :
    ∃ n, Src 8 r r1 n ∧ ∀ S R, R.pos ≤ S.size → At S R.pos (showB 8 n) → Bnd S (R.pos + (showB 8 n).length) → pk S R.pos = pk s r.pos ∧ comB S R.pos = false ∧ ∃ R1, opF S R = .ok R1 ∧ Dst R R1 (showB 8 n).length n := by
  obtain ⟨h1, h2, h3⟩ := opTo_in hr hc hcm
  unfold opF at h
  generalize hkk : opTo s (s.size - r.pos) r.pos = k at *
  have hl := ext_list (s := s) (a := r.pos) h1
  obtain ⟨kd, hkd, e, hF⟩ := opEnd_ok h
  subst e
  have hcan : ∀ t : Tok, t.kind = kd → canB 8 t = t.text.data.toList := fun t ht => canB_plain (by omega)
  refine ⟨[⟨kd, s.extract r.pos k, r.pos, _, _⟩], ⟨rfl, ?_, ?_⟩, ?_⟩
  · rw [showB_start, showB_nil, hcan _ rfl, List.append_nil, hl]
    show _ ≤ 4 * k
    omega
  · rw [showB_start, showB_nil, hcan _ rfl, List.append_nil]
    exact ext_good h1 hg
  · intro S R hR hA hB
    rw [showB_start, showB_nil, hcan _ rfl, List.append_nil] at hA hB ⊢
    simp only [hl] at hB ⊢
    have ha : ∀ i, i < k - r.pos → pk S (R.pos + i) = pk s (r.pos + i) ∧ R.pos + i < S.size := fun i hi => At.ext hA h1 hi
    have hle := hA.le hR
    rw [hl] at hle
    have hcb : ∀ i, i < k - r.pos → comB S (R.pos + i) = false := by
      intro i hi
      by_cases hi1 : i + 1 < k - r.pos
      · have g0 := (ha i hi).1
        have g1 := (ha (i + 1) hi1).1
        have := (h3 i hi).2
        unfold comB at this ⊢
        rw [show R.pos + i + 1 = R.pos + (i + 1) by omega, g0, g1, show r.pos + (i + 1) = r.pos + i + 1 by omega]
        exact this
      · unfold comB
        rw [show R.pos + i + 1 = R.pos + (k - r.pos) by omega]
        rcases hB with e | e <;> rw [e] <;> simp
    refine ⟨(ha 0 (by omega)).1, hcb 0 (by omega), ?_⟩
    have hw := opTo_at hle (fun i hi => ⟨by rw [(ha i hi).1]; exact (h3 i hi).1, hcb i hi⟩) hB.cls.2.2
    unfold opF
    rw [hw, hF S _ R (At.ext_eq hA h1 hR)]
    exact ⟨_, rfl, Dst.add rfl rfl⟩

/-- A mark of n bytes as it stands. -/
theorem mark_show {s : ByteArray} {r : RSt} {m : Nat} (hm : 1 ≤ m) (hr : r.pos + m ≤ s.size) (hg : ∀ i, i < s.size → badB (pk s i) = false) :
    (∃ n, n.map kt = [(3, s.extract r.pos (r.pos + m))] ∧ Src 8 r (markF s m r) n ∧ (showB 8 n).length = m ∧ Src 9 r (markF s m r) n ∧ showB 9 n = showB 8 n ∧ ∀ S R, R.pos ≤ S.size → At S R.pos (showB 8 n) → (∀ i, i < m → pk S (R.pos + i) = pk s (r.pos + i)) ∧ S.extract R.pos (R.pos + m) = s.extract r.pos (r.pos + m) ∧ Dst R (markF S m R) m n) := by
  have hl := ext_list (s := s) (a := r.pos) hr
  have hl' : (s.extract r.pos (r.pos + m)).data.toList.length = m := by omega
  have e8 : ∀ t : Tok, t.kind = 3 → showB 8 [t] = t.text.data.toList := fun t ht => by rw [showB_start, showB_nil, canB_plain (by omega), List.append_nil]
  have e9 : ∀ t : Tok, t.kind = 3 → showB 9 [t] = t.text.data.toList := fun t ht => by rw [showB_part, showB_nil, canB_plain (by omega), List.append_nil]
  refine ⟨[⟨3, s.extract r.pos (r.pos + m), r.pos, _, _⟩], rfl, ⟨rfl, ?_, ?_⟩, ?_, ⟨rfl, ?_, ?_⟩, ?_, ?_⟩
  · rw [e8 _ rfl, hl']; show _ ≤ 4 * (r.pos + m); omega
  · rw [e8 _ rfl]; exact ext_good hr hg
  · rw [e8 _ rfl, hl']
  · rw [e9 _ rfl, hl']; show _ ≤ 4 * (r.pos + m); omega
  · rw [e9 _ rfl]; exact ext_good hr hg
  · rw [e8 _ rfl, e9 _ rfl]
  · intro S R hR hA
    rw [e8 _ rfl] at hA
    have ha : ∀ i, i < m → pk S (R.pos + i) = pk s (r.pos + i) ∧ R.pos + i < S.size := fun i hi => At.ext hA hr (by omega)
    have he := At.ext_eq hA hr hR
    rw [show r.pos + m - r.pos = m by omega] at he
    refine ⟨fun i hi => (ha i hi).1, he, ?_⟩
    unfold markF
    rw [he]
    exact Dst.add rfl rfl
end Go.Proofs.YtpgcklpcohcchaaDoor
namespace Go.Proofs.YtpgcklpcohcchaaDoor
open Go Go.RowKit

theorem hexD_good : ∀ n : Fin 16, badB (hexD n.val) = false := by decide +kernel
theorem numB_good (b : UInt8) : ∀ x ∈ numB b, badB x = false := by
  intro x hx
  have hb := b.toNat_lt
  unfold numB at hx
  simp only [List.mem_cons, List.not_mem_nil, or_false] at hx
  rcases hx with rfl | rfl | rfl | rfl
  · decide
  · decide
  · exact hexD_good ⟨b.toNat / 16, by omega⟩
  · exact hexD_good ⟨b.toNat % 16, by omega⟩
theorem escB1_good {sl nu : List UInt8} (hsl : ∀ x ∈ sl, x = 39 ∨ x = 34 ∨ x = 36) (c : UInt8) : ∀ x ∈ escB1 sl nu c, badB x = false := by
  unfold escB1
  split
  · decide
  · split
    · decide
    · split
      · rename_i h
        intro x hx
        simp only [List.mem_cons, List.not_mem_nil, or_false] at hx
        rcases hx with rfl | rfl
        · decide
        · rcases h with rfl | h
          · decide
          · rcases hsl x h with rfl | rfl | rfl <;> decide
      · split
        · exact numB_good c
        · rename_i h
          intro x hx
          rw [List.mem_singleton.1 hx]
          unfold badB
          have : ¬ c.toNat < 32 := fun e => h (.inl e)
          have : ¬ 126 < c.toNat := fun e => h (.inr (.inl e))
          simp [*]
theorem escB_good {sl nu : List UInt8} (hsl : ∀ x ∈ sl, x = 39 ∨ x = 34 ∨ x = 36) : ∀ o : List UInt8, ∀ x ∈ escB sl nu o, badB x = false := by
  intro o
  induction o with
  | nil => intro x hx; simp [escB] at hx
  | cons c o ih =>
    intro x hx
    rcases List.mem_append.1 hx with hx | hx
    · exact escB1_good hsl c x hx
    · exact ih x hx
theorem partB_good (u : Nat) (o : List UInt8) : ∀ x ∈ partB u o, badB x = false := by
  have hsl : ∀ x ∈ ([34, 36] : List UInt8), x = 39 ∨ x = 34 ∨ x = 36 := by decide
  cases o with
  | nil => intro x hx; simp [partB] at hx
  | cons c o =>
    rw [partB_cons]
    split
    · intro x hx
      rcases List.mem_append.1 hx with hx | hx
      · exact numB_good c x hx
      · exact escB_good hsl o x hx
    · exact escB_good hsl (c :: o)
theorem partB_len (u : Nat) (o : List UInt8) : (partB u o).length ≤ 4 * o.length := by
  cases o with
  | nil => simp [partB]
  | cons c o =>
    rw [partB_cons]
    split
    · have := (escB_len [34, 36] [] o).2
      have hn : (numB c).length = 4 := rfl
      rw [List.length_append, hn, List.length_cons]
      omega
    · exact (escB_len [34, 36] [] (c :: o)).2
theorem escB1_head {S : ByteArray} {q : Nat} {sl nu l : List UInt8} {c : UInt8} (h : At S q (escB1 sl nu c ++ l)) : pk S q = 92 ∨ (pk S q = c ∧ ¬ c ∈ sl ∧ ¬ c ∈ nu) := by
  have h := h.app.1
  unfold escB1 at h
  split at h
  · exact .inl h.cons.1
  · split at h
    · exact .inl h.cons.1
    · split at h
      · exact .inl h.cons.1
      · rename_i h1
        split at h
        · exact .inl (At.cons h).1
        · rename_i h2
          exact .inr ⟨h.cons.1, fun e => h1 (.inr e), fun e => h2 (.inr (.inr e))⟩

theorem canB_str {u : Nat} {t : Tok} (h : t.kind = 7) : canB u t = 34 :: (escB [34] [] t.text.data.toList ++ [34]) := by unfold canB; simp [h]
theorem canB_char {u : Nat} {t : Tok} (h : t.kind = 6) : canB u t = 39 :: (escB [39] [123] t.text.data.toList ++ [39]) := by unfold canB; simp [h]
theorem canB_start {u : Nat} {t : Tok} (h : t.kind = 8) : canB u t = t.text.data.toList ++ [34] := by unfold canB; simp [h]
theorem canB_part {u : Nat} {t : Tok} (h : t.kind = 9) : canB u t = partB u t.text.data.toList := by unfold canB; simp [h]
theorem canB_end {u : Nat} {t : Tok} (h : t.kind = 10) : canB u t = [34] := by unfold canB; simp [h]
theorem canB_var {t : Tok} (h : t.kind = 0 ∨ t.kind = 1) : canB 9 t = 36 :: t.text.data.toList := by unfold canB; rw [if_pos h]; rfl

/-- A literal between two equal bytes. -/
theorem lit_show {S : ByteArray} {q : Nat} {a : UInt8} {sl nu o : List UInt8} (hsl : ∀ x ∈ sl, x = 39 ∨ x = 34 ∨ x = 36) (ha : a ∈ sl) (hq : q ≤ S.size) (h : At S q (a :: (escB sl nu o ++ [a]))) :
    charsF S q q a a (S.size + 1) (q + 1) [] = .ok (o, q + 1 + (escB sl nu o).length) := by
  obtain ⟨_, h2, h3⟩ := h.cons
  obtain ⟨h4, h5⟩ := h3.app
  exact lit_lex hsl ha ha h4 (by omega) (.inl h5.cons.1)

theorem str_show {s : ByteArray} {r r1 : RSt} (hp : r.pos < s.size) (hc : pk s r.pos = 34) (h : strF s r = .ok r1) :
    ∃ n, Src 8 r r1 n ∧ ∀ S R, R.pos ≤ S.size → At S R.pos (showB 8 n) → pk S R.pos = pk s r.pos ∧ ∃ R1, strF S R = .ok R1 ∧ Dst R R1 (showB 8 n).length n := by
  unfold strF at h
  split at h
  · cases h
  · rename_i o k hx
    have hk := charsF_le _ _ _ (by omega) hx
    have hk' := charsF_in (by decide) (by decide) (by omega) hx
    injection h with h
    subst h
    have hl := (escB_len [34] [] o).2
    have hlo := hk.2.2
    simp at hlo
    refine ⟨[⟨7, ⟨o.toArray⟩, r.pos, _, _⟩], ⟨rfl, ?_, ?_⟩, ?_⟩
    · rw [showB_start, showB_nil, canB_str rfl, List.append_nil]
      simp only [List.length_cons, List.length_append, List.length_nil]
      show (escB [34] [] o).length + (0 + 1) + 1 + 4 * r.pos ≤ 4 * (k + 1)
      omega
    · rw [showB_start, showB_nil, canB_str rfl, List.append_nil]
      intro b hb
      rcases List.mem_cons.1 hb with rfl | hb
      · decide
      · rcases List.mem_append.1 hb with hb | hb
        · exact escB_good (by decide) o b hb
        · rw [List.mem_singleton.1 hb]; decide
    · intro S R hR hA
      rw [showB_start, showB_nil, canB_str rfl, List.append_nil] at hA ⊢
      have hA' : At S R.pos (34 :: (escB [34] [] o ++ [34])) := hA
      refine ⟨by rw [hA'.cons.1, hc], ?_⟩
      unfold strF
      rw [lit_show (by decide) (by decide) hR hA']
      refine ⟨_, rfl, ?_⟩
      have e : (34 :: (escB [34] [] o ++ [34])).length = 1 + (escB [34] [] o).length + 1 := by simp; omega
      show Dst R (addF S 7 ⟨o.toArray⟩ R.pos { R with pos := R.pos + 1 + (escB [34] [] o).length + 1 }) (34 :: (escB [34] [] o ++ [34])).length _
      rw [e, show R.pos + 1 + (escB [34] [] o).length + 1 = R.pos + (1 + (escB [34] [] o).length + 1) by omega]
      exact Dst.add rfl rfl
theorem char_show {s : ByteArray} {r r1 : RSt} (hp : r.pos < s.size) (hc : pk s r.pos = 39) (h : charF s r = .ok r1) :
    ∃ n, Src 8 r r1 n ∧ ∀ S R, R.pos ≤ S.size → At S R.pos (showB 8 n) → pk S R.pos = pk s r.pos ∧ pk S (R.pos + 1) ≠ 123 ∧ ∃ R1, charF S R = .ok R1 ∧ Dst R R1 (showB 8 n).length n := by
  unfold charF at h
  split at h
  · cases h
  · rename_i o k hx
    have hk := charsF_le _ _ _ (by omega) hx
    have hk' := charsF_in (by decide) (by decide) (by omega) hx
    split at h
    · rename_i ho
      injection h with h
      subst h
      have hl := (escB_len [39] [123] o).2
      have hlo := hk.2.2
      simp at hlo
      refine ⟨[⟨6, ⟨o.toArray⟩, r.pos, _, _⟩], ⟨rfl, ?_, ?_⟩, ?_⟩
      · rw [showB_start, showB_nil, canB_char rfl, List.append_nil]
        simp only [List.length_cons, List.length_append, List.length_nil]
        show (escB [39] [123] o).length + (0 + 1) + 1 + 4 * r.pos ≤ 4 * (k + 1)
        omega
      · rw [showB_start, showB_nil, canB_char rfl, List.append_nil]
        intro b hb
        rcases List.mem_cons.1 hb with rfl | hb
        · decide
        · rcases List.mem_append.1 hb with hb | hb
          · exact escB_good (by decide) o b hb
          · rw [List.mem_singleton.1 hb]; decide
      · intro S R hR hA
        rw [showB_start, showB_nil, canB_char rfl, List.append_nil] at hA ⊢
        have hA' : At S R.pos (39 :: (escB [39] [123] o ++ [39])) := hA
        refine ⟨by rw [hA'.cons.1, hc], ?_, ?_⟩
        · have h3 := hA'.cons.2.2
          cases o with
          | nil => rw [(At.cons h3).1]; decide
          | cons c o =>
            have h4 : At S (R.pos + 1) (escB1 [39] [123] c ++ (escB [39] [123] o ++ [39])) := by rw [← List.append_assoc]; exact h3
            rcases escB1_head h4 with e | ⟨e, _, e2⟩
            · rw [e]; decide
            · rw [e]; intro e3; rw [e3] at e2; exact e2 (by decide)
        · unfold charF
          rw [lit_show (by decide) (by decide) hR hA']
          simp only
          rw [if_pos ho]
          refine ⟨_, rfl, ?_⟩
          have e : (39 :: (escB [39] [123] o ++ [39])).length = 1 + (escB [39] [123] o).length + 1 := by simp; omega
          show Dst R (addF S 6 ⟨o.toArray⟩ R.pos { R with pos := R.pos + 1 + (escB [39] [123] o).length + 1 }) (39 :: (escB [39] [123] o ++ [39])).length _
          rw [e, show R.pos + 1 + (escB [39] [123] o).length + 1 = R.pos + (1 + (escB [39] [123] o).length + 1) by omega]
          exact Dst.add rfl rfl
    · cases h

theorem var_show {s : ByteArray} {r r2 : RSt} (hi : RI s r) (hp : r.pos < s.size) (hg : ∀ i, i < s.size → badB (pk s i) = false) (h : varF s r = .ok r2) :
    ∃ t, (t.kind = 0 ∨ t.kind = 1) ∧ r2.out = r.out ++ [t] ∧ (canB 9 t).length + r.pos ≤ r2.pos ∧ (∀ b ∈ canB 9 t, badB b = false) ∧
      ∀ S R, R.pos ≤ S.size → At S R.pos (canB 9 t) → inW (pk S (R.pos + (canB 9 t).length)) = false → pk S R.pos = 36 ∧ pk S (R.pos + 1) ≠ 123 ∧ ∃ R1, varF S R = .ok R1 ∧ Dst R R1 (canB 9 t).length [t] := by
  unfold varF at h
  split at h
  · rename_i hc
    obtain ⟨h1, h2, h3⟩ := wordTo_in (by omega) hc
    generalize hkk : wordTo s (s.size - (r.pos + 1)) (r.pos + 1) = k at *
    unfold varEnd at h
    split at h
    · cases h
    · rename_i kd hkd
      split at h
      · cases h
      · rename_i hk3
        injection h with h
        subst h
        have hkk := wkF_le hkd
        have hl := ext_list (s := s) (a := r.pos + 1) h1
        have hcan : ∀ t : Tok, t.kind = kd → canB 9 t = 36 :: t.text.data.toList := fun t ht => canB_var (by omega)
        refine ⟨⟨kd, s.extract (r.pos + 1) k, r.pos + 1, _, _⟩, by show kd = 0 ∨ kd = 1; omega, rfl, ?_, ?_, ?_⟩
        · rw [hcan _ rfl, List.length_cons, hl]
          show _ ≤ k
          omega
        · rw [hcan _ rfl]
          intro b hb
          rcases List.mem_cons.1 hb with rfl | hb
          · decide
          · exact ext_good h1 hg b hb
        · intro S R hR hA hB
          rw [hcan _ rfl] at hA hB ⊢
          simp only [List.length_cons, hl] at hB ⊢
          obtain ⟨g0, g1, hA2⟩ := hA.cons
          have ha : ∀ i, i < k - (r.pos + 1) → pk S (R.pos + 1 + i) = pk s (r.pos + 1 + i) ∧ R.pos + 1 + i < S.size := fun i hi => At.ext hA2 h1 hi
          have hle := hA2.le (by omega)
          rw [hl] at hle
          have hc0 := (ha 0 (by omega)).1
          simp only [Nat.add_zero] at hc0
          refine ⟨g0, ?_, ?_⟩
          · rw [hc0]
            intro e
            rw [e] at hc
            exact absurd hc (by decide +kernel)
          · have hw := wordTo_at hle (fun i hi => by rw [(ha i hi).1]; exact h3 i hi) (by rw [show R.pos + 1 + (k - (r.pos + 1)) = R.pos + (k - (r.pos + 1) + 1) by omega]; exact hB)
            unfold varF
            rw [hc0, if_pos hc, hw]
            unfold varEnd
            rw [At.ext_eq hA2 h1 (by omega), hkd]
            simp only
            rw [if_neg hk3, show R.pos + 1 + (k - (r.pos + 1)) = R.pos + (k - (r.pos + 1) + 1) by omega]
            exact ⟨_, rfl, Dst.add rfl rfl⟩
  · cases h

theorem push_show {s : ByteArray} {m : Nat} {lit : Option Nat} {r r1 : RSt} {bs bs1 : List Brk} (hm : 1 ≤ m) (hp : r.pos + m ≤ s.size) (hg : ∀ i, i < s.size → badB (pk s i) = false) (h : pushF s m lit r bs = .ok (r1, bs1)) :
    ∃ n, Src 8 r r1 n ∧ Src 9 r r1 n ∧ showB 9 n = showB 8 n ∧ (showB 8 n).length = m ∧ ∀ S R BS lit', R.pos ≤ S.size → SimB bs BS → lit'.isSome = lit.isSome → At S R.pos (showB 8 n) → (∀ i, i < m → pk S (R.pos + i) = pk s (r.pos + i)) ∧ ∃ R1 BS1, pushF S m lit' R BS = .ok (R1, BS1) ∧ Dst R R1 m n ∧ SimB bs1 BS1 := by
  unfold pushF at h
  split at h
  · cases h
  · rename_i h64
    injection h with h
    injection h with e1 e2
    subst e1 e2
    obtain ⟨n, hn, h1, h2, h3, h4, h5⟩ := mark_show hm hp hg
    refine ⟨n, h1, h3, h4, h2, fun S R BS lit' hR hB hl hA => ?_⟩
    obtain ⟨a1, a2, a3⟩ := h5 S R hR hA
    refine ⟨a1, ?_⟩
    unfold pushF
    rw [hB.len, if_neg h64]
    exact ⟨_, _, rfl, a3, hB.cons a2 hl⟩
end Go.Proofs.YtpgcklpcohcchaaDoor
namespace Go.Proofs.YtpgcklpcohcchaaDoor
open Go Go.RowKit

theorem part_head {S : ByteArray} {q u : Nat} {o : List UInt8} (hu : u = 0 ∨ u = 1) (h : At S q (partB u o)) (he : pk S (q + (partB u o).length) = 34 ∨ pk S (q + (partB u o).length) = 36) : inW (pk S q) = false := by
  cases o with
  | nil =>
    have he' : pk S q = 34 ∨ pk S q = 36 := he
    rcases he' with e | e <;> rw [e] <;> decide +kernel
  | cons c o =>
    rw [partB_cons] at h
    by_cases hc : (u = 0 ∨ u = 1) ∧ inW c = true
    · rw [if_pos hc] at h
      rw [(At.cons h.app.1).1]
      decide +kernel
    · rw [if_neg hc] at h
      have hcw : inW c = false := by cases hx : inW c with
        | true => exact absurd ⟨hu, hx⟩ hc
        | false => rfl
      rcases escB1_head (l := escB [34, 36] [] o) h with e | ⟨e, _⟩
      · rw [e]; decide +kernel
      · rw [e]; exact hcw

theorem parts_show {s : ByteArray} {lit : Nat} (hg : ∀ i, i < s.size → badB (pk s i) = false) : ∀ (f u : Nat) (r r1 : RSt) (bs bs1 : List Brk), s.size < r.pos + f → RI s r → r.out.length + 1 ≤ 2 * r.pos → bs.length ≤ 64 → partsF s lit bs f r = .ok (r1, bs1) →
    ∃ n, Src u r r1 n ∧ ((u = 0 ∨ u = 1) → ∀ S q, q ≤ S.size → At S q (showB u n) → inW (pk S q) = false) ∧
      ∀ S R BS lit' F, R.pos ≤ S.size → SimB bs BS → S.size < R.pos + F → At S R.pos (showB u n) → ∃ R1 BS1, partsF S lit' BS F R = .ok (R1, BS1) ∧ Dst R R1 (showB u n).length n ∧ SimB bs1 BS1 := by
  intro f
  induction f with
  | zero => intro u r r1 bs bs1 hf hi; have := hi.pos; omega
  | succ f ih =>
    intro u r r1 bs bs1 hf hi hn hb h
    rw [partsF_succ] at h
    split at h
    · cases h
    · rename_i o k hc
      obtain ⟨hk1, hk2, hk3, hk4⟩ := charsF_in (by decide) (by decide) hi.pos hc
      have hko := (charsF_le _ _ _ hi.pos hc).2.2
      simp at hko
      have hpl := partB_len u o
      have hsz : (⟨o.toArray⟩ : ByteArray).size ≤ s.size := by show o.toArray.size ≤ s.size; simpa using hk3
      have hri : RI s (addF s 9 ⟨o.toArray⟩ r.pos { r with pos := k }) := hi.add hi.told hk2 (by omega) hsz (by omega)
      have hln : (addF s 9 ⟨o.toArray⟩ r.pos { r with pos := k }).out.length ≤ 2 * k := by
        simp [addF]
        omega
      have hpk : (addF s 9 ⟨o.toArray⟩ r.pos { r with pos := k }).pos = k := rfl
      obtain ⟨P, hPk, hPt, hPo⟩ : ∃ P : Tok, P.kind = 9 ∧ P.text = ⟨o.toArray⟩ ∧ (addF s 9 ⟨o.toArray⟩ r.pos { r with pos := k }).out = r.out ++ [P] := ⟨⟨9, ⟨o.toArray⟩, r.pos, _, _⟩, rfl, rfl, rfl⟩
      have hsh : ∀ n, showB u (P :: n) = partB u o ++ showB 9 n := fun n => by rw [showB_apart _ _ _ hPk, canB_part hPk, hPk, hPt]
      have hrd : ∀ S R lit', R.pos ≤ S.size → At S R.pos (partB u o) → (pk S (R.pos + (partB u o).length) = 34 ∨ pk S (R.pos + (partB u o).length) = 36) →
          charsF S lit' R.pos 34 36 (S.size + 1) R.pos [] = .ok (o, R.pos + (partB u o).length) ∧ Dst R (addF S 9 ⟨o.toArray⟩ R.pos { R with pos := R.pos + (partB u o).length }) (partB u o).length [P] :=
        fun S R lit' hR hA he => ⟨part_lex hA hR he, Dst.add hPk.symm hPt.symm⟩
      generalize addF s 9 ⟨o.toArray⟩ r.pos { r with pos := k } = r2 at *
      subst hpk
      split at h
      · rename_i h34
        injection h with h
        injection h with e1 e2
        subst e1 e2
        have hS : ∀ E : Tok, E.kind = 10 → showB u [P, E] = partB u o ++ [34] := fun E hE => by rw [hsh, showB_part, showB_nil, canB_end hE, List.append_nil]
        obtain ⟨E, hE, hEt, hEo⟩ : ∃ E : Tok, E.kind = 10 ∧ E.text = ⟨#[]⟩ ∧ (addF s 10 ⟨#[]⟩ r2.pos r2).out = r2.out ++ [E] := ⟨⟨10, ⟨#[]⟩, r2.pos, _, _⟩, rfl, rfl, rfl⟩
        refine ⟨[P, E], ⟨?_, ?_, ?_⟩, ?_, ?_⟩
        · show (addF s 10 ⟨#[]⟩ r2.pos r2).out = _
          rw [hEo, hPo, List.append_assoc]
          rfl
        · rw [hS _ hE, List.length_append, List.length_singleton]
          show _ ≤ 4 * (r2.pos + 1)
          omega
        · rw [hS _ hE]
          intro b hb
          rcases List.mem_append.1 hb with hb | hb
          · exact partB_good u o b hb
          · rw [List.mem_singleton.1 hb]; decide
        · intro hu S q hq hA
          rw [hS _ hE] at hA
          obtain ⟨a1, a2⟩ := hA.app
          exact part_head hu a1 (.inl a2.cons.1)
        · intro S R BS lit' F hR hB hF hA
          rw [hS _ hE] at hA ⊢
          obtain ⟨a1, a2⟩ := hA.app
          obtain ⟨c1, c2⟩ := hrd S R lit' hR a1 (.inl a2.cons.1)
          obtain ⟨F2, rfl⟩ : ∃ F2, F = F2 + 1 := ⟨F - 1, by omega⟩
          rw [partsF_succ, c1]
          simp only
          rw [if_pos a2.cons.1]
          refine ⟨_, _, rfl, ?_, hB⟩
          rw [List.length_append, List.length_singleton]
          have hpp : (addF S 9 ⟨o.toArray⟩ R.pos { R with pos := R.pos + (partB u o).length }).pos = R.pos + (partB u o).length := rfl
          generalize addF S 9 ⟨o.toArray⟩ R.pos { R with pos := R.pos + (partB u o).length } = R2 at *
          refine Dst.trans (n := [P]) c2 ⟨?_, [⟨10, ⟨#[]⟩, R.pos + (partB u o).length, _, _⟩], rfl, by simp [kt, hE, hEt]⟩
          show R.pos + (partB u o).length + 1 = R2.pos + 1
          omega
      · rename_i h34
        have h36 : pk s r2.pos = 36 := hk4.resolve_left h34
        split at h
        · rename_i h123
          have hl := pk_ne (s := s) (a := r2.pos + 1) (by rw [h123]; decide)
          obtain ⟨m, m1, m2, m3, m4, m5⟩ := push_show (by omega) (by omega) hg h
          refine ⟨P :: m, ⟨?_, ?_, ?_⟩, ?_, ?_⟩
          · rw [m2.out, hPo, List.append_assoc]
            rfl
          · rw [hsh, List.length_append]
            have := m2.len
            omega
          · rw [hsh]
            intro b hb
            rcases List.mem_append.1 hb with hb | hb
            · exact partB_good u o b hb
            · exact m2.good b hb
          · intro hu S q hq hA
            rw [hsh, m3] at hA
            obtain ⟨a1, a2⟩ := hA.app
            obtain ⟨b1, _⟩ := m5 S ⟨q + (partB u o).length, [], 0, 0, 0⟩ bs (some lit) (a1.le hq) rfl rfl a2
            have b0 := b1 0 (by omega)
            exact part_head hu a1 (.inr (by simp only [Nat.add_zero] at b0; rw [b0, h36]))
          · intro S R BS lit' F hR hB hF hA
            rw [hsh, m3] at hA
            rw [hsh, m3]
            obtain ⟨a1, a2⟩ := hA.app
            obtain ⟨F2, rfl⟩ : ∃ F2, F = F2 + 1 := ⟨F - 1, by omega⟩
            obtain ⟨b1, _⟩ := m5 S ⟨R.pos + (partB u o).length, [], 0, 0, 0⟩ bs (some lit) (a1.le hR) rfl rfl a2
            have b0 := b1 0 (by omega)
            have b2 := b1 1 (by omega)
            simp only [Nat.add_zero, h36, h123] at b0 b2
            obtain ⟨c1, c2⟩ := hrd S R lit' hR a1 (.inr b0)
            rw [partsF_succ, c1]
            simp only
            rw [if_neg (by rw [b0]; decide), if_pos b2]
            have hpp : (addF S 9 ⟨o.toArray⟩ R.pos { R with pos := R.pos + (partB u o).length }).pos = R.pos + (partB u o).length := rfl
            generalize addF S 9 ⟨o.toArray⟩ R.pos { R with pos := R.pos + (partB u o).length } = R2 at *
            obtain ⟨_, R1, BS1, d1, d2, d3⟩ := m5 S R2 BS (some lit') (by rw [hpp]; exact a1.le hR) hB rfl (by rw [hpp]; exact a2)
            refine ⟨R1, BS1, d1, ?_, d3⟩
            rw [List.length_append, m4]
            exact Dst.trans (n := [P]) c2 d2
        · rename_i h123
          split at h
          · cases h
          · rename_i r3 hv
            obtain ⟨v1, v2, v3⟩ := varF_ok hri (by omega) hv
            obtain ⟨t, t1, t2, t3, t4, t5⟩ := var_show hri (by omega) hg hv
            obtain ⟨n, n1, n2, n3⟩ := ih t.kind r3 r1 bs bs1 (by omega) v1 (by omega) hb h
            have hsh2 : showB u (P :: t :: n) = partB u o ++ (canB 9 t ++ showB t.kind n) := by rw [hsh, showB_part]
            have hc36 : ∀ S q, At S q (canB 9 t) → pk S q = 36 := fun S q hA => by rw [canB_var t1] at hA; exact hA.cons.1
            refine ⟨P :: t :: n, ⟨?_, ?_, ?_⟩, ?_, ?_⟩
            · rw [n1.out, t2, hPo]
              simp
            · rw [hsh2, List.length_append, List.length_append]
              have := n1.len
              omega
            · rw [hsh2]
              intro b hb
              rcases List.mem_append.1 hb with hb | hb
              · exact partB_good u o b hb
              · rcases List.mem_append.1 hb with hb | hb
                · exact t4 b hb
                · exact n1.good b hb
            · intro hu S q hq hA
              rw [hsh2] at hA
              obtain ⟨a1, a2⟩ := hA.app
              exact part_head hu a1 (.inr (hc36 S _ a2.app.1))
            · intro S R BS lit' F hR hB hF hA
              rw [hsh2] at hA ⊢
              obtain ⟨a1, a2⟩ := hA.app
              obtain ⟨a3, a4⟩ := a2.app
              obtain ⟨F2, rfl⟩ : ∃ F2, F = F2 + 1 := ⟨F - 1, by omega⟩
              have hle1 := a1.le hR
              have hle2 := a3.le hle1
              obtain ⟨c1, c2⟩ := hrd S R lit' hR a1 (.inr (hc36 S _ a3))
              have hpp : (addF S 9 ⟨o.toArray⟩ R.pos { R with pos := R.pos + (partB u o).length }).pos = R.pos + (partB u o).length := rfl
              rw [partsF_succ, c1]
              simp only
              generalize addF S 9 ⟨o.toArray⟩ R.pos { R with pos := R.pos + (partB u o).length } = R2 at *
              obtain ⟨g1, g2, R3, g3, g4⟩ := t5 S R2 (by omega) (by rw [hpp]; exact a3) (by rw [hpp]; exact n2 t1 S _ hle2 a4)
              rw [hpp] at g1 g2
              rw [if_neg (by rw [g1]; decide), if_neg g2, g3]
              simp only
              have hp3 := g4.pos
              have hl1 : 1 ≤ (canB 9 t).length := by rw [canB_var t1]; simp
              obtain ⟨R1, BS1, d1, d2, d3⟩ := n3 S R3 BS lit' F2 (by omega) hB (by omega) (by rw [hp3, hpp]; exact a4)
              refine ⟨R1, BS1, d1, ?_, d3⟩
              rw [List.length_append, List.length_append]
              exact Dst.trans (n := [P]) c2 (Dst.trans (n := [t]) g4 d2)
end Go.Proofs.YtpgcklpcohcchaaDoor
namespace Go.Proofs.YtpgcklpcohcchaaDoor
open Go Go.RowKit

/-- The first and the last token between two places of the reader. -/
structure Kn (r r1 : RSt) : Prop where
  fst : ∃ t n, r1.out = r.out ++ t :: n ∧ t.kind ≠ 9
  lst : ∃ n t, r1.out = r.out ++ (n ++ [t]) ∧ t.kind ≠ 8 ∧ t.kind ≠ 9
theorem Kn.one {r r1 : RSt} (t : Tok) (h : r1.out = r.out ++ [t]) (h8 : t.kind ≠ 8) (h9 : t.kind ≠ 9) : Kn r r1 := ⟨⟨t, [], h, h9⟩, ⟨[], t, h, h8, h9⟩⟩
theorem Kn.add {s : ByteArray} {r : RSt} {kd p k : Nat} {tx : ByteArray} (h8 : kd ≠ 8) (h9 : kd ≠ 9) : Kn r (addF s kd tx p { r with pos := k }) := Kn.one ⟨kd, tx, p, _, _⟩ rfl h8 h9
theorem push_kinds {s : ByteArray} {m : Nat} {lit : Option Nat} {r r1 : RSt} {bs bs1 : List Brk} (h : pushF s m lit r bs = .ok (r1, bs1)) : Kn r r1 := by
  unfold pushF at h
  split at h
  · cases h
  · injection h with h
    injection h with e1 e2
    subst e1
    exact Kn.add (by decide) (by decide)

theorem parts_kinds {s : ByteArray} {lit : Nat} : ∀ (f : Nat) (r r1 : RSt) (bs bs1 : List Brk), s.size < r.pos + f → RI s r → r.out.length + 1 ≤ 2 * r.pos → bs.length ≤ 64 → partsF s lit bs f r = .ok (r1, bs1) →
    ∃ n t, r1.out = r.out ++ (n ++ [t]) ∧ t.kind ≠ 8 ∧ t.kind ≠ 9 := by
  intro f
  induction f with
  | zero => intro r r1 bs bs1 hf hi; have := hi.pos; omega
  | succ f ih =>
    intro r r1 bs bs1 hf hi hn hb h
    rw [partsF_succ] at h
    split at h
    · cases h
    · rename_i o k hc
      obtain ⟨hk1, hk2, hk3, hk4⟩ := charsF_in (by decide) (by decide) hi.pos hc
      have hsz : (⟨o.toArray⟩ : ByteArray).size ≤ s.size := by show o.toArray.size ≤ s.size; simpa using hk3
      have hri : RI s (addF s 9 ⟨o.toArray⟩ r.pos { r with pos := k }) := hi.add hi.told hk2 (by omega) hsz (by omega)
      have hln : (addF s 9 ⟨o.toArray⟩ r.pos { r with pos := k }).out.length ≤ 2 * k := by
        simp [addF]
        omega
      have hpk : (addF s 9 ⟨o.toArray⟩ r.pos { r with pos := k }).pos = k := rfl
      obtain ⟨P, hPo⟩ : ∃ P : Tok, (addF s 9 ⟨o.toArray⟩ r.pos { r with pos := k }).out = r.out ++ [P] := ⟨⟨9, ⟨o.toArray⟩, r.pos, _, _⟩, rfl⟩
      generalize addF s 9 ⟨o.toArray⟩ r.pos { r with pos := k } = r2 at *
      subst hpk
      split at h
      · injection h with h
        injection h with e1 e2
        subst e1 e2
        obtain ⟨E, hE, hEo⟩ : ∃ E : Tok, E.kind = 10 ∧ (addF s 10 ⟨#[]⟩ r2.pos r2).out = r2.out ++ [E] := ⟨⟨10, ⟨#[]⟩, r2.pos, _, _⟩, rfl, rfl⟩
        refine ⟨[P], E, ?_, by omega, by omega⟩
        show (addF s 10 ⟨#[]⟩ r2.pos r2).out = _
        rw [hEo, hPo, List.append_assoc]
      · split at h
        · obtain ⟨n, t, e, h8, h9⟩ := (push_kinds h).lst
          exact ⟨P :: n, t, by rw [e, hPo]; simp, h8, h9⟩
        · split at h
          · cases h
          · rename_i r3 hv
            obtain ⟨v1, v2, v3⟩ := varF_ok hri (by omega) hv
            obtain ⟨n, t, e, h8, h9⟩ := ih r3 r1 bs bs1 (by omega) v1 (by omega) hb h
            obtain ⟨m, hm⟩ : ∃ m, r3.out = r2.out ++ m := by
              unfold varF at hv
              split at hv
              · unfold varEnd at hv
                split at hv
                · cases hv
                · split at hv
                  · cases hv
                  · injection hv with hv
                    subst hv
                    exact ⟨_, rfl⟩
              · cases hv
            exact ⟨P :: (m ++ n), t, by rw [e, hm, hPo]; simp, h8, h9⟩

theorem word_all {s : ByteArray} {r r1 : RSt} {bs bs1 : List Brk} (hR : RG s r bs) (hg : ∀ i, i < s.size → badB (pk s i) = false) (hc : cls (pk s r.pos) = 1) (h : wordF s r bs = .ok (r1, bs1)) :
    Kn r r1 ∧ ∃ n, Src 8 r r1 n ∧ ∀ S R BS, R.pos ≤ S.size → SimB bs BS → At S R.pos (showB 8 n) → Bnd S (R.pos + (showB 8 n).length) → pk S R.pos = pk s r.pos ∧ ∃ R1 BS1, wordF S R BS = .ok (R1, BS1) ∧ Dst R R1 (showB 8 n).length n ∧ SimB bs1 BS1 := by
  have hri := hR.ri
  have hws := fun kd => word_show (r1 := r1) (kd := kd) hri.pos hg hc
  obtain ⟨h1, h2, h3⟩ := wordTo_in hri.pos hc
  have hn := hR.few
  unfold wordF wordEnd at h
  split at h
  · cases h
  · rename_i kd hkd
    have hws := hws kd hkd
    have hkk := wkF_le hkd
    split at h
    · rename_i h34
      clear hws
      generalize hke : wordTo s (s.size - r.pos) r.pos = k at *
      have hlk := pk_ne (s := s) (a := k) (by rw [h34.2]; decide)
      have htx := extract_le s r.pos k hri.pos
      have hl := ext_list (s := s) (a := r.pos) h1
      have hri2 : RI s (addF s 8 (s.extract r.pos k) r.pos { r with pos := k + 1 }) := hri.add hri.told (by omega) (by omega) htx (by omega)
      obtain ⟨n, n1, _, n3⟩ := parts_show hg _ 8 _ _ _ _ (by simp [addF]; omega) hri2 (by simp [addF]; omega) hR.brk h
      obtain ⟨kn, kt', ke, k8, k9⟩ := parts_kinds _ _ _ _ _ (by simp [addF]; omega) hri2 (by simp [addF]; omega) hR.brk h
      obtain ⟨T, hTk, hTt, hTo⟩ : ∃ T : Tok, T.kind = 8 ∧ T.text = s.extract r.pos k ∧ (addF s 8 (s.extract r.pos k) r.pos { r with pos := k + 1 }).out = r.out ++ [T] := ⟨⟨8, s.extract r.pos k, r.pos, _, _⟩, rfl, rfl, rfl⟩
      have hpk : (addF s 8 (s.extract r.pos k) r.pos { r with pos := k + 1 }).pos = k + 1 := rfl
      generalize addF s 8 (s.extract r.pos k) r.pos { r with pos := k + 1 } = r2 at *
      have hsh : showB 8 (T :: n) = (s.extract r.pos k).data.toList ++ ([34] ++ showB 8 n) := by rw [showB_start, canB_start hTk, hTk, hTt, List.append_assoc]
      refine ⟨⟨⟨T, n, by rw [n1.out, hTo]; simp, by omega⟩, ⟨T :: kn, kt', by rw [ke, hTo]; simp, k8, k9⟩⟩, T :: n, ⟨by rw [n1.out, hTo]; simp, ?_, ?_⟩, ?_⟩
      · rw [hsh, List.length_append, List.length_append, hl, List.length_singleton]
        have := n1.len
        omega
      · rw [hsh]
        intro b hb
        rcases List.mem_append.1 hb with hb | hb
        · exact ext_good h1 hg b hb
        · rcases List.mem_append.1 hb with hb | hb
          · rw [List.mem_singleton.1 hb]; decide
          · exact n1.good b hb
      · intro S R BS hRp hB hA _
        rw [hsh] at hA ⊢
        obtain ⟨a1, a2⟩ := hA.app
        obtain ⟨a3, a4⟩ := a2.app
        rw [hl] at a2 a3 a4
        have ha : ∀ i, i < k - r.pos → pk S (R.pos + i) = pk s (r.pos + i) ∧ R.pos + i < S.size := fun i hi => At.ext a1 h1 hi
        have hle := a1.le hRp
        rw [hl] at hle
        refine ⟨(ha 0 (by omega)).1, ?_⟩
        have g34 := a3.cons.1
        have hw := wordTo_at hle (fun i hi => by rw [(ha i hi).1]; exact h3 i hi) (by rw [g34]; decide +kernel)
        unfold wordF
        rw [hw, At.ext_eq a1 h1 hRp]
        unfold wordEnd
        rw [hkd]
        simp only
        rw [if_pos ⟨h34.1, g34⟩]
        have hdst : Dst R (addF S 8 (s.extract r.pos k) R.pos { R with pos := R.pos + (k - r.pos + 1) }) (k - r.pos + 1) [T] := Dst.add hTk.symm hTt.symm
        rw [show R.pos + (k - r.pos) + 1 = R.pos + (k - r.pos + 1) by omega]
        have hpp : (addF S 8 (s.extract r.pos k) R.pos { R with pos := R.pos + (k - r.pos + 1) }).pos = R.pos + (k - r.pos + 1) := rfl
        generalize addF S 8 (s.extract r.pos k) R.pos { R with pos := R.pos + (k - r.pos + 1) } = R2 at *
        have hlt := a3.cons.2.1
        have a4' : At S R2.pos (showB 8 n) := by rw [hpp, show R.pos + (k - r.pos + 1) = R.pos + (k - r.pos) + [34].length by simp; omega]; exact a4
        obtain ⟨R1, BS1, d1, d2, d3⟩ := n3 S R2 BS R.pos (S.size + 1) (by omega) hB (by omega) a4'
        refine ⟨R1, BS1, d1, ?_, d3⟩
        rw [List.length_append, List.length_append, hl, List.length_singleton]
        have := Dst.trans (n := [T]) hdst d2
        rw [show k - r.pos + (1 + (showB 8 n).length) = k - r.pos + 1 + (showB 8 n).length by omega]
        exact this
    · injection h with h
      injection h with e1 e2
      subst e2
      obtain ⟨n, n1, n2⟩ := hws e1.symm
      subst e1
      refine ⟨Kn.add (by omega) (by omega), n, n1, fun S R BS hRp hB hA hE => ?_⟩
      obtain ⟨a, R1, b, c⟩ := n2 S R BS hRp hA hE
      exact ⟨a, R1, BS, b, c, hB⟩

theorem endg_show {s : ByteArray} {r r1 : RSt} {bs bs1 : List Brk} (hR : RG s r bs) (hg : ∀ i, i < s.size → badB (pk s i) = false) (hp : r.pos < s.size) (h : endgF s r bs = .ok (r1, bs1)) :
    Kn r r1 ∧ ∃ n, Src 8 r r1 n ∧ ∀ S R BS, R.pos ≤ S.size → SimB bs BS → At S R.pos (showB 8 n) → pk S R.pos = pk s r.pos ∧ ∃ R1 BS1, endgF S R BS = .ok (R1, BS1) ∧ Dst R R1 (showB 8 n).length n ∧ SimB bs1 BS1 := by
  cases bs with
  | nil => cases h
  | cons b rest =>
    have h' : (if (clo b.mark.toList).toList = (s.extract r.pos (r.pos + 1)).toList then endLit s b.lit (markF s 1 r) rest else .error (r.pos, 27)) = .ok (r1, bs1) := h
    clear h
    have hbr := hR.brk
    simp at hbr
    have hmk := markF_ok (bs := rest) ⟨hR.ri, hR.few, by omega⟩ hp
    have hkm : Kn r (markF s 1 r) := Kn.add (by decide) (by decide)
    obtain ⟨n, hn, h1, h2, h3, h4, h5⟩ := mark_show (r := r) (m := 1) (by omega) (by omega) hg
    split at h'
    · rename_i hcl
      have hstep : ∀ S R BS, SimB (b :: rest) BS → S.extract R.pos (R.pos + 1) = s.extract r.pos (r.pos + 1) → ∃ (b' : Brk) (rest' : List Brk), SimB rest rest' ∧ b'.lit.isSome = b.lit.isSome ∧ endgF S R BS = endLit S b'.lit (markF S 1 R) rest' := by
        intro S R BS hB hx
        cases BS with
        | nil => have := hB.len; simp at this
        | cons b' rest' =>
          have hB2 : kb b' = kb b ∧ rest'.map kb = rest.map kb := by
            unfold SimB at hB
            simpa using hB
          refine ⟨b', rest', hB2.2, congrArg Prod.snd hB2.1, ?_⟩
          have hm : b'.mark = b.mark := congrArg Prod.fst hB2.1
          show (if (clo b'.mark.toList).toList = (S.extract R.pos (R.pos + 1)).toList then endLit S b'.lit (markF S 1 R) rest' else .error (R.pos, 27)) = _
          rw [hm, hx, if_pos hcl]
      cases hbl : b.lit with
      | none =>
        rw [hbl] at h'
        injection h' with h'
        injection h' with e1 e2
        subst e1 e2
        refine ⟨hkm, n, h1, fun S R BS hRp hB hA => ?_⟩
        obtain ⟨p1, p2, p3⟩ := h5 S R hRp hA
        obtain ⟨b', rest', q1, q2, q3⟩ := hstep S R BS hB p2
        refine ⟨p1 0 (by omega), markF S 1 R, rest', ?_, by rw [h2]; exact p3, q1⟩
        rw [q3]
        cases hx : b'.lit with
        | none => rfl
        | some y => rw [hx, hbl] at q2; simp at q2
      | some l =>
        rw [hbl] at h'
        have h'' : partsF s l rest (s.size + 1) (markF s 1 r) = .ok (r1, bs1) := h'
        clear h'
        obtain ⟨t, rfl⟩ : ∃ t, n = [t] := by
          cases n with
          | nil => simp at hn
          | cons t n => cases n with
            | nil => exact ⟨t, rfl⟩
            | cons t' n => simp at hn
        have ht3 : t.kind = 3 := by simp [kt] at hn; exact hn.1
        have hmp : (markF s 1 r).pos = r.pos + 1 := rfl
        obtain ⟨m, m1, _, m3⟩ := parts_show hg _ 3 _ _ _ _ (by omega) hmk.1.ri hmk.2.2 hmk.1.brk h''
        obtain ⟨kn, kt', ke, k8, k9⟩ := parts_kinds _ _ _ _ _ (by omega) hmk.1.ri hmk.2.2 hmk.1.brk h''
        have hsh : showB 8 (t :: m) = showB 8 [t] ++ showB 3 m := by rw [showB_start, showB_start, ht3, showB_nil, List.append_nil]
        refine ⟨⟨⟨t, m, by rw [m1.out, h1.out]; simp, by omega⟩, ⟨t :: kn, kt', by rw [ke, h1.out]; simp, k8, k9⟩⟩, t :: m, ⟨by rw [m1.out, h1.out]; simp, ?_, ?_⟩, ?_⟩
        · rw [hsh, List.length_append, h2]
          have := m1.len
          omega
        · rw [hsh]
          intro x hx
          rcases List.mem_append.1 hx with hx | hx
          · exact h1.good x hx
          · exact m1.good x hx
        · intro S R BS hRp hB hA
          rw [hsh] at hA ⊢
          obtain ⟨a1, a2⟩ := hA.app
          rw [h2] at a2
          obtain ⟨p1, p2, p3⟩ := h5 S R hRp a1
          obtain ⟨b', rest', q1, q2, q3⟩ := hstep S R BS hB p2
          refine ⟨p1 0 (by omega), ?_⟩
          obtain ⟨l', hl'⟩ : ∃ l', b'.lit = some l' := by
            cases hx : b'.lit with
            | none => rw [hx, hbl] at q2; simp at q2
            | some y => exact ⟨y, rfl⟩
          have hle := a1.le hRp
          rw [h2] at hle
          have hpp : (markF S 1 R).pos = R.pos + 1 := rfl
          obtain ⟨R1, BS1, d1, d2, d3⟩ := m3 S (markF S 1 R) rest' l' (S.size + 1) (by omega) q1 (by omega) a2
          refine ⟨R1, BS1, by rw [q3, hl']; exact d1, ?_, d3⟩
          rw [List.length_append, h2]
          exact Dst.trans (n := [t]) p3 d2
    · cases h'
end Go.Proofs.YtpgcklpcohcchaaDoor
namespace Go.Proofs.YtpgcklpcohcchaaDoor
open Go Go.RowKit

theorem quotK_51 {b c : UInt8} (h : quotK b c = 51) : b = 34 := by
  unfold quotK at h
  split at h
  · assumption
  · split at h
    · exact absurd h (by decide)
    · split at h <;> exact absurd h (by decide)
theorem quotK_52 {b c : UInt8} (h : quotK b c = 52) : b = 39 ∧ c ≠ 123 := by
  unfold quotK at h
  split at h
  · exact absurd h (by decide)
  · split at h
    · assumption
    · split at h <;> exact absurd h (by decide)
theorem quotK_39 {c : UInt8} (h : c ≠ 123) : quotK 39 c = 52 := by
  unfold quotK
  rw [if_neg (by decide), if_pos ⟨rfl, h⟩]
theorem comB_no {S : ByteArray} {q : Nat} (h : cls (pk S q) ≠ 3) : comB S q = false := by
  have h47 : pk S q ≠ 47 := fun e => h (by rw [e]; decide +kernel)
  unfold comB
  simp [h47]
theorem SimB.refl (bs : List Brk) : SimB bs bs := rfl

/-- One step of the reader, and the step that reads the canonical form of its tokens. -/
theorem rstep_show {s : ByteArray} {r r1 : RSt} {bs bs1 : List Brk} (hR : RG s r bs) (hg : ∀ i, i < s.size → badB (pk s i) = false) (hp : r.pos < s.size) (hcm : comB s r.pos = false) (h : rstepF s r bs = .ok (r1, bs1)) :
    Kn r r1 ∧ ∃ n, Src 8 r r1 n ∧ ∀ S R BS, R.pos ≤ S.size → SimB bs BS → At S R.pos (showB 8 n) → Bnd S (R.pos + (showB 8 n).length) → pk S R.pos = pk s r.pos ∧ comB S R.pos = false ∧ ∃ R1 BS1, rstepF S R BS = .ok (R1, BS1) ∧ Dst R R1 (showB 8 n).length n ∧ SimB bs1 BS1 := by
  have hok := rstep_ok hR hp hcm h
  have hr1 := hok.1.ri.pos
  have hq := quotK_in (pk s r.pos) (pk s (r.pos + 1))
  have hl := cls_lt (pk s r.pos)
  unfold rstepF scanK at h
  by_cases h0 : cls (pk s r.pos) = 0
  · rw [if_pos h0] at h
    rcases hq with hq | hq | ⟨hq, h123⟩ | hq <;> rw [hq] at h
    · rw [byK_51] at h
      obtain ⟨e, rfl⟩ := liftB_ok (s := s) (r := r) h
      have h34 := quotK_51 hq
      obtain ⟨n, n1, n2⟩ := str_show hp h34 e
      have hk : Kn r r1 := by
        unfold strF at e
        split at e
        · cases e
        · injection e with e
          subst e
          exact Kn.add (by decide) (by decide)
      refine ⟨hk, n, n1, fun S R BS hRp hB hA _ => ?_⟩
      obtain ⟨a, R1, b, c⟩ := n2 S R hRp hA
      refine ⟨a, comB_no (by rw [a, h0]; decide), R1, BS, ?_, c, hB⟩
      unfold rstepF scanK
      rw [a, if_pos h0, h34]
      show liftB BS (strF S R) = _
      rw [b]
      rfl
    · rw [byK_52] at h
      obtain ⟨e, rfl⟩ := liftB_ok (s := s) (r := r) h
      obtain ⟨h39, _⟩ := quotK_52 hq
      obtain ⟨n, n1, n2⟩ := char_show hp h39 e
      have hk : Kn r r1 := by
        unfold charF at e
        split at e
        · cases e
        · split at e
          · injection e with e
            subst e
            exact Kn.add (by decide) (by decide)
          · cases e
      refine ⟨hk, n, n1, fun S R BS hRp hB hA _ => ?_⟩
      obtain ⟨a, a2, R1, b, c⟩ := n2 S R hRp hA
      refine ⟨a, comB_no (by rw [a, h0]; decide), R1, BS, ?_, c, hB⟩
      unfold rstepF scanK
      rw [a, if_pos h0, h39, quotK_39 a2, byK_52, b]
      rfl
    · rw [byK_30] at h
      have hl1 := pk_ne (s := s) (a := r.pos + 1) (by rw [h123]; decide)
      unfold openF at h
      rw [if_neg (by omega)] at h
      obtain ⟨n, n1, _, _, n4, n5⟩ := push_show (by omega) (by omega) hg h
      refine ⟨push_kinds h, n, n1, fun S R BS hRp hB hA _ => ?_⟩
      obtain ⟨a, R1, BS1, b, c, d⟩ := n5 S R BS none hRp hB rfl hA
      have a0 := a 0 (by omega)
      have a1 := a 1 (by omega)
      simp only [Nat.add_zero] at a0
      refine ⟨a0, comB_no (by rw [a0, h0]; decide), R1, BS1, ?_, by rw [n4]; exact c, d⟩
      unfold rstepF scanK
      rw [a0, a1, if_pos h0, hq, byK_30]
      unfold openF
      rw [a0, if_neg (by omega)]
      exact b
    · cases h
  · rw [if_neg h0] at h
    obtain hc | hc | hc | hc | hc | hc : cls (pk s r.pos) = 1 ∨ cls (pk s r.pos) = 2 ∨ cls (pk s r.pos) = 3 ∨ cls (pk s r.pos) = 4 ∨ cls (pk s r.pos) = 5 ∨ cls (pk s r.pos) = 6 := by omega
    all_goals rw [hc] at h
    · obtain ⟨hk, n, n1, n2⟩ := word_all hR hg hc h
      refine ⟨hk, n, n1, fun S R BS hRp hB hA hE => ?_⟩
      obtain ⟨a, R1, BS1, b, c, d⟩ := n2 S R BS hRp hB hA hE
      refine ⟨a, comB_no (by rw [a, hc]; decide), R1, BS1, ?_, c, d⟩
      unfold rstepF scanK
      rw [a, hc]
      exact b
    · have h' : liftB bs (numF s r) = .ok (r1, bs1) := h
      obtain ⟨e, rfl⟩ := liftB_ok (s := s) (r := r) h'
      obtain ⟨n, n1, n2⟩ := num_show hR.ri.pos hr1 hg hc e
      have hk : Kn r r1 := by
        unfold numF numEnd at e
        split at e
        · rw [(numFin_ok e).1]; exact Kn.add (by decide) (by decide)
        · rw [(numFin_ok e).1]; exact Kn.add (by decide) (by decide)
      refine ⟨hk, n, n1, fun S R BS hRp hB hA hE => ?_⟩
      obtain ⟨a, R1, b, c⟩ := n2 S R hRp hA hE
      refine ⟨a, comB_no (by rw [a, hc]; decide), R1, BS, ?_, c, hB⟩
      unfold rstepF scanK
      rw [a, hc]
      show liftB BS (numF S R) = _
      rw [b]
      rfl
    · have h' : liftB bs (opF s r) = .ok (r1, bs1) := h
      obtain ⟨e, rfl⟩ := liftB_ok (s := s) (r := r) h'
      obtain ⟨n, n1, n2⟩ := op_show hR.ri.pos hg hc hcm e
      have hk : Kn r r1 := by
        unfold opF at e
        obtain ⟨kd, h1, h2, _⟩ := opEnd_ok e
        rw [h2]; exact Kn.add (by omega) (by omega)
      refine ⟨hk, n, n1, fun S R BS hRp hB hA hE => ?_⟩
      obtain ⟨a, a2, R1, b, c⟩ := n2 S R hRp hA hE
      refine ⟨a, a2, R1, BS, ?_, c, hB⟩
      unfold rstepF scanK
      rw [a, hc]
      show liftB BS (opF S R) = _
      rw [b]
      rfl
    · have h' : openF s r bs = .ok (r1, bs1) := h
      unfold openF at h'
      rw [if_pos hc] at h'
      obtain ⟨n, n1, _, _, n4, n5⟩ := push_show (by omega) (by omega) hg h'
      refine ⟨push_kinds h', n, n1, fun S R BS hRp hB hA _ => ?_⟩
      obtain ⟨a, R1, BS1, b, c, d⟩ := n5 S R BS none hRp hB rfl hA
      have a0 := a 0 (by omega)
      simp only [Nat.add_zero] at a0
      refine ⟨a0, comB_no (by rw [a0, hc]; decide), R1, BS1, ?_, by rw [n4]; exact c, d⟩
      unfold rstepF scanK
      rw [a0, hc]
      show openF S R BS = _
      unfold openF
      rw [a0, if_pos hc]
      exact b
    · obtain ⟨hk, n, n1, n2⟩ := endg_show hR hg hp h
      refine ⟨hk, n, n1, fun S R BS hRp hB hA _ => ?_⟩
      obtain ⟨a, R1, BS1, b, c, d⟩ := n2 S R BS hRp hB hA
      refine ⟨a, comB_no (by rw [a, hc]; decide), R1, BS1, ?_, c, d⟩
      unfold rstepF scanK
      rw [a, hc]
      exact b
    · have h' : Except.ok (markF s 1 r, bs) = Except.ok (r1, bs1) := h
      injection h' with h'
      injection h' with e1 e2
      subst e1 e2
      obtain ⟨n, _, n1, n2, _, _, n5⟩ := mark_show (r := r) (m := 1) (by omega) (by omega) hg
      refine ⟨Kn.add (by decide) (by decide), n, n1, fun S R BS hRp hB hA _ => ?_⟩
      obtain ⟨a, _, c⟩ := n5 S R hRp hA
      have a0 := a 0 (by omega)
      simp only [Nat.add_zero] at a0
      refine ⟨a0, comB_no (by rw [a0, hc]; decide), markF S 1 R, BS, ?_, by rw [n2]; exact c, hB⟩
      unfold rstepF scanK
      rw [a0, hc]
      rfl

def lastK (u : Nat) : List Tok → Nat
  | [] => u
  | t :: n => lastK t.kind n
theorem lastK_end (t : Tok) : ∀ (n : List Tok) (u : Nat), lastK u (n ++ [t]) = t.kind := by
  intro n
  induction n with
  | nil => intro u; rfl
  | cons a n ih => intro u; exact ih a.kind
theorem showB_app (m : List Tok) : ∀ (n : List Tok) (u : Nat), showB u (n ++ m) = showB u n ++ showB (lastK u n) m := by
  intro n
  induction n with
  | nil => intro u; rfl
  | cons t n ih =>
    intro u
    show showB u (t :: (n ++ m)) = _
    rw [showB_cons, showB_cons, ih t.kind]
    simp only [List.append_assoc]
    rfl
theorem canB_u {k : Nat} {t : Tok} (hk : k ≠ 9) (h9 : t.kind ≠ 9) : canB k t = canB 8 t := by
  unfold canB
  rw [if_neg hk, if_neg h9, if_neg h9, if_neg (show ¬ (8 : Nat) = 9 by decide)]
theorem showB_next {k : Nat} {t : Tok} {m : List Tok} (h8 : k ≠ 8) (hk : k ≠ 9) (h9 : t.kind ≠ 9) : showB k (t :: m) = 32 :: showB 8 (t :: m) := by
  rw [showB_start, showB_cons, if_pos ⟨h8, hk, h9⟩, canB_u hk h9]
  rfl

theorem rawL_show {s : ByteArray} (hg : ∀ i, i < s.size → badB (pk s i) = false) : ∀ (f : Nat) (r re : RSt) (bs bse : List Brk), s.size < r.pos + f → Bo s r bs → rawL s f r bs = .ok (re, bse) →
    ∃ n, re.out = r.out ++ n ∧ (∀ t m, n = t :: m → t.kind ≠ 9) ∧ (showB 8 n).length + 5 * r.pos ≤ 5 * re.pos ∧ re.pos ≤ s.size ∧ (∀ b ∈ showB 8 n, badB b = false) ∧
      ∀ S R BS F, R.pos + (showB 8 n).length = S.size → SimB bs BS → At S R.pos (showB 8 n) → S.size < R.pos + F →
        (n ≠ [] → ¬ (pk S R.pos = 32 ∨ pk S R.pos = 9 ∨ pk S R.pos = 10) ∧ comB S R.pos = false) ∧ ∃ Re BSe, rawL S F R BS = .ok (Re, BSe) ∧ (∃ n', Re.out = R.out ++ n' ∧ n'.map kt = n.map kt) ∧ SimB bse BSe := by
  intro f
  induction f with
  | zero => intro r re bs bse hf hb; have := hb.rg.ri.pos; omega
  | succ f ih =>
    intro r re bs bse hf hb h
    have hrs := hb.rg.ri.pos
    rw [rawL_succ] at h
    split at h
    · rename_i hlt
      split at h
      · cases h
      · rename_i r1 bs1 hx
        split at h
        · cases h
        · rename_i q hq
          obtain ⟨b1, b2, b3, b4, b5, b6⟩ := hb.next hlt hx hq
          obtain ⟨hk, n1, s1, s2⟩ := rstep_show hb.rg hg hlt hb.cm hx
          obtain ⟨n2, m1, m2, m3, m4, m5, m6⟩ := ih { r1 with pos := q } re bs1 bse (by simp only; omega) b1 h
          obtain ⟨t0, k0, e0, e9⟩ := hk.fst
          have en1 : n1 = t0 :: k0 := List.append_cancel_left (by rw [← s1.out, e0])
          obtain ⟨k1, t1, e1, f8, f9⟩ := hk.lst
          have en2 : n1 = k1 ++ [t1] := List.append_cancel_left (by rw [← s1.out, e1])
          have hlast : lastK 8 n1 = t1.kind := by rw [en2]; exact lastK_end t1 k1 8
          have hlen := s1.len
          simp only at m1 m3
          have hout : re.out = r.out ++ (n1 ++ n2) := by rw [m1, s1.out, List.append_assoc]
          have hfst : ∀ t m, n1 ++ n2 = t :: m → t.kind ≠ 9 := by
            intro t m e
            rw [en1] at e
            injection e with e _
            rw [← e]
            exact e9
          -- the rest, behind the step
          have tail : ∀ S R R1 BS BS1 F k, n1 ++ n2 ≠ [] → S.size < R.pos + (F + 1) → R.pos < S.size → R.pos < k → rstepF S R BS = .ok (R1, BS1) → (∃ n', R1.out = R.out ++ n' ∧ n'.map kt = n1.map kt) → SimB bs1 BS1 → skipF S (S.size + 1) R1.pos = .ok k → k + (showB 8 n2).length = S.size → At S k (showB 8 n2) →
              ∃ Re BSe, rawL S (F + 1) R BS = .ok (Re, BSe) ∧ (∃ n', Re.out = R.out ++ n' ∧ n'.map kt = (n1 ++ n2).map kt) ∧ SimB bse BSe := by
            intro S R R1 BS BS1 F k _ hF hRl hRk hst ho hB1 hsk hle hA
            obtain ⟨_, Re, BSe, y1, y2, y3⟩ := m6 S { R1 with pos := k } BS1 F hle hB1 hA (by simp only; omega)
            rw [rawL_succ, if_pos hRl, hst]
            simp only
            rw [hsk]
            obtain ⟨u, hu1, hu2⟩ := ho
            obtain ⟨v, hv1, hv2⟩ := y2
            refine ⟨Re, BSe, y1, ⟨u ++ v, ?_, by rw [List.map_append, List.map_append, hu2, hv2]⟩, y3⟩
            rw [hv1]
            show R1.out ++ v = _
            rw [hu1, List.append_assoc]
          have hpos1 : 1 ≤ (showB 8 n1).length ∨ True := .inr trivial
          clear hpos1
          cases n2 with
          | nil =>
            rw [List.append_nil] at hout hfst tail
            refine ⟨n1, hout, hfst, by omega, m4, s1.good, ?_⟩
            intro S R BS F hS hB hA hF
            have hE : Bnd S (R.pos + (showB 8 n1).length) := .inr (by rw [hS]; exact pk_end S (Nat.le_refl _))
            obtain ⟨c1, c2, R1, BS1, c3, c4, c5⟩ := s2 S R BS (by omega) hB hA hE
            have hRl : R.pos < S.size := pk_ne (s := S) (a := R.pos) (by
              intro e0
              have hbad := hg r.pos hlt
              rw [← c1, e0] at hbad
              exact absurd hbad (by decide))
            refine ⟨fun _ => ⟨by rw [c1]; exact hb.bl, c2⟩, ?_⟩
            obtain ⟨F2, rfl⟩ : ∃ F2, F = F2 + 1 := ⟨F - 1, by omega⟩
            have hp0 : pk S R1.pos = 0 := by rw [c4.pos, hS]; exact pk_end S (Nat.le_refl _)
            refine tail S R R1 BS BS1 F2 R1.pos (by rw [en1]; simp) hF hRl (by rw [c4.pos, hS]; exact hRl) c3 c4.out c5 ?_ (by rw [c4.pos, hS]; rfl) (At.nil _ _)
            exact skipF_here (by omega) (by rw [hp0]; decide) (comB_no (by rw [hp0]; decide +kernel))
          | cons t2 k2 =>
            have ht2 := m2 t2 k2 rfl
            have hsh : showB 8 (n1 ++ t2 :: k2) = showB 8 n1 ++ (32 :: showB 8 (t2 :: k2)) := by rw [showB_app, hlast, showB_next f8 f9 ht2]
            refine ⟨n1 ++ t2 :: k2, hout, hfst, ?_, m4, ?_, ?_⟩
            · rw [hsh, List.length_append, List.length_cons]
              omega
            · rw [hsh]
              intro b hb
              rcases List.mem_append.1 hb with hb | hb
              · exact s1.good b hb
              · rcases List.mem_cons.1 hb with rfl | hb
                · decide
                · exact m5 b hb
            · intro S R BS F hS hB hA hF
              rw [hsh] at hS hA
              rw [List.length_append, List.length_cons] at hS
              obtain ⟨a1, a2⟩ := hA.app
              obtain ⟨a3, a4, a5⟩ := a2.cons
              obtain ⟨c1, c2, R1, BS1, c3, c4, c5⟩ := s2 S R BS (by omega) hB a1 (.inl a3)
              refine ⟨fun _ => ⟨by rw [c1]; exact hb.bl, c2⟩, ?_⟩
              obtain ⟨F2, rfl⟩ : ∃ F2, F = F2 + 1 := ⟨F - 1, by omega⟩
              have hRl : R.pos < S.size := by omega
              have hp1 := c4.pos
              obtain ⟨z1, _⟩ := m6 S { R1 with pos := R1.pos + 1 } BS1 (S.size + 1) (by simp only; omega) c5 (by simp only; rw [hp1]; exact a5) (by simp only; omega)
              obtain ⟨z2, z3⟩ := z1 (by simp)
              refine tail S R R1 BS BS1 F2 (R1.pos + 1) (by rw [en1]; simp) hF hRl (by omega) c3 c4.out c5 ?_ (by omega) (by rw [hp1]; exact a5)
              unfold skipF
              rw [hp1, a3, if_pos (.inl rfl), ← hp1]
              exact skipF_here (by omega) z2 z3
    · rename_i hlt
      injection h with h
      injection h with e1 e2
      subst e1 e2
      refine ⟨[], by simp, by simp, by rw [showB_nil]; simp, hrs, by rw [showB_nil]; simp, ?_⟩
      intro S R BS F hS hB hA hF
      refine ⟨fun e => absurd rfl e, R, BS, ?_, ⟨[], by simp, rfl⟩, hB⟩
      obtain ⟨F2, rfl⟩ : ∃ F2, F = F2 + 1 := ⟨F - 1, by rw [showB_nil] at hS; simp at hS; omega⟩
      rw [showB_nil] at hS
      simp at hS
      rw [rawL_succ, if_neg (by omega)]

/-- The text of a list of tokens, as Show writes it. -/
def showF (l : List Tok) : ByteArray := ⟨(showB 8 l).toArray⟩
theorem showF_size (l : List Tok) : (showF l).size = (showB 8 l).length := by
  show (showB 8 l).toArray.size = _
  simp
theorem showF_at (l : List Tok) : At (showF l) 0 (showB 8 l) := by
  intro i b hb
  have hi := (List.getElem?_eq_some_iff.1 hb).1
  have hs := showF_size l
  refine ⟨?_, by omega⟩
  rw [Nat.zero_add, pk_lt (show i < (showF l).size by omega)]
  rw [List.getElem?_eq_getElem hi] at hb
  exact Option.some.inj hb

/-- What Show writes of a text's tokens is read back. -/
theorem raw_show {s : ByteArray} {l : List Tok} (h : rawF s = .ok l) (hs : s.size ≤ 13000) : (showF l).size ≤ 65000 ∧ ∃ m, rawF (showF l) = .ok m ∧ m.map kt = l.map kt := by
  obtain ⟨hb, k, r, hk, hr, hl⟩ := rawF_parts h
  obtain ⟨hb1, hb2⟩ := bytesF_none.1 hb
  have hk1 := skipF_ok _ _ _ (by omega) (by omega) hk
  have hk2 := skipF_stop _ _ _ (by omega) (by omega) hk
  have hbo : Bo s ⟨k, [], 0, 0, 0⟩ [] := ⟨⟨⟨hk1.2.1, by simp, by simp, by simp, by simp⟩, by simp, by simp⟩, hk1.2.2, hk2, ⟨rfl, by simp, by simp⟩, rfl⟩
  obtain ⟨n, n1, n2, n3, n4, n5, n6⟩ := rawL_show hb2 _ _ _ _ _ (by simp only; omega) hbo hr
  have hn : n = l := by rw [← hl, n1]; rfl
  subst hn
  have hsz := showF_size n
  simp only at n3
  refine ⟨by omega, ?_⟩
  obtain ⟨z1, Re, BSe, z2, ⟨n', z3, z4⟩, z5⟩ := n6 (showF n) ⟨0, [], 0, 0, 0⟩ [] ((showF n).size + 1) (by simp only; omega) (SimB.refl _) (showF_at n) (by simp only; omega)
  have hbse : BSe = [] := by
    have := z5.len
    cases BSe with
    | nil => rfl
    | cons a b => simp at this
  subst hbse
  have hby : bytesF (showF n) = none := by
    rw [bytesF_none]
    refine ⟨by omega, fun j hj => ?_⟩
    have ha := (showF_at n) j ((showB 8 n)[j]'(by omega)) (List.getElem?_eq_getElem _)
    rw [Nat.zero_add] at ha
    rw [ha.1]
    exact n5 _ (List.getElem_mem _)
  have hsk : skipF (showF n) ((showF n).size + 1) 0 = .ok 0 := by
    by_cases hne : n = []
    · subst hne
      have h0 : pk (showF []) 0 = 0 := pk_end _ (Nat.le_refl _)
      exact skipF_here (by omega) (by rw [h0]; decide) (comB_no (by rw [h0]; decide +kernel))
    · obtain ⟨y1, y2⟩ := z1 hne
      exact skipF_here (by omega) y1 y2
  refine ⟨Re.out, rawF_of hby hsk z2, ?_⟩
  rw [z3]
  simpa using z4
end Go.Proofs.YtpgcklpcohcchaaDoor
