/-
  MATHEMATICS of the lexer: what skipping, words, texts, lexemes and a scan are.
-/
import Derived.Test.YtklogijbdpghpaaDoorPMath
namespace Go.Proofs.YtklogijbdpghpaaDoor
set_option linter.unusedVariables false
def isSp (c : Int) : Bool := c == 32 || c == 9 || c == 10
def letterB (c : Int) : Bool := decide ((97 ≤ c ∧ c ≤ 122) ∨ (65 ≤ c ∧ c ≤ 90))
def digitB (c : Int) : Bool := decide (48 ≤ c ∧ c ≤ 57)
def isW (c : Int) : Bool := letterB c || digitB c || c == 95
def isMk (c : Int) : Bool := c == 40 || c == 41 || c == 123 || c == 125 || c == 44 || c == 59 || c == 58 || c == 61 || c == 60 || c == 62 || c == 43 || c == 45 || c == 42 || c == 37 || c == 46
def go1 (s : ByteArray) (b : Bool) (i : Nat) : Bool := b || isSp (byt s i) || byt s i == 35
def go2 (s : ByteArray) (b : Bool) (i : Nat) : Bool := (b || byt s i == 35) && byt s i != 10
def skF (s : ByteArray) : Nat → Bool → Nat → Nat
  | 0, _, i => i
  | f + 1, b, i => if go1 s b i then skF s f (go2 s b i) (i + 1) else i
/-- The offset of the next byte that is not in a space or a remark. -/
def skP (s : ByteArray) (b : Bool) (i : Nat) : Nat := skF s (s.size - i) b i
theorem skP_end (s : ByteArray) (b : Bool) (i : Nat) (h : s.size ≤ i) : skP s b i = i := by
  unfold skP; rw [show s.size - i = 0 by omega]; rfl
theorem skP_go (s : ByteArray) (b : Bool) (i : Nat) (h : i < s.size) (hg : go1 s b i = true) : skP s b i = skP s (go2 s b i) (i + 1) := by
  unfold skP; rw [show s.size - i = (s.size - (i + 1)) + 1 by omega, skF, if_pos hg]
theorem skP_stop (s : ByteArray) (b : Bool) (i : Nat) (hg : go1 s b i = false) : skP s b i = i := by
  unfold skP
  cases s.size - i with
  | zero => rfl
  | succ f => rw [skF, if_neg (by rw [hg]; exact Bool.false_ne_true)]
def wdF (s : ByteArray) : Nat → Nat → Nat
  | 0, i => i
  | f + 1, i => if isW (byt s i) then wdF s f (i + 1) else i
/-- The end of the word that begins at an offset. -/
def wdP (s : ByteArray) (i : Nat) : Nat := wdF s (s.size - i) i
theorem wdP_end (s : ByteArray) (i : Nat) (h : s.size ≤ i) : wdP s i = i := by
  unfold wdP; rw [show s.size - i = 0 by omega]; rfl
theorem wdP_go (s : ByteArray) (i : Nat) (h : i < s.size) (hg : isW (byt s i) = true) : wdP s i = wdP s (i + 1) := by
  unfold wdP; rw [show s.size - i = (s.size - (i + 1)) + 1 by omega, wdF, if_pos hg]
theorem wdP_stop (s : ByteArray) (i : Nat) (hg : isW (byt s i) = false) : wdP s i = i := by
  unfold wdP
  cases s.size - i with
  | zero => rfl
  | succ f => rw [wdF, if_neg (by rw [hg]; exact Bool.false_ne_true)]
def quF (s : ByteArray) : Nat → Nat → Nat
  | 0, i => i
  | f + 1, i => if byt s i == 34 then i else quF s f (i + 1)
/-- The offset of the next quotation mark, or the end. -/
def quP (s : ByteArray) (i : Nat) : Nat := quF s (s.size - i) i
theorem quP_end (s : ByteArray) (i : Nat) (h : s.size ≤ i) : quP s i = i := by
  unfold quP; rw [show s.size - i = 0 by omega]; rfl
theorem quP_go (s : ByteArray) (i : Nat) (h : i < s.size) (hg : byt s i ≠ 34) : quP s i = quP s (i + 1) := by
  unfold quP; rw [show s.size - i = (s.size - (i + 1)) + 1 by omega, quF, if_neg (by simpa using hg)]
theorem quP_stop (s : ByteArray) (i : Nat) (hg : byt s i = 34) : quP s i = i := by
  unfold quP
  cases s.size - i with
  | zero => rfl
  | succ f => rw [quF, if_pos (by simpa using hg)]
theorem byt_out (s : ByteArray) (k : Nat) (h : s.size ≤ k) : byt s k = 0 := by
  rw [byt, List.getD_eq_getElem?_getD, List.getElem?_eq_none (by simpa using h)]; rfl
theorem byt_bd (s : ByteArray) (k : Nat) : 0 ≤ byt s k ∧ byt s k ≤ 255 := by
  unfold byt
  have := (s.data.toList.getD k 0).toNat_lt
  omega
/- what each of them keeps within -/
theorem skF_le (s : ByteArray) : ∀ f b i, i ≤ skF s f b i ∧ skF s f b i ≤ i + f
  | 0, b, i => ⟨Nat.le_refl _, Nat.le_refl _⟩
  | f + 1, b, i => by
    rw [skF]
    split
    · have := skF_le s f (go2 s b i) (i + 1)
      omega
    · omega
theorem skP_le (s : ByteArray) (b : Bool) (i : Nat) (h : i ≤ s.size) : i ≤ skP s b i ∧ skP s b i ≤ s.size := by
  have := skF_le s (s.size - i) b i
  unfold skP
  omega
theorem wdF_le (s : ByteArray) : ∀ f i, i ≤ wdF s f i ∧ wdF s f i ≤ i + f
  | 0, i => ⟨Nat.le_refl _, Nat.le_refl _⟩
  | f + 1, i => by
    rw [wdF]
    split
    · have := wdF_le s f (i + 1)
      omega
    · omega
theorem wdP_le (s : ByteArray) (i : Nat) (h : i ≤ s.size) : i ≤ wdP s i ∧ wdP s i ≤ s.size := by
  have := wdF_le s (s.size - i) i
  unfold wdP
  omega
theorem quF_le (s : ByteArray) : ∀ f i, i ≤ quF s f i ∧ quF s f i ≤ i + f
  | 0, i => ⟨Nat.le_refl _, Nat.le_refl _⟩
  | f + 1, i => by
    rw [quF]
    split
    · omega
    · have := quF_le s f (i + 1)
      omega
theorem quP_le (s : ByteArray) (i : Nat) (h : i ≤ s.size) : i ≤ quP s i ∧ quP s i ≤ s.size := by
  have := quF_le s (s.size - i) i
  unfold quP
  omega
/- each of them on what is left of a text -/
def off (s : ByteArray) (i : Nat) : ByteArray := s.extract i s.size
theorem off_size (s : ByteArray) (i : Nat) : (off s i).size = s.size - i := by unfold off; rw [ByteArray.size_extract, Nat.min_self]
theorem off_byt (s : ByteArray) (i k : Nat) : byt (off s i) k = byt s (i + k) := by
  rcases Nat.lt_or_ge k (s.size - i) with h | h
  · unfold off
    rw [byt, byt, ByteArray.data_extract, Array.toList_extract, List.getD_eq_getElem?_getD, List.getD_eq_getElem?_getD]
    have h2 : i + k < s.data.size := by have : s.data.size = s.size := rfl; omega
    simp [List.extract, h, Array.getElem?_eq_getElem h2]
  · rw [byt_out _ _ (by rw [off_size]; exact h), byt_out _ _ (by omega)]
theorem off_sub (s : ByteArray) (i a b : Nat) : (off s i).extract a b = s.extract (i + a) (min (i + b) s.size) := by
  unfold off
  rw [ByteArray.extract_extract]
theorem wdF_off (s : ByteArray) (i : Nat) : ∀ f j, i + wdF (off s i) f j = wdF s f (i + j)
  | 0, j => rfl
  | f + 1, j => by
    rw [wdF, wdF, off_byt]
    split
    · exact wdF_off s i f (j + 1)
    · rfl
theorem wdP_off (s : ByteArray) (i j : Nat) : i + wdP (off s i) j = wdP s (i + j) := by
  unfold wdP
  rw [off_size, wdF_off, show s.size - i - j = s.size - (i + j) by omega]
theorem quF_off (s : ByteArray) (i : Nat) : ∀ f j, i + quF (off s i) f j = quF s f (i + j)
  | 0, j => rfl
  | f + 1, j => by
    rw [quF, quF, off_byt]
    split
    · rfl
    · exact quF_off s i f (j + 1)
theorem quP_off (s : ByteArray) (i j : Nat) : i + quP (off s i) j = quP s (i + j) := by
  unfold quP
  rw [off_size, quF_off, show s.size - i - j = s.size - (i + j) by omega]
/- numbers -/
def valF (s : ByteArray) : Nat → Nat
  | 0 => 0
  | k + 1 => 10 * valF s k + (byt s k - 48).toNat
def dgsB (s : ByteArray) : Bool := (List.range s.size).all fun k => digitB (byt s k)
/-- The number of a word that begins with a digit, and the error. -/
def numE (s : ByteArray) : Int := if !dgsB s || (decide (1 < s.size) && byt s 0 == 48) then 2 else if 9007199254740992 < valF s s.size then 4 else 0
def numN (s : ByteArray) : Int := if numE s = 0 then (valF s s.size : Int) else 0
/-- Every byte between two offsets is printable. -/
def prB (s : ByteArray) (a b : Nat) : Bool := (List.range (b - a)).all fun k => decide (32 ≤ byt s (a + k) ∧ byt s (a + k) ≤ 126)
structure Lx where
  k : Int
  t : ByteArray
  n : Int
  p : Int
def Lx.zero : Lx := ⟨0, ⟨#[]⟩, 0, 0⟩
def mk2 (s : ByteArray) (i : Nat) : Bool := decide (i + 1 < s.size) && byt s (i + 1) == 61 && (byt s i == 33 || byt s i == 60)
/-- The error of the lexeme that begins at an offset. -/
def lexE (s : ByteArray) (i : Nat) : Int :=
  if letterB (byt s i) then (if 16 < wdP s i - i then 3 else 0)
  else if digitB (byt s i) then numE (s.extract i (wdP s i))
  else if byt s i == 34 then (if quP s (i + 1) < s.size ∧ prB s (i + 1) (quP s (i + 1)) then (if 100 < quP s (i + 1) - (i + 1) then 3 else 0) else 2)
  else if mk2 s i then 0 else if isMk (byt s i) then 0 else 2
/-- The offset behind it. -/
def lexN (s : ByteArray) (i : Nat) : Nat :=
  if letterB (byt s i) || digitB (byt s i) then wdP s i
  else if byt s i == 34 then quP s (i + 1) + 1
  else if mk2 s i then i + 2 else i + 1
def lexX (s : ByteArray) (i : Nat) : Lx :=
  if letterB (byt s i) then ⟨1, s.extract i (wdP s i), 0, i⟩
  else if digitB (byt s i) then ⟨2, ⟨#[]⟩, numN (s.extract i (wdP s i)), i⟩
  else if byt s i == 34 then ⟨3, s.extract (i + 1) (quP s (i + 1)), 0, i⟩
  else ⟨4, s.extract i (lexN s i), 0, i⟩
/-- What a scan answers: the lexemes, or an error and its offset. -/
structure Res where
  l : List Lx
  e : Int
  p : Nat
def scF (s : ByteArray) : Nat → Nat → List Lx → Res
  | 0, i, l => ⟨[], 0, 0⟩
  | f + 1, i, l =>
    if i < s.size then (if lexE s i = 0 then scF s f (skP s false (lexN s i)) (l ++ [lexX s i]) else ⟨[], lexE s i, i⟩)
    else ⟨l ++ [⟨0, ⟨#[]⟩, 0, s.size⟩], 0, 0⟩
theorem lexN_lt (s : ByteArray) (i : Nat) (h : i < s.size) (he : lexE s i = 0) : i < lexN s i ∧ lexN s i ≤ s.size := by
  have hw := wdP_le s (i + 1) h
  have hq := quP_le s (i + 1) h
  unfold lexN
  unfold lexE at he
  by_cases h1 : letterB (byt s i) = true
  · rw [if_pos (by rw [h1]; rfl), wdP_go s i h (by unfold isW; rw [h1]; rfl)]
    omega
  by_cases h2 : digitB (byt s i) = true
  · rw [if_pos (by rw [h2]; simp), wdP_go s i h (by unfold isW; rw [h2]; simp)]
    omega
  rw [if_neg (by simp [h1, h2])]
  rw [if_neg h1, if_neg h2] at he
  split
  · rename_i h3
    rw [if_pos h3] at he
    by_cases h4 : quP s (i + 1) < s.size ∧ prB s (i + 1) (quP s (i + 1)) = true
    · omega
    · rw [if_neg h4] at he
      omega
  · split
    · rename_i h5
      unfold mk2 at h5
      simp at h5
      omega
    · omega
/-- A scan, from an offset that begins a lexeme or is the end. -/
def scP (s : ByteArray) (i : Nat) (l : List Lx) : Res := scF s (s.size + 1 - i) i l
theorem scF_more (s : ByteArray) : ∀ f g i l, s.size + 1 - i ≤ f → s.size + 1 - i ≤ g → i ≤ s.size → scF s f i l = scF s g i l
  | 0, g, i, l, hf, hg, hi => by omega
  | f + 1, 0, i, l, hf, hg, hi => by omega
  | f + 1, g + 1, i, l, hf, hg, hi => by
    rw [scF, scF]
    split
    · rename_i h
      split
      · rename_i he
        have h1 := lexN_lt s i h he
        have h2 := skP_le s false (lexN s i) h1.2
        exact scF_more s f g _ _ (by omega) (by omega) h2.2
      · rfl
    · rfl
theorem scP_go (s : ByteArray) (i : Nat) (l : List Lx) (h : i < s.size) (he : lexE s i = 0) : scP s i l = scP s (skP s false (lexN s i)) (l ++ [lexX s i]) := by
  have h1 := lexN_lt s i h he
  have h2 := skP_le s false (lexN s i) h1.2
  unfold scP
  rw [show s.size + 1 - i = (s.size - i) + 1 by omega, scF, if_pos h, if_pos he]
  exact scF_more s _ _ _ _ (by omega) (by omega) h2.2
theorem scP_bad (s : ByteArray) (i : Nat) (l : List Lx) (h : i < s.size) (he : lexE s i ≠ 0) : scP s i l = ⟨[], lexE s i, i⟩ := by
  unfold scP
  rw [show s.size + 1 - i = (s.size - i) + 1 by omega, scF, if_pos h, if_neg he]
theorem scP_end (s : ByteArray) (l : List Lx) : scP s s.size l = ⟨l ++ [⟨0, ⟨#[]⟩, 0, s.size⟩], 0, 0⟩ := by
  unfold scP
  rw [show s.size + 1 - s.size = 0 + 1 by omega, scF, if_neg (by omega)]
/-- The whole scan. -/
def scS (s : ByteArray) : Res := if 4000 < s.size then ⟨[], 3, 0⟩ else scP s (skP s false 0) []
end Go.Proofs.YtklogijbdpghpaaDoor
