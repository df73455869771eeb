/-
  MATHEMATICS of the lexer: words that stand in a text are scanned back, one by one.
-/
import Derived.Test.YtklogijbdpghpaaDoorLXQ
namespace Go.Proofs.YtklogijbdpghpaaDoor
set_option linter.unusedVariables false
theorem wdF_spec (s : ByteArray) : ∀ f i, i + f = s.size → (wdF s f i < s.size → isW (byt s (wdF s f i)) = false) ∧ ∀ k, i ≤ k → k < wdF s f i → isW (byt s k) = true
  | 0, i, h => ⟨fun h2 => by rw [wdF] at h2; omega, fun k h1 h2 => by rw [wdF] at h2; omega⟩
  | f + 1, i, h => by
    rw [wdF]
    split
    · rename_i h3
      have := wdF_spec s f (i + 1) (by omega)
      refine ⟨this.1, fun k h1 h2 => ?_⟩
      rcases Nat.lt_or_ge i k with h4 | h4
      · exact this.2 k h4 h2
      · obtain rfl : k = i := by omega
        exact h3
    · rename_i h3
      exact ⟨fun _ => by simpa using h3, fun k h1 h2 => by omega⟩
theorem wdP_spec (s : ByteArray) (i : Nat) (h : i ≤ s.size) : (wdP s i < s.size → isW (byt s (wdP s i)) = false) ∧ ∀ k, i ≤ k → k < wdP s i → isW (byt s k) = true := wdF_spec s _ _ (by omega)
theorem wdP_uniq {s : ByteArray} {i q : Nat} (h1 : i ≤ q) (h2 : q ≤ s.size) (h3 : q < s.size → isW (byt s q) = false) (h4 : ∀ k, i ≤ k → k < q → isW (byt s k) = true) : wdP s i = q := by
  have hl := wdP_le s i (by omega)
  have hs := wdP_spec s i (by omega)
  rcases Nat.lt_trichotomy (wdP s i) q with h | h | h
  · have := hs.1 (by omega)
    rw [h4 _ hl.1 h] at this
    cases this
  · exact h
  · have := hs.2 q h1 h
    rw [h3 (by omega)] at this
    cases this
/-- A word stands at an offset. -/
def At (t : ByteArray) (i : Nat) (w : ByteArray) : Prop := i + w.size ≤ t.size ∧ ∀ k, k < w.size → byt t (i + k) = byt w k
/-- Behind it comes the end, or a space. -/
def Sep (t : ByteArray) (j : Nat) : Prop := j < t.size → byt t j = 32
theorem At.sub {t w : ByteArray} {i : Nat} (h : At t i w) : t.extract i (i + w.size) = w := by
  apply byt_ext
  · rw [size_sub _ _ _ h.1]; omega
  · intro k hk
    rw [size_sub _ _ _ h.1] at hk
    rw [byt_sub _ _ _ _ h.1 (by omega)]
    exact h.2 k (by omega)
theorem isW_32 : isW 32 = false := by decide
/-- A name. -/
structure NameX (w : ByteArray) : Prop where
  pos : 0 < w.size
  le : w.size ≤ 16
  first : letterB (byt w 0) = true
  all : ∀ k, k < w.size → isW (byt w k) = true
theorem lex_name {t w : ByteArray} {i : Nat} (hw : NameX w) (hA : At t i w) (hS : Sep t (i + w.size)) : lexE t i = 0 ∧ lexN t i = i + w.size ∧ lexX t i = ⟨1, w, 0, i⟩ := by
  have h0 : byt t i = byt w 0 := hA.2 0 hw.pos
  have hl : letterB (byt t i) = true := by rw [h0]; exact hw.first
  have hp := hw.pos
  have hq : wdP t i = i + w.size := wdP_uniq (by omega) hA.1 (fun h => by rw [hS h]; exact isW_32) fun k h1 h2 => by
    have := hA.2 (k - i) (by omega)
    rw [show i + (k - i) = k by omega] at this
    rw [this]
    exact hw.all _ (by omega)
  refine ⟨?_, ?_, ?_⟩
  · unfold lexE
    rw [hl, if_pos rfl, hq, if_neg (by have := hw.le; omega)]
  · unfold lexN
    rw [hl, Bool.true_or, if_pos rfl, hq]
  · unfold lexX
    rw [hl, if_pos rfl, hq, hA.sub]
/-- What a scan finds as a name is one. -/
theorem name_of {s : ByteArray} {i : Nat} (h : i < s.size) (hl : letterB (byt s i) = true) (he : lexE s i = 0) : NameX (s.extract i (wdP s i)) ∧ (s.extract i (wdP s i)).size = lexN s i - i := by
  have hle := wdP_le s i (by omega)
  have hsp := wdP_spec s i (by omega)
  have hw1 : i + 1 ≤ wdP s i := by
    rw [wdP_go s i h (by unfold isW; rw [hl]; rfl)]
    exact (wdP_le s (i + 1) h).1
  have hN : lexN s i = wdP s i := by unfold lexN; rw [hl]; rfl
  have h16 : ¬ 16 < wdP s i - i := by
    intro hh
    unfold lexE at he
    rw [hl, if_pos rfl, if_pos hh] at he
    exact absurd he (by decide)
  have hz := size_sub s i (wdP s i) hle.2
  refine ⟨⟨by omega, by omega, ?_, fun k hk => ?_⟩, by rw [hN]; exact hz⟩
  · rw [byt_sub _ _ _ _ hle.2 (by omega), Nat.add_zero]; exact hl
  · rw [byt_sub _ _ _ _ hle.2 (by omega)]
    exact hsp.2 _ (by omega) (by omega)
/-- A text between quotation marks. -/
structure TextX (w : ByteArray) : Prop where
  le : w.size ≤ 100
  all : ∀ k, k < w.size → 32 ≤ byt w k ∧ byt w k ≤ 126 ∧ byt w k ≠ 34
theorem lex_text {t w : ByteArray} {i : Nat} (hw : TextX w) (hA : At t (i + 1) w) (h1 : byt t i = 34) (h2 : i + 1 + w.size < t.size) (h3 : byt t (i + 1 + w.size) = 34) : lexE t i = 0 ∧ lexN t i = i + (w.size + 2) ∧ lexX t i = ⟨3, w, 0, i⟩ := by
  have hl : letterB (byt t i) = false := by rw [h1]; rfl
  have hd : digitB (byt t i) = false := by rw [h1]; rfl
  have h34 : (byt t i == 34) = true := by rw [h1]; rfl
  have hat : ∀ k, i + 1 ≤ k → k < i + 1 + w.size → 32 ≤ byt t k ∧ byt t k ≤ 126 ∧ byt t k ≠ 34 := fun k a b => by
    have := hA.2 (k - (i + 1)) (by omega)
    rw [show i + 1 + (k - (i + 1)) = k by omega] at this
    rw [this]
    exact hw.all _ (by omega)
  have hq : quP t (i + 1) = i + 1 + w.size := quP_uniq (by omega) (by omega) (fun _ => h3) fun k a b => (hat k a b).2.2
  have hp : prB t (i + 1) (quP t (i + 1)) = true := (prB_iff t _ _).2 fun k a b => by rw [hq] at b; exact ⟨(hat k a b).1, (hat k a b).2.1⟩
  refine ⟨?_, ?_, ?_⟩
  · unfold lexE
    rw [hl, hd, h34, hp, hq]
    have := hw.le
    simp only [Bool.false_eq_true, if_false, if_true, h2, and_self]
    rw [if_neg (by omega)]
  · unfold lexN
    rw [hl, hd, h34, hq]
    simp only [Bool.or_self, Bool.false_eq_true, if_false, if_true]
    omega
  · unfold lexX
    rw [hl, hd, h34, hq]
    simp only [Bool.false_eq_true, if_false, if_true]
    rw [hA.sub]
theorem text_of {s : ByteArray} {i : Nat} (h : i < s.size) (hl : letterB (byt s i) = false) (hd : digitB (byt s i) = false) (h34 : (byt s i == 34) = true) (he : lexE s i = 0) : TextX (s.extract (i + 1) (quP s (i + 1))) ∧ (s.extract (i + 1) (quP s (i + 1))).size + 2 = lexN s i - i := by
  have hle := quP_le s (i + 1) h
  have hsp := quP_spec s (i + 1) h
  have hN : lexN s i = quP s (i + 1) + 1 := by unfold lexN; rw [hl, hd, h34]; rfl
  unfold lexE at he
  rw [hl, hd, h34] at he
  simp only [Bool.false_eq_true, if_false, if_true] at he
  split at he
  · rename_i hh
    have h100 : ¬ 100 < quP s (i + 1) - (i + 1) := by
      intro h9
      rw [if_pos h9] at he
      exact absurd he (by decide)
    have hz := size_sub s (i + 1) (quP s (i + 1)) hle.2
    refine ⟨⟨by omega, fun k hk => ?_⟩, by omega⟩
    rw [byt_sub _ _ _ _ hle.2 (by omega)]
    have h7 := (prB_iff s _ _).1 hh.2 (i + 1 + k) (by omega) (by omega)
    exact ⟨h7.1, h7.2, hsp.2 _ (by omega) (by omega)⟩
  · exact absurd he (by decide)
end Go.Proofs.YtklogijbdpghpaaDoor
