/-
  MATHEMATICS of the lexer: a lexeme of what is left of a text; marks.
-/
import Derived.Test.YtklogijbdpghpaaDoorL6
namespace Go.Proofs.YtklogijbdpghpaaDoor
set_option linter.unusedVariables false
theorem off_off (s : ByteArray) (i j : Nat) (h : i + j ≤ s.size) : off (off s i) j = off s (i + j) := by
  unfold off
  rw [ByteArray.extract_extract, ByteArray.size_extract]
  congr 1
  omega
theorem litE_off (u : ByteArray) (h : 0 < u.size) : litE (off u 1) = if quP u 1 < u.size ∧ prB u 1 (quP u 1) then (if 100 < quP u 1 - 1 then 3 else 0) else 2 := by
  have h1 := quP_off u 1 0
  have h2 := prB_off u 1 0 (quP (off u 1) 0)
  rw [Nat.add_zero] at h1 h2
  unfold litE
  rw [h2, h1, off_size]
  have e1 : (quP (off u 1) 0 < u.size - 1) ↔ quP u 1 < u.size := by omega
  have e2 : quP (off u 1) 0 = quP u 1 - 1 := by omega
  simp only [e1]
  rw [e2]
theorem litT_off (u : ByteArray) (h : 0 < u.size) (he : litE (off u 1) = 0) : litT (off u 1) = u.extract 1 (quP u 1) := by
  have h1 := quP_off u 1 0
  have hq := quP_le u 1 h
  rw [Nat.add_zero] at h1
  unfold litT
  rw [if_pos he, off_sub, h1, Nat.min_eq_left hq.2]
theorem lex_off (s : ByteArray) (i : Nat) (h : i < s.size) : lexE (off s i) 0 = lexE s i ∧ i + lexN (off s i) 0 = lexN s i ∧ (∀ x, x = lexX (off s i) 0 → { x with p := (i : Int) } = lexX s i) := by
  have b0 := off_byt s i 0
  have b1 := off_byt s i 1
  rw [Nat.add_zero] at b0
  have w0 := wdP_off s i 0
  rw [Nat.add_zero] at w0
  have q1 := quP_off s i 1
  have p1 := prB_off s i 1 (quP (off s i) 1)
  rw [q1] at p1
  have hs := off_size s i
  have hw := wdP_le s i (by omega)
  have hq := quP_le s (i + 1) (by omega)
  have em : mk2 (off s i) 0 = mk2 s i := by
    unfold mk2
    rw [hs, b0, b1]
    congr 2
    rw [decide_eq_decide]
    omega
  have eN : i + lexN (off s i) 0 = lexN s i := by
    unfold lexN
    simp only [Nat.zero_add]
    rw [em, b0]
    split
    · exact w0
    · split
      · rw [← q1]; omega
      · split <;> omega
  have esub : (off s i).extract 0 (wdP (off s i) 0) = s.extract i (wdP s i) := by
    rw [off_sub, Nat.add_zero, w0, Nat.min_eq_left hw.2]
  have eE : lexE (off s i) 0 = lexE s i := by
    unfold lexE
    simp only [Nat.zero_add]
    rw [em, b0, esub, p1, hs]
    have e1 : wdP (off s i) 0 - 0 = wdP s i - i := by omega
    have e2 : (quP (off s i) 1 < s.size - i) ↔ quP s (i + 1) < s.size := by omega
    have e3 : quP (off s i) 1 - 1 = quP s (i + 1) - (i + 1) := by omega
    simp only [e1, e2, e3]
  refine ⟨eE, eN, ?_⟩
  rintro x rfl
  have et : (off s i).extract 1 (quP (off s i) 1) = s.extract (i + 1) (quP s (i + 1)) := by
    rw [off_sub, q1, Nat.min_eq_left hq.2]
  unfold lexX
  simp only [Nat.zero_add]
  rw [b0, esub, et]
  split
  · rfl
  · split
    · rfl
    · split
      · rfl
      · have em2 : (off s i).extract 0 (lexN (off s i) 0) = s.extract i (lexN s i) := by
          rw [off_sub, Nat.add_zero, eN]
          rename_i h1 h2 h3
          have hle : lexN s i ≤ s.size := by
            unfold lexN
            rw [if_neg (by simp [h1, h2]), if_neg h3]
            split
            · rename_i h5
              unfold mk2 at h5
              simp at h5
              omega
            · omega
          rw [Nat.min_eq_left hle]
        rw [em2]
theorem prefix2 (s : ByteArray) (a b : UInt8) : Lib.hasPrefix s.data.toList [a, b] = (decide (1 < s.size) && byt s 0 == (a.toNat : Int) && byt s 1 == (b.toNat : Int)) := by
  have hlen : s.data.toList.length = s.size := rfl
  unfold byt Lib.hasPrefix
  generalize s.data.toList = l at *
  rw [← hlen]
  match l with
  | [] => simp
  | [x] => simp [List.isPrefixOf]
  | x :: y :: r =>
    simp only [List.isPrefixOf, List.length_cons]
    rw [Bool.eq_iff_iff]
    simp only [Bool.and_eq_true, beq_iff_eq, decide_eq_true_eq, List.getD_cons_zero, List.getD_cons_succ]
    constructor
    · rintro ⟨rfl, rfl, -⟩
      exact ⟨⟨by omega, rfl⟩, rfl⟩
    · rintro ⟨⟨-, h1⟩, h2⟩
      exact ⟨UInt8.toNat_inj.1 (by omega), UInt8.toNat_inj.1 (by omega), trivial⟩
end Go.Proofs.YtklogijbdpghpaaDoor
