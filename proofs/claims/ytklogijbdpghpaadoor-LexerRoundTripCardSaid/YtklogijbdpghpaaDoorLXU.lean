/-
  MATHEMATICS of the lexer: every lexeme of a scan is a word that is scanned back.
-/
import Derived.Test.YtklogijbdpghpaaDoorLXT
namespace Go.Proofs.YtklogijbdpghpaaDoor
set_option linter.unusedVariables false
/-- A lexeme, and its word. -/
structure WX (x : Lx) (w : ByteArray) : Prop where
  pos : 0 < w.size
  ws : wordS x = [w]
  st : ∀ (t : ByteArray) (i : Nat), At t i w → Sep t (i + w.size) → lexE t i = 0 ∧ lexN t i = i + w.size ∧ lexX t i = { x with p := (i : Int) }
  sp : isSp (byt w 0) = false
  hs : (byt w 0 == 35) = false
theorem quo_size (t : ByteArray) : (((⟨#[34]⟩ : ByteArray) ++ t) ++ (⟨#[34]⟩ : ByteArray)).size = t.size + 2 := by
  rw [ByteArray.size_append, ByteArray.size_append]
  show 1 + t.size + 1 = t.size + 2
  omega
theorem quo_first (t : ByteArray) : byt (((⟨#[34]⟩ : ByteArray) ++ t) ++ (⟨#[34]⟩ : ByteArray)) 0 = 34 := by
  rw [byt_left _ _ _ (by rw [ByteArray.size_append]; show 0 < 1 + t.size; omega), byt_left _ _ _ (by decide)]
  rfl
theorem quo_mid (t : ByteArray) (k : Nat) (h : k < t.size) : byt (((⟨#[34]⟩ : ByteArray) ++ t) ++ (⟨#[34]⟩ : ByteArray)) (1 + k) = byt t k := by
  rw [byt_left _ _ _ (by rw [ByteArray.size_append]; show 1 + k < 1 + t.size; omega), byt_right _ _ _ (by show 1 ≤ 1 + k; omega)]
  show byt t (1 + k - 1) = _
  congr 1
  omega
theorem quo_last (t : ByteArray) : byt (((⟨#[34]⟩ : ByteArray) ++ t) ++ (⟨#[34]⟩ : ByteArray)) (1 + t.size) = 34 := by
  have hz : ((⟨#[34]⟩ : ByteArray) ++ t).size = 1 + t.size := by rw [ByteArray.size_append]; rfl
  rw [byt_right _ _ _ (by rw [hz]; exact Nat.le_refl _), hz, Nat.sub_self]
  rfl
theorem wx_text {w : ByteArray} (h : TextX w) (p : Int) : WX ⟨3, w, 0, p⟩ (((⟨#[34]⟩ : ByteArray) ++ w) ++ (⟨#[34]⟩ : ByteArray)) := by
  refine ⟨by rw [quo_size]; omega, rfl, fun t i hA hS => ?_, by rw [quo_first]; rfl, by rw [quo_first]; rfl⟩
  have hz := quo_size w
  have hsz := hA.1
  have h1 : byt t i = 34 := by have := hA.2 0 (by omega); rw [Nat.add_zero] at this; rw [this]; exact quo_first w
  have h2 : byt t (i + 1 + w.size) = 34 := by
    have := hA.2 (1 + w.size) (by omega)
    rw [quo_last] at this
    rw [show i + 1 + w.size = i + (1 + w.size) by omega]
    exact this
  have hA2 : At t (i + 1) w := ⟨by omega, fun k hk => by
    have := hA.2 (1 + k) (by omega)
    rw [quo_mid w k hk] at this
    rw [show i + 1 + k = i + (1 + k) by omega]
    exact this⟩
  have := lex_text h hA2 h1 (by omega) h2
  exact ⟨this.1, by rw [this.2.1, hz], this.2.2⟩
theorem wx_name {w : ByteArray} (h : NameX w) (p : Int) : WX ⟨1, w, 0, p⟩ w := by
  have hf := h.first
  refine ⟨h.pos, rfl, fun t i hA hS => lex_name h hA hS, ?_, ?_⟩
  · unfold letterB at hf
    have := of_decide_eq_true hf
    unfold isSp
    simp
    omega
  · unfold letterB at hf
    have := of_decide_eq_true hf
    exact beq_false_of_ne (by omega)
theorem wx_num {w : ByteArray} (h : NumX w) (p : Int) : WX ⟨2, ⟨#[]⟩, (valF w w.size : Int), p⟩ w := by
  have hf := h.all 0 h.pos
  refine ⟨h.pos, ?_, fun t i hA hS => lex_num h hA hS, ?_, ?_⟩
  · show [fmtB (valF w w.size : Int)] = [w]
    rw [fmt_num h]
  · unfold digitB at hf
    have := of_decide_eq_true hf
    unfold isSp
    simp
    omega
  · unfold digitB at hf
    have := of_decide_eq_true hf
    exact beq_false_of_ne (by omega)
theorem wx_mark {w : ByteArray} (h : MarkX w) (p : Int) : WX ⟨4, w, 0, p⟩ w := by
  have hc : byt w 0 = 33 ∨ isMk (byt w 0) = true := by
    rcases h.or with ⟨-, -, h1 | h1⟩ | ⟨-, h1⟩
    · exact .inl h1
    · exact .inr (by rw [h1]; rfl)
    · exact .inr h1
  have hne : byt w 0 ≠ 32 ∧ byt w 0 ≠ 9 ∧ byt w 0 ≠ 10 ∧ byt w 0 ≠ 35 := by
    rcases hc with h1 | h1
    · omega
    · unfold isMk at h1
      simp only [Bool.or_eq_true, beq_iff_eq] at h1
      omega
  refine ⟨?_, rfl, fun t i hA hS => lex_markX h hA hS, ?_, beq_false_of_ne hne.2.2.2⟩
  · rcases h.or with ⟨h1, -⟩ | ⟨h1, -⟩ <;> omega
  · unfold isSp
    simp
    omega
/-- What a scan finds is a word that is scanned back. -/
theorem wx_of {s : ByteArray} {i : Nat} (h : i < s.size) (he : lexE s i = 0) : ∃ w, WX (lexX s i) w ∧ i + w.size = lexN s i := by
  have hn := lexN_lt s i h he
  cases hl : letterB (byt s i) with
  | true =>
    obtain ⟨h1, h2⟩ := name_of h hl he
    have hX : lexX s i = ⟨1, s.extract i (wdP s i), 0, i⟩ := by unfold lexX; rw [hl]; rfl
    exact ⟨_, by rw [hX]; exact wx_name h1 _, by rw [h2]; omega⟩
  | false =>
    cases hd : digitB (byt s i) with
    | true =>
      have hle := wdP_le s i (by omega)
      have hw1 : i + 1 ≤ wdP s i := by
        rw [wdP_go s i h (by unfold isW; rw [hd]; simp)]
        exact (wdP_le s (i + 1) h).1
      have hz := size_sub s i (wdP s i) hle.2
      have hE : lexE s i = numE (s.extract i (wdP s i)) := by unfold lexE; rw [hl, hd]; rfl
      have hN : lexN s i = wdP s i := by unfold lexN; rw [hl, hd]; rfl
      have hnx : NumX (s.extract i (wdP s i)) := num_of_e (by omega) (by rw [← hE]; exact he)
      have hX : lexX s i = ⟨2, ⟨#[]⟩, (valF (s.extract i (wdP s i)) (s.extract i (wdP s i)).size : Int), i⟩ := by unfold lexX; rw [hl, hd, hnx.e.2]; rfl
      exact ⟨_, by rw [hX]; exact wx_num hnx _, by rw [hz, hN]; omega⟩
    | false =>
      cases h34 : (byt s i == 34) with
      | true =>
        obtain ⟨h1, h2⟩ := text_of h hl hd h34 he
        have hX : lexX s i = ⟨3, s.extract (i + 1) (quP s (i + 1)), 0, i⟩ := by unfold lexX; rw [hl, hd, h34]; rfl
        exact ⟨_, by rw [hX]; exact wx_text h1 _, by rw [quo_size, h2]; omega⟩
      | false =>
        have hX : lexX s i = ⟨4, s.extract i (lexN s i), 0, i⟩ := by unfold lexX; rw [hl, hd, h34]; rfl
        have hz := size_sub s i (lexN s i) hn.2
        have hN : lexN s i = if mk2 s i then i + 2 else i + 1 := by unfold lexN; rw [hl, hd, h34]; rfl
        have hE : lexE s i = if mk2 s i then 0 else if isMk (byt s i) then 0 else 2 := by unfold lexE; rw [hl, hd, h34]; rfl
        have b0 : byt (s.extract i (lexN s i)) 0 = byt s i := by rw [byt_sub _ _ _ _ hn.2 (by omega), Nat.add_zero]
        have hmx : MarkX (s.extract i (lexN s i)) := by
          cases hm : mk2 s i with
          | true =>
            rw [hm, if_pos rfl] at hN
            have b1 : byt (s.extract i (lexN s i)) 1 = byt s (i + 1) := byt_sub _ _ _ _ hn.2 (by omega)
            unfold mk2 at hm
            simp at hm
            exact ⟨.inl ⟨by omega, by rw [b1]; exact hm.1.2, by rw [b0]; exact hm.2⟩⟩
          | false =>
            rw [hm, if_neg (by simp)] at hN hE
            rw [hE] at he
            have hk : isMk (byt s i) = true := by
              cases hk : isMk (byt s i) with
              | true => rfl
              | false => rw [hk] at he; exact absurd he (by decide)
            exact ⟨.inr ⟨by omega, by rw [b0]; exact hk⟩⟩
        exact ⟨_, by rw [hX]; exact wx_mark hmx _, by rw [hz]; omega⟩
end Go.Proofs.YtklogijbdpghpaaDoor
