/-
  MATHEMATICS of the lexer: a scan that is printed and scanned again.
-/
import Derived.Test.YtklogijbdpghpaaDoorLXV
namespace Go.Proofs.YtklogijbdpghpaaDoor
set_option linter.unusedVariables false
theorem Wds.words : ∀ {xs : List Lx} {ws : List ByteArray}, Wds xs ws → wordsS xs = ws
  | [], [], _ => rfl
  | x :: xs, w :: ws, h => by
    unfold wordsS
    rw [List.flatMap_cons, h.1.ws]
    have := h.2.words
    unfold wordsS at this
    rw [this]
    rfl
  | [], w :: ws, h => absurd h (by simp [Wds])
  | x :: xs, [], h => absurd h (by simp [Wds])
theorem lexX_ok {s : ByteArray} {i : Nat} (h : i < s.size) (hs : s.size ≤ 10000) (he : lexE s i = 0) : okW (lexX s i) := by
  have hn := (lexN_lt s i h he).2
  unfold lexX
  split
  · refine ⟨?_, by show (-9223372036854775808 : Int) ≤ 0; decide, by show (0 : Int) ≤ 9223372036854775807; decide⟩
    show (s.extract i _).size ≤ 10000
    rw [ByteArray.size_extract]; omega
  · split
    · refine ⟨Nat.zero_le _, ?_, ?_⟩
      · show -9223372036854775808 ≤ numN _
        unfold numN
        split <;> omega
      · show numN _ ≤ 9223372036854775807
        have hc : numE (s.extract i (wdP s i)) = 0 := by
          unfold lexE at he
          rename_i h1 h2
          rw [if_neg h1, if_pos h2] at he
          exact he
        have h0 : 0 < (s.extract i (wdP s i)).size := by
          rename_i h1 h2
          have hle := wdP_le s i (by omega)
          have hw1 : i + 1 ≤ wdP s i := by
            rw [wdP_go s i h (by unfold isW; rw [h2]; simp)]
            exact (wdP_le s (i + 1) h).1
          rw [size_sub _ _ _ hle.2]
          omega
        have := (num_of_e h0 hc).le
        rw [numN_ok hc]
        omega
    · split
      · refine ⟨?_, by show (-9223372036854775808 : Int) ≤ 0; decide, by show (0 : Int) ≤ 9223372036854775807; decide⟩
        show (s.extract (i + 1) _).size ≤ 10000
        rw [ByteArray.size_extract]; omega
      · refine ⟨?_, by show (-9223372036854775808 : Int) ≤ 0; decide, by show (0 : Int) ≤ 9223372036854775807; decide⟩
        show (s.extract i _).size ≤ 10000
        rw [ByteArray.size_extract]; omega
def sizes (ws : List ByteArray) : Nat := Lib.lens (ws.map (·.data.toList))
theorem scP_words (s : ByteArray) (hs : s.size ≤ 10000) : ∀ n i l, s.size - i ≤ n → i ≤ s.size →
    (∃ M ws, scP s i l = ⟨l ++ (M ++ [endL s.size]), 0, 0⟩ ∧ Wds M ws ∧ sizes ws + i ≤ s.size ∧ ws.length + i ≤ s.size ∧ ∀ x ∈ M, okW x) ∨ (∃ e p, e ≠ 0 ∧ scP s i l = ⟨[], e, p⟩) := by
  have fin : ∀ l, (∃ M ws, scP s s.size l = ⟨l ++ (M ++ [endL s.size]), 0, 0⟩ ∧ Wds M ws ∧ sizes ws + s.size ≤ s.size ∧ ws.length + s.size ≤ s.size ∧ ∀ x ∈ M, okW x) := fun l => ⟨[], [], by rw [scP_end]; rfl, trivial, by show 0 + s.size ≤ s.size; omega, by show 0 + s.size ≤ s.size; omega, fun x hx => by cases hx⟩
  intro n
  induction n with
  | zero =>
    intro i l h1 h2
    obtain rfl : i = s.size := by omega
    exact .inl (fin l)
  | succ n ih =>
    intro i l h1 h2
    by_cases hlt : i < s.size
    · by_cases he : lexE s i = 0
      · have hn := lexN_lt s i hlt he
        have hk := skP_le s false (lexN s i) hn.2
        obtain ⟨w, hW, hw⟩ := wx_of hlt he
        rw [scP_go s i l hlt he]
        rcases ih (skP s false (lexN s i)) (l ++ [lexX s i]) (by omega) hk.2 with ⟨M, ws, a, b, c, d, e⟩ | ⟨e, p, a, b⟩
        · left
          refine ⟨lexX s i :: M, w :: ws, by rw [a]; simp, ⟨hW, b⟩, ?_, ?_, fun x hx => ?_⟩
          · have : sizes (w :: ws) = w.size + sizes ws := by
              unfold sizes Lib.lens
              rw [List.map_cons, List.map_cons, List.sum_cons]
              rfl
            omega
          · rw [List.length_cons]; omega
          · rcases List.mem_cons.1 hx with rfl | hx
            · exact lexX_ok hlt hs he
            · exact e x hx
        · exact .inr ⟨e, p, a, b⟩
      · exact .inr ⟨lexE s i, i, he, scP_bad s i l hlt he⟩
    · obtain rfl : i = s.size := by omega
      exact .inl (fin l)
theorem wordsS_end (M : List Lx) (n : Nat) : wordsS (M ++ [endL n]) = wordsS M := by
  unfold wordsS
  rw [List.flatMap_append]
  simp [wordS, endL]
theorem words_key : ∀ {xs ys : List Lx}, xs.map keyX = ys.map keyX → wordsS xs = wordsS ys
  | [], [], _ => rfl
  | [], y :: ys, h => by simp at h
  | x :: xs, [], h => by simp at h
  | x :: xs, y :: ys, h => by
    rw [List.map_cons, List.map_cons, List.cons.injEq] at h
    have h1 := words_key h.2
    have h2 : wordS x = wordS y := by
      have := h.1
      unfold keyX at this
      simp only [Prod.mk.injEq] at this
      unfold wordS
      rw [this.1, this.2.1, this.2.2]
    unfold wordsS at *
    rw [List.flatMap_cons, List.flatMap_cons, h1, h2]
/-- THE ROUND TRIP. -/
theorem round_trip (s : ByteArray) (hs : s.size ≤ 1900) :
    (∃ M N, scS s = ⟨M ++ [endL s.size], 0, 0⟩ ∧ scS (printS (M ++ [endL s.size])) = ⟨N ++ [endL (printS (M ++ [endL s.size])).size], 0, 0⟩ ∧ N.map keyX = M.map keyX ∧ printS (N ++ [endL (printS (M ++ [endL s.size])).size]) = printS (M ++ [endL s.size]) ∧ (printS (M ++ [endL s.size])).size ≤ 4000 ∧ (∀ x ∈ M, okW x)) ∨ (∃ e p, e ≠ 0 ∧ scS s = ⟨[], e, p⟩) := by
  have hk := skP_le s false 0 (Nat.zero_le _)
  have hS : scS s = scP s (skP s false 0) [] := by unfold scS; rw [if_neg (by omega)]
  rcases scP_words s (by omega) _ (skP s false 0) [] (Nat.le_refl _) hk.2 with ⟨M, ws, a, b, c, d, e⟩ | h
  · left
    have hw := b.words
    have hP : (printS (M ++ [endL s.size])).data.toList = Lib.join (ws.map (·.data.toList)) [32] := by
      unfold printS
      rw [wordsS_end, hw]
    have hz : (printS (M ++ [endL s.size])).size ≤ 4000 := by
      have hl : (printS (M ++ [endL s.size])).data.toList.length = (printS (M ++ [endL s.size])).size := rfl
      rw [hP] at hl
      rw [← hl]
      unfold sizes at c
      clear hP hl b hw a
      match ws, c, d with
      | [], _, _ => exact Nat.zero_le _
      | w :: r, c, d =>
        rw [List.map_cons, Lib.join_length]
        rw [List.map_cons] at c
        rw [List.length_cons] at d
        rw [List.length_map]
        show 1 * r.length + _ ≤ _
        omega
    obtain ⟨N, h1, h2⟩ := scan_join b hP hz
    refine ⟨M, N, by rw [hS, a]; rfl, h1, h2, ?_, hz, e⟩
    unfold printS
    rw [wordsS_end, wordsS_end, words_key h2]
  · right
    obtain ⟨e, p, h1, h2⟩ := h
    exact ⟨e, p, h1, by rw [hS, h2]⟩
end Go.Proofs.YtklogijbdpghpaaDoor
