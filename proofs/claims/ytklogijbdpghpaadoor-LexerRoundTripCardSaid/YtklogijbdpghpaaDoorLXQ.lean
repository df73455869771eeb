/-
  MATHEMATICS of the lexer: the end of a scan, and what stands before it.
-/
import Derived.Test.YtklogijbdpghpaaDoorL16
import Derived.Test.YtklogijbdpghpaaDoorLXP
namespace Go.Proofs.YtklogijbdpghpaaDoor
set_option linter.unusedVariables false
theorem lexX_k (s : ByteArray) (i : Nat) : (lexX s i).k = 1 ∨ (lexX s i).k = 2 ∨ (lexX s i).k = 3 ∨ (lexX s i).k = 4 := by
  unfold lexX
  split
  · exact .inl rfl
  · split
    · exact .inr (.inl rfl)
    · split
      · exact .inr (.inr (.inl rfl))
      · exact .inr (.inr (.inr rfl))
theorem scP_kinds (s : ByteArray) : ∀ n i l, s.size - i ≤ n → i ≤ s.size →
    (∃ M, scP s i l = ⟨l ++ (M ++ [endL s.size]), 0, 0⟩ ∧ ∀ x ∈ M, x.k = 1 ∨ x.k = 2 ∨ x.k = 3 ∨ x.k = 4) ∨ (∃ e p, e ≠ 0 ∧ scP s i l = ⟨[], e, p⟩) := by
  have fin : ∀ l, (∃ M, scP s s.size l = ⟨l ++ (M ++ [endL s.size]), 0, 0⟩ ∧ ∀ x ∈ M, x.k = 1 ∨ x.k = 2 ∨ x.k = 3 ∨ x.k = 4) := fun l => ⟨[], by rw [scP_end]; rfl, fun x hx => by cases hx⟩
  intro n
  induction n with
  | zero =>
    intro i l h1 h2
    obtain rfl : i = s.size := by omega
    exact .inl (fin l)
  | succ n ih =>
    intro i l h1 h2
    by_cases hlt : i < s.size
    · by_cases he : lexE s i = 0
      · have hn := lexN_lt s i hlt he
        have hs := skP_le s false (lexN s i) hn.2
        rw [scP_go s i l hlt he]
        rcases ih (skP s false (lexN s i)) (l ++ [lexX s i]) (by omega) hs.2 with ⟨M, a, b⟩ | ⟨e, p, a, b⟩
        · left
          refine ⟨lexX s i :: M, by rw [a]; simp, fun x hx => ?_⟩
          rcases List.mem_cons.1 hx with rfl | hx
          · exact lexX_k s i
          · exact b x hx
        · exact .inr ⟨e, p, a, b⟩
      · exact .inr ⟨lexE s i, i, he, scP_bad s i l hlt he⟩
    · obtain rfl : i = s.size := by omega
      exact .inl (fin l)
/-- A scan ends in the end alone, or is an error. -/
theorem scS_kinds (s : ByteArray) : (∃ M, scS s = ⟨M ++ [endL s.size], 0, 0⟩ ∧ ∀ x ∈ M, x.k = 1 ∨ x.k = 2 ∨ x.k = 3 ∨ x.k = 4) ∨ (∃ e p, e ≠ 0 ∧ scS s = ⟨[], e, p⟩) := by
  have hs := skP_le s false 0 (Nat.zero_le _)
  unfold scS
  split
  · exact .inr ⟨3, 0, by decide, rfl⟩
  · exact scP_kinds s _ (skP s false 0) [] (Nat.le_refl _) hs.2
/-- Where a scanner stands: before the end, every lexeme has a kind. -/
structure Good (L : List Lx) (N : Nat) : Prop where
  len : L.length = N + 1
  last : ∃ p, L[N]? = some ⟨0, ⟨#[]⟩, 0, p⟩
  kinds : ∀ k x, k < N → L[k]? = some x → x.k ≠ 0
theorem good_of {s : ByteArray} {M : List Lx} (h : ∀ x ∈ M, x.k = 1 ∨ x.k = 2 ∨ x.k = 3 ∨ x.k = 4) : Good (M ++ [endL s.size]) M.length := by
  refine ⟨by simp, ⟨s.size, by rw [List.getElem?_append_right (Nat.le_refl _), Nat.sub_self]; rfl⟩, fun k x hk hx => ?_⟩
  rw [List.getElem?_append_left hk] at hx
  have := h x (List.mem_of_getElem? hx)
  omega
end Go.Proofs.YtklogijbdpghpaaDoor
