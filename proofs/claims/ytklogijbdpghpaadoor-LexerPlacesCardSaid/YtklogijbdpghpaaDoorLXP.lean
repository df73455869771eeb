/-
  MATHEMATICS of the lexer: spaces at the end, places.
-/
import Derived.Test.YtklogijbdpghpaaDoorL12
namespace Go.Proofs.YtklogijbdpghpaaDoor
set_option linter.unusedVariables false
theorem app_byt {s u : ByteArray} (hu : ∀ k, k < u.size → byt u k = 32) (k : Nat) (h : s.size ≤ k) : byt (s ++ u) k = 32 ∨ ((s ++ u).size ≤ k ∧ byt (s ++ u) k = 0) := by
  rw [byt_right _ _ _ h]
  by_cases h2 : k - s.size < u.size
  · exact .inl (hu _ h2)
  · right
    rw [ByteArray.size_append, byt_out _ _ (by omega)]
    exact ⟨by omega, rfl⟩
theorem app_skip {s u : ByteArray} (hu : ∀ k, k < u.size → byt u k = 32) (b : Bool) : ∀ n i, s.size - i ≤ n → i ≤ s.size → skP (s ++ u) b i = if skP s b i < s.size then skP s b i else (s ++ u).size := by
  have tail : ∀ n (b : Bool) i, (s ++ u).size - i ≤ n → s.size ≤ i → i ≤ (s ++ u).size → skP (s ++ u) b i = (s ++ u).size := by
    intro n
    induction n with
    | zero => intro b i h1 h2 h3; rw [skP_end _ _ _ (by omega)]; omega
    | succ n ih =>
      intro b i h1 h2 h3
      by_cases hlt : i < (s ++ u).size
      · have hb : byt (s ++ u) i = 32 := by
          rcases app_byt hu i h2 with h | ⟨h, -⟩
          · exact h
          · omega
        rw [skP_go _ _ _ hlt (by unfold go1; rw [hb]; simp [isSp])]
        exact ih _ _ (by omega) (by omega) (by omega)
      · rw [skP_end _ _ _ (by omega)]; omega
  intro n
  induction n generalizing b with
  | zero =>
    intro i h1 h2
    obtain rfl : i = s.size := by omega
    rw [skP_end s b s.size (Nat.le_refl _), if_neg (by omega)]
    exact tail _ b s.size (Nat.le_refl _) (Nat.le_refl _) (by rw [ByteArray.size_append]; omega)
  | succ n ih =>
    intro i h1 h2
    by_cases hlt : i < s.size
    · have hb : byt (s ++ u) i = byt s i := byt_left _ _ _ hlt
      have hg1 : go1 (s ++ u) b i = go1 s b i := by unfold go1; rw [hb]
      have hg2 : go2 (s ++ u) b i = go2 s b i := by unfold go2; rw [hb]
      cases hg : go1 s b i with
      | true =>
        rw [skP_go _ _ _ (by rw [ByteArray.size_append]; omega) (hg1.trans hg), hg2, skP_go s b i hlt hg]
        exact ih _ _ (by omega) (by omega)
      | false => rw [skP_stop _ _ _ (hg1.trans hg), skP_stop _ _ _ hg, if_pos hlt]
    · obtain rfl : i = s.size := by omega
      rw [skP_end s b s.size (Nat.le_refl _), if_neg (by omega)]
      exact tail _ b s.size (Nat.le_refl _) (Nat.le_refl _) (by rw [ByteArray.size_append]; omega)
theorem app_word {s u : ByteArray} (hu : ∀ k, k < u.size → byt u k = 32) : ∀ n i, s.size - i ≤ n → i ≤ s.size → wdP (s ++ u) i = wdP s i := by
  intro n
  have base : wdP (s ++ u) s.size = s.size := by
    apply wdP_stop
    rcases app_byt (s := s) hu s.size (Nat.le_refl _) with h | ⟨-, h⟩ <;> (rw [h]; rfl)
  induction n with
  | zero =>
    intro i h1 h2
    obtain rfl : i = s.size := by omega
    rw [base, wdP_end s _ (Nat.le_refl _)]
  | succ n ih =>
    intro i h1 h2
    by_cases hlt : i < s.size
    · have hb : byt (s ++ u) i = byt s i := byt_left _ _ _ hlt
      cases hg : isW (byt s i) with
      | true =>
        rw [wdP_go _ _ (by rw [ByteArray.size_append]; omega) (by rw [hb]; exact hg), wdP_go s i hlt hg]
        exact ih _ (by omega) (by omega)
      | false => rw [wdP_stop _ _ (by rw [hb]; exact hg), wdP_stop _ _ hg]
    · obtain rfl : i = s.size := by omega
      rw [base, wdP_end s _ (Nat.le_refl _)]
theorem app_quote {s u : ByteArray} (hu : ∀ k, k < u.size → byt u k = 32) (i : Nat) (h : i ≤ s.size) : quP (s ++ u) i = if quP s i < s.size then quP s i else (s ++ u).size := by
  have h1 := quP_spec s i h
  have h2 := quP_le s i h
  split
  · rename_i hlt
    exact quP_uniq h2.1 (by rw [ByteArray.size_append]; omega) (fun _ => by rw [byt_left _ _ _ hlt]; exact h1.1 hlt) fun k a b => by rw [byt_left _ _ _ (by omega)]; exact h1.2 k a b
  · rename_i hlt
    refine quP_uniq (by rw [ByteArray.size_append]; omega) (Nat.le_refl _) (fun hh => by omega) fun k a b => ?_
    by_cases hk : k < s.size
    · rw [byt_left _ _ _ hk]
      exact h1.2 k a (by omega)
    · rcases app_byt (s := s) hu k (by omega) with hh | ⟨-, hh⟩ <;> (rw [hh]; decide)
theorem app_sub {s u : ByteArray} {a b : Nat} (h : b ≤ s.size) : (s ++ u).extract a b = s.extract a b := by
  apply byt_ext
  · rw [ByteArray.size_extract, ByteArray.size_extract, ByteArray.size_append]
    omega
  · intro k hk
    rw [ByteArray.size_extract, ByteArray.size_append] at hk
    rw [byt_sub _ _ _ _ (by rw [ByteArray.size_append]; omega) (by omega), byt_sub _ _ _ _ h (by omega), byt_left _ _ _ (by omega)]
theorem app_pr {s u : ByteArray} {a b : Nat} (h : b ≤ s.size) : prB (s ++ u) a b = prB s a b := by
  rw [Bool.eq_iff_iff, prB_iff, prB_iff]
  constructor
  · intro hh k h1 h2
    have := hh k h1 h2
    rwa [byt_left _ _ _ (by omega)] at this
  · intro hh k h1 h2
    rw [byt_left _ _ _ (by omega)]
    exact hh k h1 h2
theorem app_lex {s u : ByteArray} (hu : ∀ k, k < u.size → byt u k = 32) (i : Nat) (h : i < s.size) : lexE (s ++ u) i = lexE s i ∧ (lexE s i = 0 → lexN (s ++ u) i = lexN s i ∧ lexX (s ++ u) i = lexX s i) := by
  have hb : byt (s ++ u) i = byt s i := byt_left _ _ _ h
  have hw := app_word (s := s) hu _ i (Nat.le_refl _) (by omega)
  have hwl := wdP_le s i (by omega)
  have hq := app_quote (s := s) hu (i + 1) h
  have hql := quP_le s (i + 1) h
  have hm : mk2 (s ++ u) i = mk2 s i := by
    unfold mk2
    rw [hb]
    by_cases h1 : i + 1 < s.size
    · rw [byt_left _ _ _ h1]
      have h2 : i + 1 < s.size + u.size := by omega
      rw [ByteArray.size_append]
      simp [h1, h2]
    · rcases app_byt (s := s) hu (i + 1) (by omega) with hh | ⟨-, hh⟩ <;> (rw [hh]; simp [h1])
  have hE : lexE (s ++ u) i = lexE s i := by
    unfold lexE
    rw [hb, hw, hm, app_sub hwl.2]
    split
    · rfl
    · split
      · rfl
      · split
        · by_cases hlt : quP s (i + 1) < s.size
          · rw [if_pos hlt] at hq
            rw [hq, app_pr (by omega)]
            have h3 : quP s (i + 1) < (s ++ u).size := by rw [ByteArray.size_append]; omega
            simp only [hlt, h3, true_and]
          · rw [if_neg hlt] at hq
            rw [hq, if_neg (fun hh => by omega), if_neg (fun hh => hlt hh.1)]
        · rfl
  refine ⟨hE, fun he => ?_⟩
  have hq2 : (byt s i == 34) = true → letterB (byt s i) = false → digitB (byt s i) = false → quP (s ++ u) (i + 1) = quP s (i + 1) := fun h34 hl hd => by
    unfold lexE at he
    rw [hl, hd, h34] at he
    simp only [Bool.false_eq_true, if_false, if_true] at he
    split at he
    · rename_i hh; rw [hq, if_pos hh.1]
    · exact absurd he (by decide)
  have hN : lexN (s ++ u) i = lexN s i := by
    unfold lexN
    rw [hb, hw, hm]
    split
    · rfl
    · rename_i hld
      simp only [Bool.or_eq_true, not_or, Bool.not_eq_true] at hld
      split
      · rename_i h34
        rw [hq2 h34 hld.1 hld.2]
      · rfl
  refine ⟨hN, ?_⟩
  have hle := (lexN_lt s i h he).2
  unfold lexX
  rw [hb, hw, hN, app_sub hwl.2, app_sub hle]
  split
  · rfl
  · rename_i hl
    split
    · rfl
    · rename_i hd
      split
      · rename_i h34
        rw [hq2 h34 (by simpa using hl) (by simpa using hd), app_sub hql.2]
      · rfl
/-- Places ascend, and names and marks stand at their places. -/
def Asc (s : ByteArray) : Nat → List Lx → Prop
  | _, [] => True
  | lo, x :: l => ∃ p : Nat, x.p = (p : Int) ∧ lo ≤ p ∧ p ≤ s.size ∧ (x.k = 1 ∨ x.k = 4 → ∃ q, q ≤ s.size ∧ x.t = s.extract p q) ∧ Asc s (p + 1) l
theorem Asc.at {s : ByteArray} : ∀ {l : List Lx} {lo k : Nat} {x : Lx}, Asc s lo l → l[k]? = some x → ∃ p : Nat, x.p = (p : Int) ∧ lo ≤ p ∧ p ≤ s.size ∧ (x.k = 1 ∨ x.k = 4 → ∃ q, q ≤ s.size ∧ x.t = s.extract p q)
  | [], lo, k, x, h, hx => by simp at hx
  | y :: l, lo, 0, x, h, hx => by
    simp at hx
    subst hx
    obtain ⟨p, h1, h2, h3, h4, -⟩ := h
    exact ⟨p, h1, h2, h3, h4⟩
  | y :: l, lo, k + 1, x, h, hx => by
    obtain ⟨p, h1, h2, h3, h4, h5⟩ := h
    obtain ⟨p', k1, k2, k3, k4⟩ := Asc.at h5 (show l[k]? = some x by simpa using hx)
    exact ⟨p', k1, by omega, k3, k4⟩
theorem Asc.lt {s : ByteArray} : ∀ {l : List Lx} {lo k : Nat} {x y : Lx}, Asc s lo l → l[k]? = some x → l[k + 1]? = some y → x.p < y.p
  | [], lo, k, x, y, h, hx, hy => by simp at hx
  | z :: l, lo, 0, x, y, h, hx, hy => by
    simp at hx
    subst hx
    obtain ⟨p, h1, h2, h3, h4, h5⟩ := h
    obtain ⟨p', k1, k2, -, -⟩ := Asc.at h5 (show l[0]? = some y by simpa using hy)
    omega
  | z :: l, lo, k + 1, x, y, h, hx, hy => by
    obtain ⟨p, h1, h2, h3, h4, h5⟩ := h
    exact Asc.lt h5 (show l[k]? = some x by simpa using hx) (show l[k + 1]? = some y by simpa using hy)
def endL (n : Nat) : Lx := ⟨0, ⟨#[]⟩, 0, n⟩
theorem lexX_p (s : ByteArray) (i : Nat) : (lexX s i).p = (i : Int) := by
  unfold lexX
  split
  · rfl
  · split
    · rfl
    · split <;> rfl
theorem lexX_t (s : ByteArray) (i : Nat) (h : i < s.size) (he : lexE s i = 0) (hk : (lexX s i).k = 1 ∨ (lexX s i).k = 4) : ∃ q, q ≤ s.size ∧ (lexX s i).t = s.extract i q := by
  have hle := (lexN_lt s i h he).2
  have hw := wdP_le s i (by omega)
  revert hk
  unfold lexX
  split
  · intro _; exact ⟨_, hw.2, rfl⟩
  · split
    · intro hk; rcases hk with hk | hk <;> (simp only at hk; omega)
    · split
      · intro hk; rcases hk with hk | hk <;> (simp only at hk; omega)
      · intro _; exact ⟨_, hle, rfl⟩
/-- Scanning a text, and the same text with spaces behind it. -/
theorem scan_app {s u : ByteArray} (hu : ∀ k, k < u.size → byt u k = 32) : ∀ n i l, s.size - i ≤ n → i ≤ s.size →
    (∃ M, scP s i l = ⟨l ++ (M ++ [endL s.size]), 0, 0⟩ ∧ scP (s ++ u) (if i < s.size then i else (s ++ u).size) l = ⟨l ++ (M ++ [endL (s ++ u).size]), 0, 0⟩ ∧ Asc s i (M ++ [endL s.size])) ∨
    (∃ e p, e ≠ 0 ∧ p < s.size ∧ scP s i l = ⟨[], e, p⟩ ∧ scP (s ++ u) (if i < s.size then i else (s ++ u).size) l = ⟨[], e, p⟩) := by
  have fin : ∀ l, (∃ M, scP s s.size l = ⟨l ++ (M ++ [endL s.size]), 0, 0⟩ ∧ scP (s ++ u) (if s.size < s.size then s.size else (s ++ u).size) l = ⟨l ++ (M ++ [endL (s ++ u).size]), 0, 0⟩ ∧ Asc s s.size (M ++ [endL s.size])) := by
    intro l
    refine ⟨[], by rw [scP_end]; rfl, by rw [if_neg (by omega), scP_end]; rfl, s.size, rfl, Nat.le_refl _, Nat.le_refl _, fun h => ?_, trivial⟩
    rcases h with h | h <;> exact absurd h (by simp [endL])
  intro n
  induction n with
  | zero =>
    intro i l h1 h2
    obtain rfl : i = s.size := by omega
    exact .inl (fin l)
  | succ n ih =>
    intro i l h1 h2
    by_cases hlt : i < s.size
    · have hlt2 : i < (s ++ u).size := by rw [ByteArray.size_append]; omega
      obtain ⟨hE, hok⟩ := app_lex hu i hlt
      rw [if_pos hlt]
      by_cases he : lexE s i = 0
      · obtain ⟨hN, hX⟩ := hok he
        have hn := lexN_lt s i hlt he
        have hs := skP_le s false (lexN s i) hn.2
        rw [scP_go s i l hlt he, scP_go (s ++ u) i l hlt2 (hE.trans he), hN, hX, app_skip hu false _ _ (Nat.le_refl _) hn.2]
        rcases ih (skP s false (lexN s i)) (l ++ [lexX s i]) (by omega) hs.2 with ⟨M, a, b, c⟩ | ⟨e, p, a, b, c, d⟩
        · left
          refine ⟨lexX s i :: M, by rw [a]; simp, by rw [b]; simp, i, lexX_p s i, Nat.le_refl _, by omega, lexX_t s i hlt he, ?_⟩
          have up : ∀ {lo lo' : Nat} {l : List Lx}, lo' ≤ lo → Asc s lo l → Asc s lo' l := by
            intro lo lo' l hle h
            match l, h with
            | [], _ => trivial
            | x :: l, ⟨p, h1, h2, h3, h4, h5⟩ => exact ⟨p, h1, by omega, h3, h4, h5⟩
          exact up (by omega) c
        · exact .inr ⟨e, p, a, b, c, d⟩
      · right
        exact ⟨lexE s i, i, he, hlt, scP_bad s i l hlt he, by rw [scP_bad (s ++ u) i l hlt2 (by rw [hE]; exact he), hE]⟩
    · obtain rfl : i = s.size := by omega
      exact .inl (fin l)
/-- Both scans. -/
theorem scans_app {s u : ByteArray} (hu : ∀ k, k < u.size → byt u k = 32) (h : (s ++ u).size ≤ 4000) :
    (∃ M, scS s = ⟨M ++ [endL s.size], 0, 0⟩ ∧ scS (s ++ u) = ⟨M ++ [endL (s ++ u).size], 0, 0⟩ ∧ Asc s 0 (M ++ [endL s.size])) ∨
    (∃ e p, e ≠ 0 ∧ p < s.size ∧ scS s = ⟨[], e, p⟩ ∧ scS (s ++ u) = ⟨[], e, p⟩) := by
  have h2 : s.size ≤ 4000 := by rw [ByteArray.size_append] at h; omega
  have hs := skP_le s false 0 (Nat.zero_le _)
  unfold scS
  rw [if_neg (by omega), if_neg (by omega), app_skip hu false _ _ (Nat.le_refl _) (Nat.zero_le _)]
  rcases scan_app hu _ (skP s false 0) [] (Nat.le_refl _) hs.2 with ⟨M, a, b, c⟩ | h
  · refine .inl ⟨M, a, b, ?_⟩
    match hM : M ++ [endL s.size], c with
    | [], _ => trivial
    | x :: l, ⟨p, h1, h2, h3, h4, h5⟩ => exact ⟨p, h1, by omega, h3, h4, h5⟩
  · exact .inr h
end Go.Proofs.YtklogijbdpghpaaDoor
