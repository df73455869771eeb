/-
  MATHEMATICS of wire: what is written is read back.
-/
import Derived.Test.YtjemljhfopgmiaaDoorW24
namespace Go.Proofs.YtjemljhfopgmiaaDoor
open Go.RowKit
set_option linter.unusedVariables false
set_option linter.unusedSimpArgs false
theorem trim_pad {s : ByteArray} (h : ¬ Blank s) (k : Nat) : trimS (s ++ sps k) = s := by
  unfold trimS Lib.trimRightB sps
  apply ByteArray.ext
  simp only [ByteArray.data_append, Array.toList_append]
  rw [List.reverse_append, List.reverse_replicate]
  have h1 : ∀ (k : Nat) (l : List UInt8), (List.replicate k (32 : UInt8) ++ l).dropWhile (· == 32) = l.dropWhile (· == 32) := by
    intro k l
    induction k with
    | zero => rfl
    | succ k ih => rw [List.replicate_succ, List.cons_append, List.dropWhile_cons]; simp
  rw [h1]
  have h2 : s.data.toList.reverse.dropWhile (· == 32) = s.data.toList.reverse := by
    cases hr : s.data.toList.reverse with
    | nil => rfl
    | cons c l =>
      have hl : s.data.toList = l.reverse ++ [c] := by rw [← List.reverse_reverse s.data.toList, hr]; simp
      have hz : s.size = l.length + 1 := by
        show s.data.toList.length = _
        rw [hl]; simp
      have hc : ¬ c = 32 := by
        intro hc
        apply h
        refine ⟨by omega, ?_⟩
        rw [byt, hl, hz, List.getD_eq_getElem?_getD]
        simp [hc]
      rw [List.dropWhile_cons, if_neg (by simpa using hc)]
  rw [h2]
  simp
theorem byt_sps (k j : Nat) (h : j < k) : byt (sps k) j = 32 := by
  show (((List.replicate k (32 : UInt8)).getD j 0).toNat : Int) = 32
  rw [List.getD_eq_getElem?_getD, List.getElem?_replicate, if_pos h]
  rfl
theorem prs_pad {s : ByteArray} (h : Prs s) (k : Nat) : Prs (s ++ sps k) := by
  intro j hj
  rw [ByteArray.size_append, sps_size] at hj
  unfold prAt
  rcases Nat.lt_or_ge j s.size with hl | hl
  · rw [byt_left _ _ _ hl]; exact h j hl
  · rw [byt_right _ _ _ hl, byt_sps _ _ (by omega)]; omega
/-- What Alpha wrote is read back. -/
theorem alR_back {s t u : ByteArray} {d : Nat} (h : AlphaP s (d : Int) t 0) {n : Nat} {c : Int} {q : ByteArray} (hr : AlR (t ++ u) d n c q) : n = t.size ∧ c = 0 ∧ q = s := by
  rcases h with h | h | h | ⟨a, b, hz, hp, hb, rfl, _⟩
  · exact absurd h.2.2 (by decide)
  · exact absurd h.2.2.2.2 (by decide)
  · exact absurd h.2.2.2.2.2 (by decide)
  · rw [Int.toNat_natCast] at hr ⊢
    have hzt : (s ++ sps (d - s.size)).size = d := by rw [ByteArray.size_append, sps_size]; omega
    have he := app_pre (s ++ sps (d - s.size)) u hzt
    rcases hr with hr | hr | hr
    · have := hr.1
      rw [ByteArray.size_append, hzt] at this
      omega
    · rw [he] at hr
      exact absurd (prs_pad hp _) hr.2.1
    · rw [he] at hr
      exact ⟨hr.2.2.1.trans hzt.symm, hr.2.2.2.1, by rw [hr.2.2.2.2, trim_pad hb]⟩
/-- What Var wrote is read back. -/
theorem varR_back {s t u : ByteArray} {d : Nat} (hd : d = 2 ∨ d = 3) (h : VarP s (d : Int) t 0) {n : Nat} {c : Int} {q : ByteArray} (hr : VarR (t ++ u) d 255 n c q) : n = t.size ∧ c = 0 ∧ q = s := by
  rcases h with h | h | ⟨a, b, b2, rfl, _⟩
  · exact absurd h.2.2.2 (by decide)
  · exact absurd h.2.2.2 (by decide)
  · rw [Int.toNat_natCast] at hr ⊢
    have hz := decS_size s.size d
    have hlt : s.size < 10 ^ d := by
      rcases hd with rfl | rfl
      · have := b2 rfl; omega
      · omega
    obtain ⟨v, e, hN, hr⟩ := hr
    rw [ByteArray.append_assoc] at hN
    obtain ⟨rfl, rfl⟩ := numbP_dec hlt hN
    rcases hr with hr | hr | hr | hr
    · exact absurd rfl hr.1
    · omega
    · have := hr.2.2.2.1
      rw [ByteArray.size_append, ByteArray.size_append, hz] at this
      omega
    · obtain ⟨_, _, _, _, rfl, rfl, rfl⟩ := hr
      rw [Int.toNat_natCast]
      refine ⟨by rw [ByteArray.size_append, hz], rfl, ?_⟩
      apply byt_ext
      · rw [size_extract' _ _ _ (by rw [ByteArray.size_append, ByteArray.size_append, hz]; omega)]; omega
      · intro k hk
        rw [size_extract' _ _ _ (by rw [ByteArray.size_append, ByteArray.size_append, hz]; omega)] at hk
        rw [byt_extract _ _ _ _ (by rw [ByteArray.size_append, ByteArray.size_append, hz]; omega) hk, ByteArray.append_assoc, byt_right _ _ _ (by omega), hz, byt_left _ _ _ (by omega)]
        congr 1
        omega
/-- What Var reads was written in the same way. -/
theorem varR_wrote {s : ByteArray} {n : Nat} {q : ByteArray} (hr : VarR s 2 99 n 0 q) {t : ByteArray} {e : Int} (h : VarP q 2 t e) : e = 0 ∧ t = s.extract 0 n ∧ n ≤ s.size ∧ t.size = n := by
  obtain ⟨v, e', hN, hr⟩ := hr
  rcases hr with hr | hr | hr | hr
  · exact absurd hr.2.2.1.symm (by have := hr.1; exact this)
  · exact absurd hr.2.2.2.1 (by decide)
  · exact absurd hr.2.2.2.2.2.1 (by decide)
  · obtain ⟨rfl, hm, _, hfit, rfl, _, rfl⟩ := hr
    obtain ⟨v0, v1⟩ := hN.bd (by decide)
    obtain ⟨u, rfl⟩ := Int.eq_ofNat_of_zero_le v0
    rw [Int.toNat_natCast] at *
    have hzq : (s.extract 2 (2 + u)).size = u := by rw [size_extract' _ _ _ (by omega)]; omega
    rcases hN with hN | hN | ⟨h2, hD, hv, _⟩
    · exact absurd hN.2.2 (by decide)
    · exact absurd hN.2.2.2 (by decide)
    have hdec : decS u 2 = s.extract 0 2 := by
      have h2z : (s.extract 0 2).size = 2 := by rw [size_extract' _ _ _ (by omega)]
      have := decS_numOf (s.extract 0 2) 0 2 (fun j hj => by rw [Nat.zero_add]; exact hD j (by omega)) (by omega)
      rw [← hv, Int.toNat_natCast] at this
      rw [this]
      apply byt_ext
      · rw [size_extract' _ _ _ (by omega), h2z]
      · intro k hk
        rw [size_extract' _ _ _ (by omega)] at hk
        rw [byt_extract _ _ _ _ (by omega) (by omega), Nat.zero_add]
    rcases h with h | h | ⟨_, _, _, rfl, rfl⟩
    · exact absurd rfl h.1
    · have := h.2.1
      rw [hzq] at this
      omega
    · rw [hzq]
      refine ⟨rfl, ?_, by omega, by rw [ByteArray.size_append, decS_size, hzq]; rfl⟩
      show decS u 2 ++ _ = _
      rw [hdec]
      apply byt_ext
      · rw [ByteArray.size_append, hzq, size_extract' _ _ _ (by omega), size_extract' _ _ _ (by omega)]; omega
      · intro k hk
        rw [ByteArray.size_append, hzq, size_extract' _ _ _ (by omega)] at hk
        rw [byt_extract _ 0 (2 + u) _ (by omega) (by omega), Nat.zero_add]
        have h2z : (s.extract 0 2).size = 2 := by rw [size_extract' _ _ _ (by omega)]
        rcases Nat.lt_or_ge k 2 with hl | hl
        · rw [byt_left _ _ _ (by omega), byt_extract _ _ _ _ (by omega) (by omega), Nat.zero_add]
        · rw [byt_right _ _ _ (by omega), h2z, byt_extract _ _ _ _ (by omega) (by omega)]
          congr 1
          omega
theorem hexS_size (s : ByteArray) : ∀ k, (hexS s k).size = 2 * k
  | 0 => rfl
  | k + 1 => by rw [hexS, ByteArray.size_append, ByteArray.size_append, one_size, one_size, hexS_size s k]; omega
theorem hexS_byt (s : ByteArray) (j : Nat) : ∀ k, j < k → byt (hexS s k) (2 * j) = byt HX ((byt s j).toNat / 16) ∧ byt (hexS s k) (2 * j + 1) = byt HX ((byt s j).toNat % 16)
  | 0, h => absurd h (by omega)
  | k + 1, h => by
    have hz := hexS_size s k
    rw [hexS]
    rcases Nat.lt_or_ge j k with hl | hl
    · rw [byt_left _ _ _ (by rw [ByteArray.size_append, one_size]; omega), byt_left _ _ _ (by omega), byt_left _ _ _ (by rw [ByteArray.size_append, one_size]; omega), byt_left _ _ _ (by omega)]
      exact hexS_byt s j k hl
    · obtain rfl : j = k := by omega
      have b1 := byt_bd HX ((byt s j).toNat / 16)
      have b2 := byt_bd HX ((byt s j).toNat % 16)
      constructor
      · rw [byt_left _ _ _ (by rw [ByteArray.size_append, one_size]; omega), byt_right _ _ _ (by omega), hz, Nat.sub_self, byt_one _ b1.1 b1.2]
      · rw [byt_right _ _ _ (by rw [ByteArray.size_append, one_size]; omega), ByteArray.size_append, one_size, hz, Nat.sub_self, byt_one _ b2.1 b2.2]
theorem unh_hex (s : ByteArray) : ∀ k, k ≤ s.size → unhS (hexS s s.size) k = s.extract 0 k
  | 0, _ => by
    apply byt_ext
    · rw [size_extract' _ _ _ (Nat.zero_le _)]; rfl
    · intro k hk; exact absurd hk (by show ¬ k < 0; omega)
  | k + 1, h => by
    have hb := byt_bd s k
    obtain ⟨e1, e2⟩ := hexS_byt s k s.size (by omega)
    have h1 := (hx_low ((byt s k).toNat / 16) (by omega)).2
    have h2 := (hx_low ((byt s k).toNat % 16) (by omega)).2
    rw [unhS, unh_hex s k (by omega), e1, e2, h1, h2, show 16 * (((byt s k).toNat / 16 : Nat) : Int) + (((byt s k).toNat % 16 : Nat) : Int) = byt s k by omega]
    apply byt_ext
    · rw [ByteArray.size_append, one_size, size_extract' _ _ _ (by omega), size_extract' _ _ _ (by omega)]; omega
    · intro j hj
      rw [ByteArray.size_append, one_size, size_extract' _ _ _ (by omega)] at hj
      rw [byt_extract _ 0 (k + 1) _ (by omega) (by omega), Nat.zero_add]
      have hz : (s.extract 0 k).size = k := by rw [size_extract' _ _ _ (by omega)]; omega
      rcases Nat.lt_or_ge j k with hl | hl
      · rw [byt_left _ _ _ (by omega), byt_extract _ _ _ _ (by omega) (by omega), Nat.zero_add]
      · obtain rfl : j = k := by omega
        rw [byt_right _ _ _ (by omega), hz, Nat.sub_self, byt_one _ hb.1 hb.2]
theorem low_hexS (s : ByteArray) : LowP (hexS s s.size) := by
  intro k hk
  rw [hexS_size] at hk
  have hb := byt_bd s (k / 2)
  obtain ⟨e1, e2⟩ := hexS_byt s (k / 2) s.size (by omega)
  rcases Nat.mod_two_eq_zero_or_one k with h | h
  · have hk2 : byt (hexS s s.size) k = byt HX ((byt s (k / 2)).toNat / 16) := by rw [← e1]; congr 1; omega
    rw [hk2]
    exact (hx_low _ (by omega)).1
  · have hk2 : byt (hexS s s.size) k = byt HX ((byt s (k / 2)).toNat % 16) := by rw [← e2]; congr 1; omega
    rw [hk2]
    exact (hx_low _ (by omega)).1
/-- Hexadecimal digits are read back. -/
theorem unhP_back {s t : ByteArray} {e : Int} (h : UnhP (hexS s s.size) t e) : t = s ∧ e = 0 := by
  rcases h with ⟨h | h, _⟩ | ⟨_, _, rfl, rfl⟩
  · rw [hexS_size] at h; omega
  · exact absurd (low_hexS s) h
  · rw [hexS_size, show 2 * s.size / 2 = s.size by omega, unh_hex s _ (Nat.le_refl _)]
    refine ⟨?_, rfl⟩
    apply byt_ext
    · rw [size_extract' _ _ _ (Nat.le_refl _)]; omega
    · intro j hj
      rw [size_extract' _ _ _ (Nat.le_refl _)] at hj
      rw [byt_extract _ _ _ _ (Nat.le_refl _) hj, Nat.zero_add]
end Go.Proofs.YtjemljhfopgmiaaDoor
