/-
  CONTRACTS of rates: what Parse returns, and the text of a rate read back.
-/
import Derived.Test.YtobnkfgikafanaaDoorR18
import Derived.Test.YtobnkfgikafanaaDoorR14
namespace Go.Proofs.YtobnkfgikafanaaDoor
open Go.RowKit Go.Lib
set_option linter.unusedVariables false
set_option linter.unusedSimpArgs false
theorem ex_mid (x m y : ByteArray) {a b : Nat} (ha : a = x.size) (hb : b = x.size + m.size) : (x ++ m ++ y).extract a b = m := by
  have hz : (x ++ m ++ y).size = x.size + m.size + y.size := by rw [ByteArray.size_append, ByteArray.size_append]
  apply byt_ext
  · rw [size_extract' _ _ _ (by omega)]; omega
  · intro k hk
    rw [size_extract' _ _ _ (by omega)] at hk
    rw [byt_extract _ _ _ _ (by omega) hk, byt_left _ _ _ (by rw [ByteArray.size_append]; omega), byt_right _ _ _ (by omega)]
    congr 1
    omega
theorem ex_end (x m : ByteArray) {a b : Nat} (ha : a = x.size) (hb : b = (x ++ m).size) : (x ++ m).extract a b = m := by
  rw [ByteArray.size_append] at hb
  apply byt_ext
  · rw [size_extract' _ _ _ (by rw [ByteArray.size_append]; omega)]; omega
  · intro k hk
    rw [size_extract' _ _ _ (by rw [ByteArray.size_append]; omega)] at hk
    rw [byt_extract _ _ _ _ (by rw [ByteArray.size_append]; omega) hk, byt_right _ _ _ (by omega)]
    congr 1
    omega
theorem ex_start (m y : ByteArray) {b : Nat} (hb : b = m.size) : (m ++ y).extract 0 b = m := by
  apply byt_ext
  · rw [size_extract' _ _ _ (by rw [ByteArray.size_append]; omega)]; omega
  · intro k hk
    rw [size_extract' _ _ _ (by rw [ByteArray.size_append]; omega)] at hk
    rw [byt_extract _ _ _ _ (by rw [ByteArray.size_append]; omega) hk, Nat.zero_add, byt_left _ _ _ (by omega)]
theorem ex_join (s : ByteArray) (a b c : Nat) (h1 : a ≤ b) (h2 : b ≤ c) (h3 : c ≤ s.size) : s.extract a b ++ s.extract b c = s.extract a c := by
  have z1 : (s.extract a b).size = b - a := size_extract' _ _ _ (by omega)
  have z2 : (s.extract b c).size = c - b := size_extract' _ _ _ (by omega)
  apply byt_ext
  · rw [ByteArray.size_append, z1, z2, size_extract' _ _ _ h3]; omega
  · intro k hk
    rw [ByteArray.size_append, z1, z2] at hk
    rw [byt_extract s a c k h3 (by omega)]
    rcases Nat.lt_or_ge k (b - a) with h | h
    · rw [byt_left _ _ _ (by omega), byt_extract _ _ _ _ (by omega) h]
    · rw [byt_right _ _ _ (by omega), z1, byt_extract _ _ _ _ h3 (by omega)]
      congr 1
      omega
theorem ex_all (s : ByteArray) : s.extract 0 s.size = s := by
  apply byt_ext
  · rw [size_extract' _ _ _ (Nat.le_refl _)]; omega
  · intro k hk
    rw [size_extract' _ _ _ (Nat.le_refl _)] at hk
    rw [byt_extract _ _ _ _ (Nat.le_refl _) hk, Nat.zero_add]
theorem ex_ex (s : ByteArray) (a b c d : Nat) (h : b ≤ s.size) (h1 : c ≤ d) (h2 : a + d ≤ b) : (s.extract a b).extract c d = s.extract (a + c) (a + d) := by
  have z1 : (s.extract a b).size = b - a := size_extract' _ _ _ h
  apply byt_ext
  · rw [size_extract' _ _ _ (by omega), size_extract' _ _ _ (by omega)]; omega
  · intro k hk
    rw [size_extract' _ _ _ (by omega)] at hk
    rw [byt_extract _ _ _ _ (by omega) hk, byt_extract _ _ _ _ h (by omega), byt_extract _ _ _ _ (by omega) (by omega)]
    congr 1
    omega
theorem one_47 : one 47 = ⟨#[47]⟩ := rfl
theorem one_32 : one 32 = ⟨#[32]⟩ := rfl
/-- The pieces of a text that has its slashes and its space. -/
theorem fmt_pieces (s : ByteArray) (h : 8 ≤ s.size) (h3 : byt s 3 = 47) (h7 : byt s 7 = 32) (i : Nat) (hc : Cut1 (s.extract 8 s.size) i) (N D : Nat) (hN : (s.extract 8 s.size).extract 0 i = decS N (nDigits N)) (hD : (s.extract 8 s.size).extract (i + 1) (s.extract 8 s.size).size = decS D (nDigits D)) :
    fmtR (s.extract 0 3) (s.extract 4 7) N D = s := by
  have hz : (s.extract 8 s.size).size = s.size - 8 := size_extract' _ _ _ (Nat.le_refl _)
  have hi := hc.lt
  have hh := hc.hit
  rw [hz] at hi hD
  rw [byt_extract _ _ _ _ (Nat.le_refl _) (by omega)] at hh
  rw [ex_ex s 8 s.size 0 i (Nat.le_refl _) (by omega) (by omega)] at hN
  rw [ex_ex s 8 s.size (i + 1) (s.size - 8) (Nat.le_refl _) (by omega) (by omega)] at hD
  unfold fmtR
  rw [← hN, ← hD, ← one_47, ← one_32]
  have e3 := extract_one s 3 (by omega)
  have e7 := extract_one s 7 (by omega)
  have ei := extract_one s (8 + i) (by omega)
  rw [h3] at e3
  rw [h7] at e7
  rw [hh] at ei
  rw [← e7]
  conv => lhs; rw [show s.extract 0 3 ++ one 47 = s.extract 0 4 by rw [← e3]; exact ex_join s 0 3 4 (by omega) (by omega) (by omega)]
  rw [ex_join s 0 4 7 (by omega) (by omega) (by omega), ex_join s 0 7 8 (by omega) (by omega) (by omega), show 8 + 0 = 8 from rfl, ex_join s 0 8 (8 + i) (by omega) (by omega) (by omega)]
  rw [show s.extract 0 (8 + i) ++ one 47 = s.extract 0 (8 + i + 1) by rw [← ei]; exact ex_join s 0 (8 + i) (8 + i + 1) (by omega) (by omega) (by omega)]
  rw [show 8 + (i + 1) = 8 + i + 1 by omega, show 8 + (s.size - 8) = s.size by omega, ex_join s 0 (8 + i + 1) s.size (by omega) (by omega) (Nat.le_refl _), ex_all]
set_option maxHeartbeats 1600000 in
theorem parse_tot (s : ByteArray) (hs : s.size ≤ 200) : (∃ e, PaP s ⟨#[]⟩ ⟨#[]⟩ 0 0 e ∧ (e != 0) = true) ∨ ∃ (f t : ByteArray) (N D : Nat), PaP s f t (N : Int) (D : Int) 0 ∧ chkR f t (N : Int) (D : Int) = 0 ∧ f.size = 3 ∧ t.size = 3 ∧ N ≤ 1099511627776 ∧ D ≤ 1099511627776 ∧ fmtR f t N D = s := by
  by_cases h0 : s.size = 0
  · exact .inl ⟨1, pa_empty s h0, rfl⟩
  by_cases h8 : s.size < 8
  · exact .inl ⟨2, pa_short s h0 h8, rfl⟩
  have h8' : 8 ≤ s.size := by omega
  by_cases h3 : byt s 3 = 47
  case neg => exact .inl ⟨2, pa_3 s (by omega) h8' h3, rfl⟩
  by_cases h7 : byt s 7 = 32
  case neg => exact .inl ⟨2, pa_7 s (by omega) h8' h3 h7, rfl⟩
  have hz : (s.extract 8 s.size).size = s.size - 8 := size_extract' _ _ _ (Nat.le_refl _)
  rcases idx_cases (s.extract 8 s.size) with ⟨i, hc, hi⟩ | ⟨hn, hi⟩
  · have hil := hc.lt
    have za : ((s.extract 8 s.size).extract 0 i).size ≤ 1000 := by rw [size_extract' _ _ _ (by omega)]; omega
    have zb : ((s.extract 8 s.size).extract (i + 1) (s.extract 8 s.size).size).size ≤ 1000 := by rw [size_extract' _ _ _ (Nat.le_refl _)]; omega
    obtain ⟨v1, b1, N1, k1⟩ := num_tot _ za
    obtain ⟨v2, b2, N2, k2⟩ := num_tot _ zb
    have HC := Lib.hid (fun w => cut_yes (s.extract 8 s.size) (by omega) i hc w)
    by_cases hb : b1 = true ∧ b2 = true
    · obtain ⟨rfl, rfl⟩ := hb
      by_cases hk : chkR (s.extract 0 3) (s.extract 4 7) v1 v2 = 0
      · obtain ⟨N, D, rfl, rfl, n0, d0, n1, d1⟩ := num_nat (chk_ok hk).2
        refine .inr ⟨_, _, N, D, pa_ok s (by omega) h8' h3 h7 _ _ HC _ _ (Lib.hid N1) (Lib.hid N2) (Lib.hid hk), hk, by rw [size_extract' _ _ _ (by omega)], by rw [size_extract' _ _ _ (by omega)], n1, d1, ?_⟩
        exact fmt_pieces s h8' h3 h7 i hc N D ((k1 rfl).trans (itS_nat N)) ((k2 rfl).trans (itS_nat D))
      · exact .inl ⟨_, pa_bad s (by omega) h8' h3 h7 _ _ HC _ _ (Lib.hid N1) (Lib.hid N2) (Lib.hid rfl) (chk_ne hk), chk_ne hk⟩
    · exact .inl ⟨2, pa_num s (by omega) h8' h3 h7 _ _ _ HC _ _ b1 b2 (Lib.hid N1) (Lib.hid N2) (by cases b1 <;> cases b2 <;> simp_all), rfl⟩
  · obtain ⟨v1, b1, N1, k1⟩ := num_tot (s.extract 8 s.size) (by omega)
    obtain ⟨v2, b2, N2, k2⟩ := num_tot ⟨#[]⟩ (by decide)
    exact .inl ⟨2, pa_num s (by omega) h8' h3 h7 _ _ _ (Lib.hid (fun w => cut_no (s.extract 8 s.size) (by omega) hi w)) _ _ b1 b2 (Lib.hid N1) (Lib.hid N2) (.inl rfl), rfl⟩
set_option maxHeartbeats 1600000 in
theorem parse_fmt (f t : ByteArray) (N D : Nat) (hf : f.size = 3) (ht : t.size = 3) (hk : chkR f t (N : Int) (D : Int) = 0) (n1 : N ≤ 1099511627776) (d1 : D ≤ 1099511627776) : PaP (fmtR f t N D) f t (N : Int) (D : Int) 0 ∧ (fmtR f t N D).size ≤ 100 := by
  have zp := decS_size N (nDigits N)
  have zq := decS_size D (nDigits D)
  have hp := nd_13 n1
  have hq := nd_13 d1
  have dp := dgs_decS N (nDigits N)
  have NP := num_dec N n1
  have NQ := num_dec D d1
  have hS : fmtR f t N D = f ++ ⟨#[47]⟩ ++ t ++ ⟨#[32]⟩ ++ (decS N (nDigits N) ++ ⟨#[47]⟩ ++ decS D (nDigits D)) := by
    unfold fmtR
    simp only [ByteArray.append_assoc]
  rw [hS]
  clear hS
  generalize decS N (nDigits N) = p at *
  generalize decS D (nDigits D) = q at *
  have z0 : (⟨#[47]⟩ : ByteArray).size = 1 := rfl
  have z1 : (⟨#[32]⟩ : ByteArray).size = 1 := rfl
  generalize hR : p ++ ⟨#[47]⟩ ++ q = r at *
  have zr : r.size = p.size + 1 + q.size := by rw [← hR, ByteArray.size_append, ByteArray.size_append, z0]
  have zS : (f ++ ⟨#[47]⟩ ++ t ++ ⟨#[32]⟩ ++ r).size = 8 + r.size := by simp only [ByteArray.size_append]; omega
  have b3 : byt (f ++ ⟨#[47]⟩ ++ t ++ ⟨#[32]⟩ ++ r) 3 = 47 := by
    rw [byt_left _ _ _ (by simp only [ByteArray.size_append]; omega), byt_left _ _ _ (by simp only [ByteArray.size_append]; omega), byt_left _ _ _ (by simp only [ByteArray.size_append]; omega), byt_right _ _ _ (by omega), hf]
    rfl
  have b7 : byt (f ++ ⟨#[47]⟩ ++ t ++ ⟨#[32]⟩ ++ r) 7 = 32 := by
    rw [byt_left _ _ _ (by simp only [ByteArray.size_append]; omega), byt_right _ _ _ (by simp only [ByteArray.size_append]; omega)]
    simp only [ByteArray.size_append, hf, ht, z0]
    rfl
  have e0 : (f ++ ⟨#[47]⟩ ++ t ++ ⟨#[32]⟩ ++ r).extract 0 3 = f := by
    simp only [ByteArray.append_assoc]
    exact ex_start _ _ hf.symm
  have e4 : (f ++ ⟨#[47]⟩ ++ t ++ ⟨#[32]⟩ ++ r).extract 4 7 = t := by
    rw [show f ++ ⟨#[47]⟩ ++ t ++ ⟨#[32]⟩ ++ r = (f ++ ⟨#[47]⟩) ++ t ++ (⟨#[32]⟩ ++ r) from ByteArray.append_assoc]
    exact ex_mid _ _ _ (by rw [ByteArray.size_append]; omega) (by rw [ByteArray.size_append]; omega)
  have e8 : (f ++ ⟨#[47]⟩ ++ t ++ ⟨#[32]⟩ ++ r).extract 8 (f ++ ⟨#[47]⟩ ++ t ++ ⟨#[32]⟩ ++ r).size = r := ex_end _ _ (by simp only [ByteArray.size_append]; omega) rfl
  have hc : Cut1 r p.size := by
    refine ⟨by omega, ?_, fun j hj => ?_⟩
    · rw [← hR, byt_left _ _ _ (by rw [ByteArray.size_append]; omega), byt_right _ _ _ (Nat.le_refl _), Nat.sub_self]
      rfl
    · rw [← hR, byt_left _ _ _ (by rw [ByteArray.size_append]; omega), byt_left _ _ _ hj]
      have := dp j hj
      unfold dgAt at this
      omega
  have r1 : r.extract 0 p.size = p := by
    rw [← hR, ByteArray.append_assoc]
    exact ex_start _ _ rfl
  have r2 : r.extract (p.size + 1) r.size = q := by
    rw [← hR]
    exact ex_end _ _ (by rw [ByteArray.size_append, z0]) rfl
  generalize f ++ ⟨#[47]⟩ ++ t ++ ⟨#[32]⟩ ++ r = S at *
  refine ⟨?_, by omega⟩
  have HC : Hid (∀ w, Calls Tryd.prog 42 #[.string (S.extract 8 S.size), .string ⟨#[47]⟩] w fun e w' => e = .returned (.tuple #[.string p, .string q, .bool true]) ∧ Pushed w w') := Lib.hid fun w => by
    have := cut_yes r (by omega) p.size hc w
    rw [r1, r2] at this
    rw [e8]
    exact this
  have := pa_ok S (by omega) (by omega) b3 b7 p q HC (N : Int) (D : Int) (Lib.hid NP) (Lib.hid NQ) (Lib.hid (by rw [e0, e4]; exact hk))
  rw [e0, e4] at this
  exact this
end Go.Proofs.YtobnkfgikafanaaDoor
