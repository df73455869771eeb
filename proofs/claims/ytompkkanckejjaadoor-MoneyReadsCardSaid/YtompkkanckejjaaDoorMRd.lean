/-
  MATHEMATICS of amounts: their texts.
-/
import Derived.Test.YtompkkanckejjaaDoorMFmt
import Derived.Lib.Strings
namespace Go.Proofs.YtompkkanckejjaaDoor
open Go.Lib
set_option linter.unusedVariables false
theorem nd_bd (u : Nat) : u < 10 ^ nDigits u ∧ (nDigits u = 1 ∨ 10 ^ (nDigits u - 1) ≤ u) := by
  induction u using Nat.strongRecOn with
  | _ u ih =>
    by_cases h : u < 10
    · rw [nDigits_small h]; exact ⟨by omega, .inl rfl⟩
    · obtain ⟨h1, h2⟩ := ih (u / 10) (by omega)
      rw [nDigits_big h, Nat.pow_succ, Nat.add_sub_cancel]
      refine ⟨by omega, .inr ?_⟩
      rcases h2 with h2 | h2
      · rw [h2]; omega
      · have hp := nDigits_pos (u / 10)
        obtain ⟨m, hm⟩ : ∃ m, nDigits (u / 10) = m + 1 := ⟨_, (Nat.succ_pred (by omega)).symm⟩
        rw [hm] at h2 ⊢
        rw [Nat.add_sub_cancel] at h2
        rw [Nat.pow_succ]
        omega
theorem nd_iff (u d : Nat) (hd : 1 ≤ d) : nDigits u ≤ d ↔ u < 10 ^ d := by
  obtain ⟨h1, h2⟩ := nd_bd u
  constructor
  · intro h
    exact Nat.lt_of_lt_of_le h1 (Nat.pow_le_pow_right (by decide) h)
  · intro h
    rcases h2 with h2 | h2
    · omega
    · apply Classical.byContradiction
      intro hn
      have := Nat.pow_le_pow_right (show 0 < 10 by decide) (show d ≤ nDigits u - 1 by omega)
      omega
theorem nd_mono (u : Nat) {d : Nat} (h : nDigits u ≤ d) : u < 10 ^ d := Nat.lt_of_lt_of_le (nd_bd u).1 (Nat.pow_le_pow_right (by decide) h)

def padD (u p : Nat) : Nat := max (nDigits u) (p + 1)
/-- Digits with a point before the last p. -/
def bodyOf (d : ByteArray) (p : Nat) : ByteArray := if p = 0 then d else d.extract 0 (d.size - p) ++ (one 46 ++ d.extract (d.size - p) d.size)
def dgS (m : Int) (p : Nat) : ByteArray := decS m.natAbs (padD m.natAbs p)
def signed (m : Int) (b : ByteArray) : ByteArray := if m < 0 then one 45 ++ b else b
/-- The text of an amount. -/
def fmtM (m : Int) (c : ByteArray) : ByteArray := signed m (bodyOf (dgS m (expN c)) (expN c)) ++ one 32 ++ c
/-- What the digits of a text of units are. -/
def UD (s : ByteArray) (p : Nat) (d : ByteArray) : Prop := s = bodyOf d p ∧ p < d.size ∧ Dgs d ∧ (d.size = p + 1 ∨ byt d 0 ≠ 48)
theorem app_size (s t : ByteArray) : (s ++ t).size = s.size + t.size := ByteArray.size_append
theorem ext_all (s : ByteArray) : s.extract 0 s.size = s := byt_ext (by rw [size_extract' _ _ _ (Nat.le_refl _)]; omega) fun k hk => by
  rw [size_extract' _ _ _ (Nat.le_refl _)] at hk
  rw [byt_extract _ _ _ _ (Nat.le_refl _) hk, Nat.zero_add]
theorem ext_left (s t : ByteArray) : (s ++ t).extract 0 s.size = s := byt_ext (by rw [size_extract' _ _ _ (by rw [app_size]; omega)]; omega) fun k hk => by
  rw [size_extract' _ _ _ (by rw [app_size]; omega)] at hk
  rw [byt_extract _ _ _ _ (by rw [app_size]; omega) hk, Nat.zero_add, byt_left _ _ _ (by omega)]
theorem ext_right (s t : ByteArray) : (s ++ t).extract s.size (s ++ t).size = t := byt_ext (by rw [size_extract' _ _ _ (Nat.le_refl _), app_size]; omega) fun k hk => by
  rw [size_extract' _ _ _ (Nat.le_refl _)] at hk
  rw [byt_extract _ _ _ _ (Nat.le_refl _) hk, byt_right _ _ _ (by omega)]
  congr 1
  omega
theorem ext_join (s : ByteArray) (a : Nat) (h : a ≤ s.size) : s.extract 0 a ++ s.extract a s.size = s := byt_ext (by rw [app_size, size_extract' _ _ _ h, size_extract' _ _ _ (Nat.le_refl _)]; omega) fun k hk => by
  rw [app_size, size_extract' _ _ _ h, size_extract' _ _ _ (Nat.le_refl _)] at hk
  rcases Nat.lt_or_ge k a with hl | hl
  · rw [byt_left _ _ _ (by rw [size_extract' _ _ _ h]; omega), byt_extract _ _ _ _ h (by omega), Nat.zero_add]
  · rw [byt_right _ _ _ (by rw [size_extract' _ _ _ h]; omega), size_extract' _ _ _ h, byt_extract _ _ _ _ (Nat.le_refl _) (by omega)]
    congr 1
    omega
theorem body_size {d : ByteArray} {p : Nat} (h : p < d.size) : (bodyOf d p).size = d.size + (if p = 0 then 0 else 1) := by
  unfold bodyOf
  split
  · omega
  · rw [app_size, app_size, one_size, size_extract' _ _ _ (by omega), size_extract' _ _ _ (Nat.le_refl _)]; omega
theorem body_first {d : ByteArray} {p : Nat} (h : p < d.size) : byt (bodyOf d p) 0 = byt d 0 := by
  unfold bodyOf
  split
  · rfl
  · rw [byt_left _ _ _ (by rw [size_extract' _ _ _ (by omega)]; omega), byt_extract _ _ _ _ (by omega) (by omega)]
theorem body_parts {d : ByteArray} {p : Nat} (h : p < d.size) (hp : 0 < p) : byt (bodyOf d p) (d.size - p) = 46 ∧ (bodyOf d p).extract 0 (d.size - p) = d.extract 0 (d.size - p) ∧ (bodyOf d p).extract (d.size - p + 1) (bodyOf d p).size = d.extract (d.size - p) d.size := by
  have e : bodyOf d p = d.extract 0 (d.size - p) ++ (one 46 ++ d.extract (d.size - p) d.size) := by unfold bodyOf; rw [if_neg (by omega)]
  have z : (d.extract 0 (d.size - p)).size = d.size - p := by rw [size_extract' _ _ _ (by omega)]; omega
  rw [e]
  generalize hA : d.extract 0 (d.size - p) = A at *
  generalize hB : d.extract (d.size - p) d.size = B at *
  rw [← z]
  refine ⟨?_, ext_left _ _, ?_⟩
  · rw [byt_right _ _ _ (Nat.le_refl _), Nat.sub_self, byt_left _ _ _ (by rw [one_size]; omega)]
    exact byt_one 46 (by omega) (by omega)
  · have h1 : A ++ (one 46 ++ B) = (A ++ one 46) ++ B := by rw [ByteArray.append_assoc]
    have h2 : A.size + 1 = (A ++ one 46).size := by rw [app_size, one_size]
    rw [h1, h2]
    exact ext_right _ _
theorem dgs_extract {d : ByteArray} {a b : Nat} (h : Dgs d) (hb : b ≤ d.size) : Dgs (d.extract a b) := fun k hk => by
  rw [size_extract' _ _ _ hb] at hk
  unfold dgAt
  rw [byt_extract _ _ _ _ hb hk]
  exact h (a + k) (by omega)
/-- A text with a point is the body of its digits. -/
theorem body_of_parts {s : ByteArray} {p : Nat} (hp : 0 < p) (hz : p + 1 ≤ s.size) (hd : byt s (s.size - p - 1) = 46) : s = bodyOf (s.extract 0 (s.size - p - 1) ++ s.extract (s.size - p - 1 + 1) s.size) p := by
  have za : (s.extract 0 (s.size - p - 1)).size = s.size - p - 1 := by rw [size_extract' _ _ _ (by omega)]; omega
  have zb : (s.extract (s.size - p - 1 + 1) s.size).size = p := by rw [size_extract' _ _ _ (Nat.le_refl _)]; omega
  have hs : s.extract 0 (s.size - p - 1) ++ (one 46 ++ s.extract (s.size - p - 1 + 1) s.size) = s := by
    apply byt_ext
    · rw [app_size, app_size, one_size, za, zb]; omega
    · intro k hk
      rw [app_size, app_size, one_size, za, zb] at hk
      rcases Nat.lt_or_ge k (s.size - p - 1) with hl | hl
      · rw [byt_left _ _ _ (by omega), byt_extract _ _ _ _ (by omega) (by omega), Nat.zero_add]
      · rw [byt_right _ _ _ (by omega), za]
        rcases Nat.eq_or_lt_of_le hl with he | hg
        · rw [← he, Nat.sub_self, byt_left _ _ _ (by rw [one_size]; omega), hd]
          exact byt_one 46 (by omega) (by omega)
        · rw [byt_right _ _ _ (by rw [one_size]; omega), one_size, byt_extract _ _ _ _ (Nat.le_refl _) (by omega)]
          congr 1
          omega
  generalize hA : s.extract 0 (s.size - p - 1) = A at *
  generalize hB : s.extract (s.size - p - 1 + 1) s.size = B at *
  unfold bodyOf
  rw [if_neg (by omega), show (A ++ B).size - p = A.size by rw [app_size]; omega, ext_left, ext_right]
  exact hs.symm
theorem numOf_mono {d : ByteArray} (hd : Dgs d) : ∀ n k, k + n ≤ d.size → numOf d 0 k ≤ numOf d 0 (k + n)
  | 0, k, _ => Int.le_refl _
  | n + 1, k, h => by
    have h1 := numOf_mono hd n k (by omega)
    have h2 := hd (k + n) (by omega)
    have h3 := numOf_bd d 0 (k + n) (fun j hj => by rw [Nat.zero_add]; exact hd j (by omega))
    unfold dgAt at h2
    rw [← Nat.add_assoc, numOf, Nat.zero_add]
    omega
theorem numOf_lead {d : ByteArray} (hd : Dgs d) (h0 : byt d 0 ≠ 48) : ∀ k, k + 1 ≤ d.size → (10 : Int) ^ k ≤ numOf d 0 (k + 1)
  | 0, h => by
    have h2 := hd 0 (by omega)
    unfold dgAt at h2
    simp [numOf]
    omega
  | k + 1, h => by
    have h1 := numOf_lead hd h0 k (by omega)
    have h2 := hd (k + 1) (by omega)
    unfold dgAt at h2
    rw [numOf, Nat.zero_add, Int.pow_succ]
    omega
/-- The digits of a text of units are those of their number. -/
theorem dg_of_ud {d : ByteArray} {p : Nat} (hz : p < d.size) (hd : Dgs d) (hl : d.size = p + 1 ∨ byt d 0 ≠ 48) {m : Int} (hm : (m.natAbs : Int) = numOf d 0 d.size) : dgS m p = d := by
  have hb := numOf_bd d 0 d.size (fun j hj => by rw [Nat.zero_add]; exact hd j (by omega))
  have hu : m.natAbs = (numOf d 0 d.size).toNat := by omega
  have h10 : m.natAbs < 10 ^ d.size := by
    have := hb.2
    rw [← hm] at this
    exact_mod_cast this
  have hpad : padD m.natAbs p = d.size := by
    unfold padD
    rcases hl with hl | hl
    · have := (nd_iff m.natAbs (p + 1) (by omega)).2 (by rw [← hl]; exact h10)
      rw [hl]
      exact Nat.max_eq_right this
    · have h1 := numOf_lead hd hl (d.size - 1) (by omega)
      rw [show d.size - 1 + 1 = d.size by omega, ← hm] at h1
      have h2 : 10 ^ (d.size - 1) ≤ m.natAbs := by exact_mod_cast h1
      have h3 : nDigits m.natAbs = d.size := by
        have := nDigits_unique (d.size - 1) m.natAbs h2 (by rw [show d.size - 1 + 1 = d.size by omega]; exact h10)
        omega
      rw [h3]
      exact Nat.max_eq_left (by omega)
  unfold dgS
  rw [hpad, hu]
  have := decS_numOf d 0 d.size (fun j hj => by rw [Nat.zero_add]; exact hd j hj) (by omega)
  rw [this, Nat.zero_add]
  exact ext_all d
theorem dgS_ok (m : Int) (p : Nat) : p < (dgS m p).size ∧ Dgs (dgS m p) ∧ ((dgS m p).size = p + 1 ∨ byt (dgS m p) 0 ≠ 48) ∧ numOf (dgS m p) 0 (dgS m p).size = (m.natAbs : Int) := by
  have hz : (dgS m p).size = padD m.natAbs p := decS_size _ _
  have hlt : m.natAbs < 10 ^ padD m.natAbs p := Nat.lt_of_lt_of_le (nd_bd m.natAbs).1 (Nat.pow_le_pow_right (by decide) (Nat.le_max_left _ _))
  have hp1 : p + 1 ≤ padD m.natAbs p := Nat.le_max_right _ _
  refine ⟨by omega, dgs_decS _ _, ?_, ?_⟩
  · rw [hz]
    by_cases h : nDigits m.natAbs ≤ p + 1
    · exact Or.inl (Nat.max_eq_right h)
    · right
      have e : padD m.natAbs p = nDigits m.natAbs := Nat.max_eq_left (by omega)
      unfold dgS
      rw [e, byt_decS _ _ _ (by omega)]
      rcases (nd_bd m.natAbs).2 with h1 | h1
      · omega
      · have h2 : 1 ≤ m.natAbs / 10 ^ (nDigits m.natAbs - 1) := (Nat.le_div_iff_mul_le (Nat.pow_pos (by decide))).2 (by omega)
        have h3 : m.natAbs / 10 ^ (nDigits m.natAbs - 1) < 10 := by
          rw [Nat.div_lt_iff_lt_mul (Nat.pow_pos (by decide))]
          have := (nd_bd m.natAbs).1
          rw [show nDigits m.natAbs = (nDigits m.natAbs - 1) + 1 by omega, Nat.pow_succ] at this
          omega
        rw [Nat.sub_zero]
        omega
  · rw [hz]
    unfold dgS
    rw [numOf_decS _ _ _ (Nat.le_refl _), Nat.sub_self, Nat.pow_zero, Nat.div_one, Nat.mod_eq_of_lt hlt]
theorem cut_first (b : ByteArray) : (⟨(Lib.trimPrefix (one 45 ++ b).data.toList (⟨#[45]⟩ : ByteArray).data.toList).toArray⟩ : ByteArray) = b ∧ Lib.hasPrefix (one 45 ++ b).data.toList (⟨#[45]⟩ : ByteArray).data.toList = true := by
  have e : (one 45 ++ b).data.toList = 45 :: b.data.toList := by rw [ByteArray.data_append, Array.toList_append]; rfl
  have h : Lib.hasPrefix (45 :: b.data.toList) (⟨#[45]⟩ : ByteArray).data.toList = true := by simp [Lib.hasPrefix, List.isPrefixOf]
  rw [e]
  refine ⟨?_, h⟩
  unfold Lib.trimPrefix
  rw [h]
  simp
theorem cut_none {b : ByteArray} (hb : ¬ (0 < b.size ∧ byt b 0 = 45)) : (⟨(Lib.trimPrefix b.data.toList (⟨#[45]⟩ : ByteArray).data.toList).toArray⟩ : ByteArray) = b ∧ Lib.hasPrefix b.data.toList (⟨#[45]⟩ : ByteArray).data.toList = false := by
  have h : Lib.hasPrefix b.data.toList (⟨#[45]⟩ : ByteArray).data.toList = false := by
    unfold Lib.hasPrefix
    cases hl : b.data.toList with
    | nil => rfl
    | cons x l =>
      have hx : ¬ x = 45 := by
        intro hx
        apply hb
        have hz : b.size = b.data.toList.length := rfl
        refine ⟨by rw [hz, hl]; simp, ?_⟩
        unfold byt
        rw [hl, hx]
        rfl
      have hx2 : ¬ 45 = x := fun h => hx h.symm
      simp [List.isPrefixOf, hx2]
  refine ⟨?_, h⟩
  unfold Lib.trimPrefix
  rw [h]
  simp
theorem split_first {t : ByteArray} (h : 0 < t.size) (h1 : byt t 0 = 45) : t = one 45 ++ t.extract 1 t.size := byt_ext (by rw [app_size, one_size, size_extract' _ _ _ (Nat.le_refl _)]; omega) fun k hk => by
  cases k with
  | zero => rw [byt_left _ _ _ (by rw [one_size]; omega), h1]; exact (byt_one 45 (by omega) (by omega)).symm
  | succ k => rw [byt_right _ _ _ (by rw [one_size]; omega), one_size, byt_extract _ _ _ _ (Nat.le_refl _) (by omega), Nat.add_sub_cancel, Nat.add_comm]
/-- A text's last four bytes. -/
theorem tail_parts {t c : ByteArray} (hc : c.size = 3) : (t ++ one 32 ++ c).size = t.size + 4 ∧ byt (t ++ one 32 ++ c) t.size = 32 ∧ (t ++ one 32 ++ c).extract (t.size + 1) (t ++ one 32 ++ c).size = c ∧ (t ++ one 32 ++ c).extract 0 t.size = t := by
  refine ⟨by rw [app_size, app_size, one_size, hc], ?_, ?_, ?_⟩
  · rw [byt_left _ _ _ (by rw [app_size, one_size]; omega), byt_right _ _ _ (Nat.le_refl _), Nat.sub_self]
    exact byt_one 32 (by omega) (by omega)
  · rw [show t.size + 1 = (t ++ one 32).size by rw [app_size, one_size]]
    exact ext_right _ _
  · rw [ByteArray.append_assoc]
    exact ext_left _ _
theorem tail_join {s : ByteArray} (hz : 4 ≤ s.size) (h : byt s (s.size - 4) = 32) : s = s.extract 0 (s.size - 4) ++ one 32 ++ s.extract (s.size - 3) s.size := by
  have za : (s.extract 0 (s.size - 4)).size = s.size - 4 := by rw [size_extract' _ _ _ (by omega)]; omega
  have zb : (s.extract (s.size - 3) s.size).size = 3 := by rw [size_extract' _ _ _ (Nat.le_refl _)]; omega
  apply byt_ext
  · rw [app_size, app_size, one_size, za, zb]; omega
  · intro k hk
    rcases Nat.lt_or_ge k (s.size - 4) with hl | hl
    · rw [byt_left _ _ _ (by rw [app_size]; omega), byt_left _ _ _ (by omega), byt_extract _ _ _ _ (by omega) (by omega), Nat.zero_add]
    · rcases Nat.eq_or_lt_of_le hl with he | hg
      · rw [byt_left _ _ _ (by rw [app_size, one_size]; omega), byt_right _ _ _ (by omega), za, ← he, Nat.sub_self, h]
        exact (byt_one 32 (by omega) (by omega)).symm
      · rw [byt_right _ _ _ (by rw [app_size, one_size]; omega), app_size, one_size, za, byt_extract _ _ _ _ (Nat.le_refl _) (by omega)]
        congr 1
        omega
end Go.Proofs.YtompkkanckejjaaDoor
