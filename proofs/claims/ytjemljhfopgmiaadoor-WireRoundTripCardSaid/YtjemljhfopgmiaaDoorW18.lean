/-
  MATHEMATICS of wire: digits read back, digits in order; what Num answers for any arguments.
-/
import Derived.Test.YtjemljhfopgmiaaDoorW17
namespace Go.Proofs.YtjemljhfopgmiaaDoor
open Go.RowKit
set_option linter.unusedVariables false
set_option linter.unusedSimpArgs false
theorem app_pre (a b : ByteArray) {k : Nat} (h : a.size = k) : (a ++ b).extract 0 k = a := by
  subst h
  apply byt_ext
  · rw [size_extract' _ _ _ (by rw [ByteArray.size_append]; omega)]; omega
  · intro k hk
    rw [size_extract' _ _ _ (by rw [ByteArray.size_append]; omega)] at hk
    rw [byt_extract _ _ _ _ (by rw [ByteArray.size_append]; omega) hk, Nat.zero_add, byt_left _ _ _ (by omega)]
theorem app_post (a b : ByteArray) {k : Nat} (h : a.size = k) : (a ++ b).extract k (a ++ b).size = b := by
  subst h
  apply byt_ext
  · rw [size_extract' _ _ _ (Nat.le_refl _), ByteArray.size_append]; omega
  · intro k hk
    rw [size_extract' _ _ _ (Nat.le_refl _)] at hk
    rw [byt_extract _ _ _ _ (Nat.le_refl _) hk, byt_right _ _ _ (by omega)]
    congr 1
    omega
theorem numbP_dec {u k : Nat} {t : ByteArray} {v c : Int} (hlt : u < 10 ^ k) (h : NumbP (decS u k ++ t) k v c) : v = (u : Int) ∧ c = 0 := by
  have hz := decS_size u k
  rcases h with h | h | h
  · have := h.1
    rw [ByteArray.size_append, hz] at this
    omega
  · have := h.2.1
    rw [app_pre _ _ hz] at this
    exact absurd (dgs_decS u k) this
  · have := h.2.2.1
    rw [app_pre _ _ hz, numOf_decS u k k (Nat.le_refl _), Nat.sub_self, Nat.pow_zero, Nat.div_one, Nat.mod_eq_of_lt hlt] at this
    exact ⟨this, h.2.2.2⟩
theorem less_dc (u v : Nat) : ∀ d, Op.bytesLess (dcL u d) (dcL v d) = decide (u % 10 ^ d < v % 10 ^ d)
  | 0 => by rw [Nat.pow_zero, Nat.mod_one, Nat.mod_one]; rfl
  | d + 1 => by
    rw [dcL_cons, dcL_cons, Op.bytesLess]
    have hu := dg_val u d
    have hv := dg_val v d
    rw [Nat.pow_succ, Nat.mod_mul, Nat.mod_mul]
    have hP : 0 < 10 ^ d := Nat.pow_pos (by decide)
    have ha := Nat.mod_lt u hP
    have hb := Nat.mod_lt v hP
    rcases Nat.lt_trichotomy (u / 10 ^ d % 10) (v / 10 ^ d % 10) with h1 | h1 | h1
    · have : Lib.dg u d < Lib.dg v d := by rw [UInt8.lt_iff_toNat_lt]; omega
      have h2 : 10 ^ d * (u / 10 ^ d % 10) + 10 ^ d ≤ 10 ^ d * (v / 10 ^ d % 10) := by
        have := Nat.mul_le_mul_left (10 ^ d) (show u / 10 ^ d % 10 + 1 ≤ v / 10 ^ d % 10 from h1)
        rw [Nat.mul_add, Nat.mul_one] at this
        exact this
      rw [decide_eq_true this, Bool.true_or]
      exact (decide_eq_true (by omega)).symm
    · have he : Lib.dg u d = Lib.dg v d := by apply UInt8.toNat_inj.1; omega
      rw [h1, less_dc u v d, he]
      simp
    · have h2 : 10 ^ d * (v / 10 ^ d % 10) + 10 ^ d ≤ 10 ^ d * (u / 10 ^ d % 10) := by
        have := Nat.mul_le_mul_left (10 ^ d) (show v / 10 ^ d % 10 + 1 ≤ u / 10 ^ d % 10 from h1)
        rw [Nat.mul_add, Nat.mul_one] at this
        exact this
      have n1 : ¬ Lib.dg u d < Lib.dg v d := by rw [UInt8.lt_iff_toNat_lt]; omega
      have n2 : ¬ Lib.dg u d = Lib.dg v d := by intro h; rw [h] at hu; omega
      rw [decide_eq_false n1, Bool.false_or]
      have : decide (10 ^ d * (u / 10 ^ d % 10) + u % 10 ^ d < 10 ^ d * (v / 10 ^ d % 10) + v % 10 ^ d) = false := decide_eq_false (by omega)
      first | (rw [beq_eq_false_iff_ne.2 n2, Bool.false_and]; exact (decide_eq_false (by omega)).symm) | (simp [n2]; omega)
theorem less_dec {u v d : Nat} (hu : u < 10 ^ d) (hv : v < 10 ^ d) : Op.bytesLess (decS u d).toList (decS v d).toList = decide (u < v) := by
  rw [ByteArray.toList_eq, ByteArray.toList_eq]
  show Op.bytesLess (dcL u d) (dcL v d) = _
  rw [less_dc, Nat.mod_eq_of_lt hu, Nat.mod_eq_of_lt hv]
/-- What Num answers, for any number and a width from 1 to 15. -/
def NumR (n : Int) (k : Nat) (r : ByteArray) (c : Int) : Prop := (c = 0 ∧ 0 ≤ n ∧ n.toNat < 10 ^ k ∧ r = decS n.toNat k) ∨ (c = 4 ∧ r = ByteArray.empty)
theorem num_tot (n : Int) (k : Nat) (k1 : 1 ≤ k) (k2 : k ≤ 15) (n1 : n ≤ 9223372036854775807) : ∃ r c, NumR n k r c ∧ ∀ w, Pow w → Calls Tryd.prog 7 #[.int .i64 n, .int .i64 (k : Int)] w fun e w' => e = .returned (.tuple #[.string r, .int .i64 c]) ∧ Below w.heap.size w w' := by
  by_cases h0 : n < 0
  · refine ⟨_, _, .inr ⟨rfl, rfl⟩, fun w hT => (num_range n k (.inr (.inr h0)) w).mono ?_⟩
    rintro e w' ⟨rfl, rfl⟩
    exact ⟨rfl, Below.refl _ _⟩
  · obtain ⟨u, rfl⟩ := Int.eq_ofNat_of_zero_le (show 0 ≤ n by omega)
    by_cases hlt : u < 10 ^ k
    · exact ⟨_, _, .inl ⟨rfl, by omega, hlt, rfl⟩, fun w hT => num_ok u k (by omega) k1 k2 hlt w hT⟩
    · exact ⟨_, _, .inr ⟨rfl, rfl⟩, fun w hT => num_big u k (by omega) k1 k2 (by omega) w hT⟩
end Go.Proofs.YtjemljhfopgmiaaDoor
