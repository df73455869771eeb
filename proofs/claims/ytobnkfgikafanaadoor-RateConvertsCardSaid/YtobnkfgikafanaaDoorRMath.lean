/-
  MATHEMATICS of rates: currencies, fractions in lowest terms.
-/
import Derived.Test.YtobnkfgikafanaaDoorPMath
namespace Go.Proofs.YtobnkfgikafanaaDoor
set_option linter.unusedVariables false
def capAt (s : ByteArray) (k : Nat) : Prop := 65 ≤ byt s k ∧ byt s k ≤ 90
def curP (s : ByteArray) : Prop := s.size = 3 ∧ ∀ k, k < 3 → capAt s k
instance (s : ByteArray) : Decidable (curP s) := by unfold curP capAt; exact inferInstance
/-- A fraction in lowest terms. -/
def rdN (a b : Nat) : Nat := a / Nat.gcd a b
def rdD (a b : Nat) : Nat := b / Nat.gcd a b
theorem gcd_pos {a b : Nat} (h : 1 ≤ a) : 1 ≤ Nat.gcd a b := Nat.gcd_pos_of_pos_left b (by omega)
theorem rdN_pos {a b : Nat} (h : 1 ≤ a) : 1 ≤ rdN a b := Nat.div_pos (Nat.gcd_le_left b (by omega)) (gcd_pos h)
theorem rdD_pos {a b : Nat} (h : 1 ≤ a) (hb : 1 ≤ b) : 1 ≤ rdD a b := Nat.div_pos (Nat.gcd_le_right a (by omega)) (gcd_pos h)
theorem rdN_le (a b : Nat) : rdN a b ≤ a := Nat.div_le_self _ _
theorem rdD_le (a b : Nat) : rdD a b ≤ b := Nat.div_le_self _ _
theorem rd_gcd {a b : Nat} (h : 1 ≤ a) : Nat.gcd (rdN a b) (rdD a b) = 1 := Nat.gcd_div_gcd_div_gcd_of_pos_left (by omega)
theorem rd_id {a b : Nat} (h : Nat.gcd a b = 1) : rdN a b = a ∧ rdD a b = b := by unfold rdN rdD; rw [h, Nat.div_one, Nat.div_one]; exact ⟨rfl, rfl⟩
theorem rd_swap (a b : Nat) : rdN b a = rdD a b ∧ rdD b a = rdN a b := by unfold rdN rdD; rw [Nat.gcd_comm b a]; exact ⟨rfl, rfl⟩
/-- .. of a fraction that is in lowest terms, turned round. -/
theorem rd_back {a b : Nat} (h : 1 ≤ a) : rdN (rdD b a) (rdN b a) = rdN a b ∧ rdD (rdD b a) (rdN b a) = rdD a b := by
  rw [(rd_swap b a).1.symm, (rd_swap b a).2.symm]
  exact rd_id (rd_gcd h)
/-- The product of two fractions in lowest terms. -/
structure Prd where
  a : Nat
  b : Nat
  c : Nat
  d : Nat
def prd (a b c d : Nat) : Prd :=
  let a1 := rdN a b
  let b1 := rdD a b
  let c1 := rdN c d
  let d1 := rdD c d
  ⟨rdN a1 d1, rdD c1 b1, rdN c1 b1, rdD a1 d1⟩
theorem prd_bd {a b c d : Nat} (ha : 1 ≤ a) (hb : 1 ≤ b) (hc : 1 ≤ c) (hd : 1 ≤ d) (ga : a ≤ 1099511627776) (gb : b ≤ 1099511627776) (gc : c ≤ 1099511627776) (gd : d ≤ 1099511627776) :
    (1 ≤ (prd a b c d).a ∧ (prd a b c d).a ≤ 1099511627776) ∧ (1 ≤ (prd a b c d).b ∧ (prd a b c d).b ≤ 1099511627776) ∧ (1 ≤ (prd a b c d).c ∧ (prd a b c d).c ≤ 1099511627776) ∧ (1 ≤ (prd a b c d).d ∧ (prd a b c d).d ≤ 1099511627776) := by
  have p1 := rdN_pos (b := b) ha
  have p2 := rdD_pos ha hb
  have p3 := rdN_pos (b := d) hc
  have p4 := rdD_pos hc hd
  have l1 := rdN_le a b
  have l2 := rdD_le a b
  have l3 := rdN_le c d
  have l4 := rdD_le c d
  refine ⟨⟨rdN_pos p1, ?_⟩, ⟨rdD_pos p3 p2, ?_⟩, ⟨rdN_pos p3, ?_⟩, ⟨rdD_pos p1 p4, ?_⟩⟩
  · exact Nat.le_trans (rdN_le _ _) (by omega)
  · exact Nat.le_trans (rdD_le _ _) (by omega)
  · exact Nat.le_trans (rdN_le _ _) (by omega)
  · exact Nat.le_trans (rdD_le _ _) (by omega)
end Go.Proofs.YtobnkfgikafanaaDoor
