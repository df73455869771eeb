/-
  MATHEMATICS of card numbers: what Make makes, and its order.
-/
import Derived.Test.YtddnfjaogekmjaaDoorP17
import Derived.Test.YtddnfjaogekmjaaDoorP19
namespace Go.Proofs.YtddnfjaogekmjaaDoor
open Go.RowKit
set_option linter.unusedVariables false
set_option linter.unusedSimpArgs false
theorem made_size {p : ByteArray} {u l : Nat} (h : p.size + 1 ≤ l) : (made p u l).size = l := by
  unfold made
  rw [ByteArray.size_append, one_size, body_size h]
  omega
theorem made_chk {p : ByteArray} {u l : Nat} (h : OkM p (u : Int) (l : Int)) : chkE (made p u l) = 0 := by
  obtain ⟨l1, l2, p1, p2, hd, n0, hlt⟩ := h
  have hz : (made p u l).size = l := made_size (by omega)
  have hc := cd_le (body p u l)
  have hdg : Dgs (made p u l) := dgs_app (body_dgs hd) (dgs_one _ hc)
  have hl : luhnP (made p u l) := (cd_iff (body p u l) (cdN (body p u l)) hc).2 rfl
  unfold chkE
  rw [if_neg (by omega), if_neg (by omega), if_neg (fun h => h hdg), if_neg (fun h => h hl)]
theorem made_at {p : ByteArray} {u l : Nat} (h : p.size + 1 ≤ l) {k : Nat} (hk : k < l - 1) : byt (made p u l) k = byt (body p u l) k := by
  unfold made
  rw [byt_left _ _ _ (by rw [body_size h]; exact hk)]
theorem made_pre {p : ByteArray} {u l : Nat} (h : p.size + 1 ≤ l) : (made p u l).extract 0 p.size = p := by
  have hz : (made p u l).size = l := made_size h
  apply byt_ext
  · rw [size_extract' _ _ _ (by omega)]; omega
  · intro k hk
    rw [size_extract' _ _ _ (by omega)] at hk
    rw [byt_extract _ _ _ _ (by omega) hk, Nat.zero_add, made_at h (by omega)]
    unfold body
    rw [byt_left _ _ _ (by omega)]
theorem made_idxN {p : ByteArray} {u l : Nat} (h : OkM p (u : Int) (l : Int)) : idxN p (made p u l) = (u : Int) := by
  obtain ⟨l1, l2, p1, p2, hd, n0, hlt⟩ := h
  rw [Int.toNat_natCast, Int.toNat_natCast] at hlt
  have hz : (made p u l).size = l := made_size (by omega)
  unfold idxN
  rw [hz, numOf_ext (t := decS u (l - 1 - p.size)) (b := 0) (l - 1 - p.size) (fun j hj => by
    rw [made_at (by omega) (by omega)]
    unfold body
    rw [byt_right _ _ _ (by omega)]
    congr 1
    omega), numOf_decS u (l - 1 - p.size) (l - 1 - p.size) (Nat.le_refl _), Nat.sub_self, Nat.pow_zero, Nat.div_one, Nat.mod_eq_of_lt hlt]
theorem made_okx {p : ByteArray} {u l : Nat} (h : OkM p (u : Int) (l : Int)) : OkX p (made p u l) := okx_of (made_chk h) h.2.2.1 h.2.2.2.1 (made_pre (by have := h.1; have := h.2.2.2.1; omega))
theorem less_pre : ∀ (p x y : List UInt8), Op.bytesLess (p ++ x) (p ++ y) = Op.bytesLess x y
  | [], _, _ => rfl
  | a :: p, x, y => by
    rw [List.cons_append, List.cons_append, Op.bytesLess, less_pre p x y]
    simp
theorem less_dc (u v : Nat) (x y : List UInt8) : ∀ d, u % 10 ^ d < v % 10 ^ d → Op.bytesLess (dcL u d ++ x) (dcL v d ++ y) = true
  | 0, h => absurd h (by rw [Nat.pow_zero, Nat.mod_one, Nat.mod_one]; omega)
  | d + 1, h => by
    rw [dcL_cons, dcL_cons, List.cons_append, List.cons_append, Op.bytesLess]
    have hu := dg_val u d
    have hv := dg_val v d
    rw [Nat.pow_succ, Nat.mod_mul, Nat.mod_mul] at h
    have hP : 0 < 10 ^ d := Nat.pow_pos (by decide)
    have ha := Nat.mod_lt u hP
    have hb := Nat.mod_lt v hP
    rcases Nat.lt_trichotomy (u / 10 ^ d % 10) (v / 10 ^ d % 10) with h1 | h1 | h1
    · have : Lib.dg u d < Lib.dg v d := by rw [UInt8.lt_iff_toNat_lt]; omega
      rw [decide_eq_true this, Bool.true_or]
    · have he : Lib.dg u d = Lib.dg v d := by apply UInt8.toNat_inj.1; omega
      rw [h1] at h
      rw [less_dc u v x y d (by omega), he]
      simp
    · exfalso
      have : 10 ^ d * (v / 10 ^ d % 10) + 10 ^ d ≤ 10 ^ d * (u / 10 ^ d % 10) := by
        have := Nat.mul_le_mul_left (10 ^ d) (show v / 10 ^ d % 10 + 1 ≤ u / 10 ^ d % 10 from h1)
        rw [Nat.mul_add, Nat.mul_one] at this
        exact this
      omega
theorem made_less {p : ByteArray} {u l : Nat} (h : OkM p ((u + 1 : Nat) : Int) (l : Int)) : Op.bytesLess (made p u l).toList (made p (u + 1) l).toList = true := by
  obtain ⟨l1, l2, p1, p2, hd, n0, hlt⟩ := h
  rw [Int.toNat_natCast, Int.toNat_natCast] at hlt
  rw [ByteArray.toList_eq, ByteArray.toList_eq]
  unfold made body decS
  simp only [ByteArray.data_append, Array.toList_append, List.append_assoc]
  rw [less_pre]
  exact less_dc u (u + 1) _ _ _ (by rw [Nat.mod_eq_of_lt hlt, Nat.mod_eq_of_lt (by omega)]; omega)
theorem okm_down {p : ByteArray} {n L : Int} (h0 : 0 ≤ n) (h : OkM p (n + 1) L) : OkM p n L := by
  obtain ⟨l1, l2, p1, p2, hd, n0, hlt⟩ := h
  exact ⟨l1, l2, p1, p2, hd, h0, by omega⟩
end Go.Proofs.YtddnfjaogekmjaaDoor
