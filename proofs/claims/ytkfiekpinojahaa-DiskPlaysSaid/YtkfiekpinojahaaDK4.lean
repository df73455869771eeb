/-
  CONTRACTS of disk: the bits of a mask.
-/
import Derived.Test.YtkfiekpinojahaaDK3
import Derived.Laws.MakeOwn
import Derived.Laws.CopyOwn
import Derived.Laws.BitsAllLaws
namespace Go.Proofs.Ytkfiekpinojahaa
open Go.RowKit
set_option linter.unusedVariables false
set_option linter.unusedSimpArgs false
def bA (m i : Nat) : Array Value := ((List.range 64).map fun k => Value.bool (decide (k < i) && m.testBit k)).toArray
theorem bA_get (m i k : Nat) (h : k < 64) : (bA m i)[k]? = some (.bool (decide (k < i) && m.testBit k)) := by
  simp [bA, h]
theorem bA_size (m i : Nat) : (bA m i).size = 64 := by simp [bA]
theorem bA_set (m i : Nat) (h : i < 64) : (bA m i).setIfInBounds i (.bool (m.testBit i)) = bA m (i + 1) := by
  apply Array.ext_getElem?
  intro k
  by_cases hk : k < 64
  · rw [Array.getElem?_setIfInBounds, bA_get m (i + 1) k hk, bA_get m i k hk]
    by_cases hi : i = k
    · subst hi
      rw [if_pos rfl, if_pos (by rw [bA_size]; exact h)]
      simp
    · rw [if_neg hi]
      have : decide (k < i) = decide (k < i + 1) := by
        by_cases h1 : k < i
        · rw [decide_eq_true h1, decide_eq_true (by omega)]
        · rw [decide_eq_false h1, decide_eq_false (by omega)]
      rw [this]
  · rw [Array.getElem?_eq_none (by simp [bA_size]; omega), Array.getElem?_eq_none (by simp [bA_size]; omega)]
theorem bA_zero (m : Nat) : bA m 0 = bA 0 0 := by
  simp [bA]
theorem info_parts {P : Program} {t : TypeId} {z : Option Value} {n b : Nat} (h : (P.info? t).map (fun i => (i.zero, i.size, i.bytes)) = some (z, n, b)) : ∃ i, P.info? t = some i ∧ i.zero = z ∧ i.size = n ∧ i.bytes = b := by
  cases hi : P.info? t with
  | none => rw [hi] at h; cases h
  | some i =>
    rw [hi] at h
    simp only [Option.map_some, Option.some.injEq, Prod.mk.injEq] at h
    exact ⟨i, rfl, h.1, h.2.1, h.2.2⟩
theorem bool_info : (Try.prog.info? 4).map (fun i => (i.zero, i.size, i.bytes)) = some (some (.bool false), 1, 1) := by kernel_rfl
theorem make64 (w : World) : (Instr.makeSlice 70 (.int .i64 64) (.int .i64 64)).run Try.prog w = .ok (.slice (some ⟨w.heap.size, 0, none⟩) 64 64) (w.alloc (.cells (bA 0 0) 4)) := by
  obtain ⟨i, hi, hz, h1, h2⟩ := info_parts bool_info
  have h := run_make (P := Try.prog) w 70 4 i (.bool false) Try.underlying70 hi hz .i64 .i64 64 64 (by omega) (by omega) (by rw [h2]; omega) (by omega)
  rw [h1] at h
  have hz2 : madeCells (Value.bool false).cells (Int.toNat 64 * 1) = bA 0 0 := by kernel_rfl
  rw [hz2] at h
  exact h
theorem bit_and (m k : Nat) (hm : m < 18446744073709551616) : (bits BinOp.and IntKind.u64 ((m : Int) / 2 ^ k) 1 == 1) = m.testBit k := by
  have h1 : (m : Int) / 2 ^ k = ((m / 2 ^ k : Nat) : Int) := by rw [Int.natCast_ediv, Int.natCast_pow]; rfl
  rw [h1, show (1 : Int) = ((1 : Nat) : Int) from rfl, u64_and_nat _ _ (Nat.lt_of_le_of_lt (Nat.div_le_self _ _) hm) (by decide), Nat.and_one_is_mod, Nat.testBit_eq_decide_div_mod_eq]
  by_cases h : m / 2 ^ k % 2 = 1
  · rw [h]; rfl
  · rw [decide_eq_false h]
    exact beq_false_of_ne (by omega)
set_option maxHeartbeats 1000000 in
theorem bits_any (m : Nat) (hm : m < 18446744073709551616) (w : World) : Calls Try.prog 38 #[.int .u64 (m : Int)] w fun e w' => e = .returned (.slice (some ⟨w.heap.size, 0, none⟩) 64 64) ∧ Blk w' w.heap.size 4 (bA m 64) ∧ Below w.heap.size w w' := by
  have hmk := make64
  have HM := Lib.hid hm
  clear hm
  go_enter Try.func38, Try.ntmps38
  go_wp2
  go_loopw [8] (fun i wr => ∃ k : Nat, k ≤ 64 ∧ i = .int .i64 (k : Int) ∧ Blk wr w.heap.size 4 (bA m k) ∧ Below w.heap.size w wr) (fun i _ => 64 - (intOf i).toNat)
  case atStart => exact ⟨0, by omega, rfl, by rw [bA_zero]; exact Blk.new _ _ _, (Below.refl _ _).alloc (Nat.le_refl _) _⟩
  case round =>
    obtain ⟨k, hk, rfl, hb, hB⟩ := hrel
    have HB := Lib.hid hb
    have HW := Lib.hid hB
    have hlt := hb.lt
    by_cases hlk : k < 64
    · have c0 := hb.cell k
      rw [bA_get m k k hlk] at c0
      have cf := hb.frozen k
      clear hb hB
      go_wp2
      go_round
      case rel =>
        have hv := bit_and m k HM.out
        rw [hv]
        exact ⟨k + 1, by omega, by go_num, by rw [← bA_set m k hlk]; exact HB.out.set_ k _, HW.out.setCell (Nat.le_refl _) _⟩
      case measure => simp [intOf]; omega
    · obtain rfl : k = 64 := by omega
      clear hb hB
      go_wp2
      go_ret
      exact ⟨rfl, HB.out, HW.out⟩
end Go.Proofs.Ytkfiekpinojahaa
