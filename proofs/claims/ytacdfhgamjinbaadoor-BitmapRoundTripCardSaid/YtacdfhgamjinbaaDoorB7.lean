/-
  CONTRACTS of bitmaps: the specification's Has.
-/
import Derived.Test.YtacdfhgamjinbaaDoorB3
import Derived.StillTactics
namespace Go.Proofs.YtacdfhgamjinbaaDoor
open Go.RowKit
set_option linter.unusedVariables false
/-- Whether a number is in a bitmap, by its bit. -/
def hasN (a b n : Nat) : Bool := if n ≤ 64 then a &&& hiN n != 0 else b &&& loN n != 0
theorem and_val (a c : Nat) (ha : a < 18446744073709551616) (hc : c < 18446744073709551616) : bits BinOp.and IntKind.u64 (a : Int) (c : Int) = ((a &&& c : Nat) : Int) := u64_and_nat a c ha hc
theorem ne_cast (x : Nat) : ((x : Int) != 0) = (x != 0) := by rw [Bool.eq_iff_iff]; simp
theorem rhas_in (a b n : Nat) (ha : a < 18446744073709551616) (hb : b < 18446744073709551616) (h2 : 2 ≤ n) (h : n ≤ 128) (w : World) :
    Calls Tryd.prog 14 #[bmV a b, .int .i64 (n : Int)] w fun e w' => e = .returned (.bool (hasN a b n)) ∧ Below w.heap.size w w' := by
  have g1 : (2 : Int) ≤ (n : Int) := by omega
  have g2 : (n : Int) ≤ 128 := by omega
  by_cases h4 : n ≤ 64
  ·
    have hq0 := quo_lo n (by omega) h4
    have hv : bits BinOp.and IntKind.u64 (a : Int) (bitN n : Int) = ((a &&& hiN n : Nat) : Int) := by rw [bitN_lo n h2 h4]; exact and_val a (hiN n) ha (Nat.lt_trans (hi_lt n h2) (by decide))
    have HH : Hid (hasN a b n = (a &&& hiN n != 0)) := Lib.hid (by rw [hasN, if_pos h4])
    go_enter Tryd.func14, Tryd.ntmps14
    go_wp2_with fail
    have hB : Blk (w.alloc (.cells #[.int .u64 (a : Int), .int .u64 (b : Int)] 24)) w.heap.size 24 #[.int .u64 (a : Int), .int .u64 (b : Int)] := Blk.new _ _ _
    have v0 := hB.cell 0
    have v1 := hB.cell 1
    have HBV := Lib.hid ((Below.refl _ _).alloc (Nat.le_refl _) _ : Below w.heap.size w (w.alloc (.cells #[.int .u64 (a : Int), .int .u64 (b : Int)] 24)))
    clear hB
    generalize w.alloc (.cells #[.int .u64 (a : Int), .int .u64 (b : Int)] 24) = V at *
    refine wp_region_still_lit (by kernel_rfl) (by kernel_rfl) ?_
    repeat still_step
    still_call (rbit_still n (by omega) h _)
    repeat still_step
    refine wpStill_nil ?_
    go_wp2
    go_ret
    exact ⟨ret_boolv (by rw [HH.out]; exact ne_cast _), HBV.out.drew⟩
  ·
    have hq0 := quo_hi n h4 h
    have hv : bits BinOp.and IntKind.u64 (b : Int) (bitN n : Int) = ((b &&& loN n : Nat) : Int) := by rw [bitN_hi n h4 h]; exact and_val b (loN n) hb (lo_lt n)
    have HH : Hid (hasN a b n = (b &&& loN n != 0)) := Lib.hid (by rw [hasN, if_neg h4])
    go_enter Tryd.func14, Tryd.ntmps14
    go_wp2_with fail
    have hB : Blk (w.alloc (.cells #[.int .u64 (a : Int), .int .u64 (b : Int)] 24)) w.heap.size 24 #[.int .u64 (a : Int), .int .u64 (b : Int)] := Blk.new _ _ _
    have v0 := hB.cell 0
    have v1 := hB.cell 1
    have HBV := Lib.hid ((Below.refl _ _).alloc (Nat.le_refl _) _ : Below w.heap.size w (w.alloc (.cells #[.int .u64 (a : Int), .int .u64 (b : Int)] 24)))
    clear hB
    generalize w.alloc (.cells #[.int .u64 (a : Int), .int .u64 (b : Int)] 24) = V at *
    refine wp_region_still_lit (by kernel_rfl) (by kernel_rfl) ?_
    repeat still_step
    still_call (rbit_still n (by omega) h _)
    repeat still_step
    refine wpStill_nil ?_
    go_wp2
    go_ret
    exact ⟨ret_boolv (by rw [HH.out]; exact ne_cast _), HBV.out.drew⟩
end Go.Proofs.YtacdfhgamjinbaaDoor
