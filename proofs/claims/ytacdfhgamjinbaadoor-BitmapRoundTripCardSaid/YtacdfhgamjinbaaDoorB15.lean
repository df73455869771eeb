/-
  CONTRACTS of bitmaps: math/bits.OnesCount64 and the program's Count.
-/
import Derived.Test.YtacdfhgamjinbaaDoorBMath3
import Derived.Test.YtacdfhgamjinbaaDoorB14
namespace Go.Proofs.YtacdfhgamjinbaaDoor
open Go.RowKit
set_option linter.unusedVariables false
theorem u64_small {n : Nat} (h : n < 18446744073709551616) : IntKind.u64.wrap (n : Int) = (n : Int) := IntWalk.u64_in _ (by omega)
theorem and_le (a m : Nat) : a &&& m ≤ m := Nat.and_le_right
theorem i64_and_nat (a b : Nat) (ha : a < 9223372036854775808) (hb : b < 9223372036854775808) : bits .and .i64 (a : Int) (b : Int) = ((a &&& b : Nat) : Int) := by
  have hx : a &&& b < 9223372036854775808 := Nat.lt_of_le_of_lt Nat.and_le_left ha
  show IntKind.i64.wrap ((BitVec.ofInt 64 (a : Int) &&& BitVec.ofInt 64 (b : Int)).toNat : Int) = _
  rw [BitVec.toNat_and, ofInt_u64 a (by omega), ofInt_u64 b (by omega)]
  exact IntWalk.i64_in _ (by omega)
theorem ones_any (x : Nat) (hx : x < 18446744073709551616) (w : World) :
    Calls Tryd.prog 35 #[.int .u64 (x : Int)] w fun e w' => e = .returned (.int .i64 (Lib.popAux 64 x : Int)) ∧ w = w' := by
  obtain ⟨x1, d1⟩ : ∃ y, y = pop1 x := ⟨_, rfl⟩
  obtain ⟨x2, d2⟩ : ∃ y, y = pop2 x1 := ⟨_, rfl⟩
  obtain ⟨x3, d3⟩ : ∃ y, y = pop3 x2 := ⟨_, rfl⟩
  obtain ⟨x4, d4⟩ : ∃ y, y = x3 + x3 / 256 := ⟨_, rfl⟩
  obtain ⟨x5, d5⟩ : ∃ y, y = x4 + x4 / 65536 := ⟨_, rfl⟩
  obtain ⟨x6, d6⟩ : ∃ y, y = x5 + x5 / 4294967296 := ⟨_, rfl⟩
  have hp : x6 % 128 = Lib.popAux 64 x := by rw [d6]; exact pop_all x hx x4 x5 (by rw [d4, d3, d2, d1]) d5
  have b1 : x1 < 18446744073709551616 := by have := and_le (x / 2) 6148914691236517205; have := and_le x 6148914691236517205; rw [d1, pop1]; omega
  have b2 : x2 ≤ 7378697629483820646 := by have := and_le (x1 / 4) 3689348814741910323; have := and_le x1 3689348814741910323; rw [d2, pop2]; omega
  have b3 : x3 ≤ 1085102592571150095 := by rw [d3, pop3]; exact and_le _ _
  have h1 : IntKind.u64.wrap (bits BinOp.and IntKind.u64 ((x : Int) / 2) 6148914691236517205 + bits BinOp.and IntKind.u64 (x : Int) 6148914691236517205) = (x1 : Int) := by
    rw [show ((x : Int) / 2) = ((x / 2 : Nat) : Int) from rfl, show (6148914691236517205 : Int) = ((6148914691236517205 : Nat) : Int) from rfl, u64_and_nat _ _ (by omega) (by decide), u64_and_nat _ _ hx (by decide), ← Int.natCast_add, show (x / 2 &&& 6148914691236517205) + (x &&& 6148914691236517205) = x1 from d1.symm]
    exact u64_small b1
  have h2 : IntKind.u64.wrap (bits BinOp.and IntKind.u64 ((x1 : Int) / 4) 3689348814741910323 + bits BinOp.and IntKind.u64 (x1 : Int) 3689348814741910323) = (x2 : Int) := by
    rw [show ((x1 : Int) / 4) = ((x1 / 4 : Nat) : Int) from rfl, show (3689348814741910323 : Int) = ((3689348814741910323 : Nat) : Int) from rfl, u64_and_nat _ _ (by omega) (by decide), u64_and_nat _ _ b1 (by decide), ← Int.natCast_add, show (x1 / 4 &&& 3689348814741910323) + (x1 &&& 3689348814741910323) = x2 from d2.symm]
    exact u64_small (by omega)
  have h3 : bits BinOp.and IntKind.u64 (IntKind.u64.wrap ((x2 : Int) / 16 + (x2 : Int))) 1085102592571150095 = (x3 : Int) := by
    rw [show ((x2 : Int) / 16) = ((x2 / 16 : Nat) : Int) from rfl, ← Int.natCast_add, u64_small (by omega), show (1085102592571150095 : Int) = ((1085102592571150095 : Nat) : Int) from rfl, u64_and_nat _ _ (by omega) (by decide), d3, pop3]
  have h4 : IntKind.u64.wrap ((x3 : Int) + (x3 : Int) / 256) = (x4 : Int) := by
    rw [show ((x3 : Int) / 256) = ((x3 / 256 : Nat) : Int) from rfl, ← Int.natCast_add, u64_small (by omega), d4]
  have h5 : IntKind.u64.wrap ((x4 : Int) + (x4 : Int) / 65536) = (x5 : Int) := by
    rw [show ((x4 : Int) / 65536) = ((x4 / 65536 : Nat) : Int) from rfl, ← Int.natCast_add, u64_small (by omega), d5]
  have h6 : IntKind.u64.wrap ((x5 : Int) + (x5 : Int) / 4294967296) = (x6 : Int) := by
    rw [show ((x5 : Int) / 4294967296) = ((x5 / 4294967296 : Nat) : Int) from rfl, ← Int.natCast_add, u64_small (by omega), d6]
  have b6 : x6 ≤ 3000000000000000000 := by omega
  have HP := Lib.hid hp
  have HX := Lib.hid hx
  clear hp b1 b2 b3 d1 d2 d3 d4 d5 d6 hx
  go_enter Tryd.func35, Tryd.ntmps35
  go_wp2
  go_ret
  exact ⟨ret_val (by rw [show (127 : Int) = ((127 : Nat) : Int) from rfl, i64_and_nat x6 127 (by omega) (by decide), nat_mask7, HP.out]), rfl⟩
theorem count_any (a b : Nat) (ha : a < 18446744073709551616) (hb : b < 18446744073709551616) (w : World) :
    Calls Tryd.prog 18 #[bmV a b] w fun e w' => e = .returned (.int .i64 ((fl (hasN a b) 127).length : Int)) ∧ Below w.heap.size w w' := by
  have CN := Lib.hid (fun w => numbers_any a b ha w)
  have O1 := Lib.hid (fun w => ones_any (clrN a) (Nat.lt_trans (clrN_lt a) (by decide)) w)
  have O2 := Lib.hid (fun w => ones_any b hb w)
  have HF := Lib.hid (fl_pop a b)
  have p1 := pop_le 64 (clrN a)
  have p2 := pop_le 64 b
  obtain ⟨A, hA⟩ : ∃ A, A = clrN a := ⟨_, rfl⟩
  rw [← hA] at CN O1 HF p1
  obtain ⟨x, hx⟩ : ∃ x, x = Lib.popAux 64 A := ⟨_, rfl⟩
  obtain ⟨y, hy⟩ : ∃ x, x = Lib.popAux 64 b := ⟨_, rfl⟩
  rw [← hx] at O1 HF p1
  rw [← hy] at O2 HF p2
  clear hA hx hy ha hb
  go_enter Tryd.func18, Tryd.ntmps18
  go_wp2_with fail
  refine (CN.out _).mono ?_
  rintro e w1 ⟨rfl, hb1⟩
  have hA : Blk w1 w.heap.size 24 #[.int .u64 (a : Int), .int .u64 (b : Int)] := (Blk.new _ _ _).bel hb1
  have r0 := hA.cell 0
  have r1 := hA.cell 1
  have r2 := hA.frozen 0
  have r3 := hA.frozen 1
  have HA := Lib.hid hA
  have HW := Lib.hid (((Below.refl _ _).alloc (Nat.le_refl _) _).trans (hb1.mono (by simp)) : Below w.heap.size w w1)
  clear hA hb1
  go_wp2_with fail
  have hB : Blk ((w1.setCell ⟨w.heap.size, 0, none⟩ (.int .u64 (A : Int))).setCell ⟨w.heap.size, 1, none⟩ (.int .u64 (b : Int))) w.heap.size 24 #[.int .u64 (A : Int), .int .u64 (b : Int)] := Blk.set2 HA.out _ _
  have hW2 : Below w.heap.size w ((w1.setCell ⟨w.heap.size, 0, none⟩ (.int .u64 (A : Int))).setCell ⟨w.heap.size, 1, none⟩ (.int .u64 (b : Int))) := (HW.out.setCell (by simp) _).setCell (by simp) _
  have HW2 := Lib.hid hW2
  have v0 := hB.cell 0
  have v1 := hB.cell 1
  clear hW2 hB r0 r1 r2 r3
  generalize (w1.setCell ⟨w.heap.size, 0, none⟩ (.int .u64 (A : Int))).setCell ⟨w.heap.size, 1, none⟩ (.int .u64 (b : Int)) = V at *
  go_quiet ((first | (go_at_call_of 35 (Value.int IntKind.u64 (A : Int)); exact Calls.quiet_of_same ((O1.out _).mono fun _ _ h => ⟨h.1, h.2.symm⟩)) | (go_at_call_of 35 (Value.int IntKind.u64 (b : Int)); exact Calls.quiet_of_same ((O2.out _).mono fun _ _ h => ⟨h.1, h.2.symm⟩))))
  go_wp2
  go_ret
  exact ⟨ret_val (by rw [HF.out]; omega), HW2.out.trans ⟨rfl, rfl, rfl, Nat.le_refl _, fun _ _ => rfl⟩⟩
end Go.Proofs.YtacdfhgamjinbaaDoor
