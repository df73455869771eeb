/-
  CONTRACTS of bitmaps: the program's numbers, single, Union, Set.
-/
import Derived.Test.YtacdfhgamjinbaaDoorKBase
import Derived.Test.YtacdfhgamjinbaaDoorKHexF
import Derived.Test.YtacdfhgamjinbaaDoorBEq
import Derived.Laws.OwnMore
import Derived.Laws.Rows
import Derived.Laws.BitsAllLaws
import Derived.Laws.Shifts
namespace Go.Proofs.YtacdfhgamjinbaaDoor
open Go.RowKit
set_option linter.unusedVariables false
abbrev bmV (a b : Nat) : Value := .agg #[.int .u64 (a : Int), .int .u64 (b : Int)]
def clrN (a : Nat) : Nat := a % 9223372036854775808
theorem clr_val (a : Nat) (h : a < 18446744073709551616) : bits BinOp.andNot IntKind.u64 (a : Int) 9223372036854775808 = (clrN a : Int) := by
  have := u64_andNot_nat a 9223372036854775808 h (by omega)
  rw [show (18446744073709551615 - 9223372036854775808 : Nat) = 9223372036854775807 by omega, nat_mask63] at this
  exact this
def hiN (n : Nat) : Nat := if n ≤ 64 then 2 ^ (64 - n) else 0
def loN (n : Nat) : Nat := if n ≤ 64 then 0 else 2 ^ (128 - n)
theorem Blk.newAt {w : World} {g : Nat} {t : TypeId} {cs : Array Value} (h : w.heap.size = g) : Blk (w.alloc (.cells cs t)) g t cs := h ▸ Blk.new w t cs
theorem pow_w (k : Nat) (h : k ≤ 63) : IntKind.u64.wrap (2 ^ k) = ((2 ^ k : Nat) : Int) := by
  have : ∀ k : Fin 64, IntKind.u64.wrap (2 ^ k.val) = ((2 ^ k.val : Nat) : Int) := by decide +kernel
  exact this ⟨k, by omega⟩
theorem or_val (a c : Nat) (ha : a < 18446744073709551616) (hc : c < 18446744073709551616) : bits BinOp.or IntKind.u64 (a : Int) (c : Int) = ((a ||| c : Nat) : Int) := u64_or_nat a c ha hc
theorem hi_lt (n : Nat) (h2 : 2 ≤ n) : hiN n < 9223372036854775808 := by
  unfold hiN
  split
  · exact Nat.lt_of_le_of_lt (Nat.pow_le_pow_right (by omega) (show 64 - n ≤ 62 by omega)) (by decide)
  · decide
theorem lo_lt (n : Nat) : loN n < 18446744073709551616 := by
  unfold loN
  split
  · decide
  · exact Nat.lt_of_le_of_lt (Nat.pow_le_pow_right (by omega) (show 128 - n ≤ 63 by omega)) (by decide)
theorem numbers_any (a b : Nat) (ha : a < 18446744073709551616) (w : World) :
    Calls Tryd.prog 32 #[bmV a b] w fun e w' => e = .returned (bmV (clrN a) b) ∧ Below w.heap.size w w' := by
  have HV := Lib.hid (clr_val a ha)
  have hz : ∀ w : World, (zeroValue 24).run Tryd.prog w = .ok (.agg #[.int .u64 0, .int .u64 0]) w := fun _ => by kernel_rfl
  go_enter Tryd.func32, Tryd.ntmps32
  go_wp2
  exact bodyPost_ret (v := bmV (clrN a) b) (by simp [results, Tryd.results32, go_sem, HV.out]) rfl ⟨rfl, ((Below.refl _ _).alloc (Nat.le_refl _) _).alloc (Nat.le_of_lt (by first | omega | (simp; done) | (simp; omega))) _⟩
theorem single_out (n : Int) (h : n < 2 ∨ 128 < n) (w : World) :
    Calls Tryd.prog 31 #[.int .i64 n] w fun e w' => e = .returned (bmV 0 0) ∧ Below w.heap.size w w' := by
  have hz : ∀ w : World, (zeroValue 24).run Tryd.prog w = .ok (.agg #[.int .u64 0, .int .u64 0]) w := fun _ => by kernel_rfl
  go_enter Tryd.func31, Tryd.ntmps31
  rcases h with h | h
  · have hn : ¬ 2 ≤ n := by omega
    clear h
    go_wp2
    exact bodyPost_ret (v := bmV 0 0) (by simp [results, Tryd.results31, go_sem]) rfl ⟨rfl, ((Below.refl _ _).alloc (Nat.le_refl _) _).alloc (Nat.le_of_lt (by first | omega | (simp; done) | (simp; omega))) _⟩
  · have hn : 2 ≤ n := by omega
    have hm : ¬ n ≤ 128 := by omega
    clear h
    go_wp2
    exact bodyPost_ret (v := bmV 0 0) (by simp [results, Tryd.results31, go_sem]) rfl ⟨rfl, ((Below.refl _ _).alloc (Nat.le_refl _) _).alloc (Nat.le_of_lt (by first | omega | (simp; done) | (simp; omega))) _⟩
theorem single_in (n : Nat) (h2 : 2 ≤ n) (h : n ≤ 128) (w : World) :
    Calls Tryd.prog 31 #[.int .i64 (n : Int)] w fun e w' => e = .returned (bmV (hiN n) (loN n)) ∧ Below w.heap.size w w' := by
  have hz : ∀ w : World, (zeroValue 24).run Tryd.prog w = .ok (.agg #[.int .u64 0, .int .u64 0]) w := fun _ => by kernel_rfl
  have g1 : (2 : Int) ≤ (n : Int) := by omega
  have g2 : (n : Int) ≤ 128 := by omega
  go_enter Tryd.func31, Tryd.ntmps31
  by_cases hn : n ≤ 64
  · have hq : ((n : Int) - 1) / 64 = 0 := by omega
    have hr : (63 - ((n : Int) - 1) % 64).toNat = 64 - n := by omega
    have hw : IntKind.u64.wrap (2 ^ (64 - n)) = ((hiN n : Nat) : Int) := by rw [pow_w _ (by omega), hiN, if_pos hn]
    have hl : ((loN n : Nat) : Int) = 0 := by rw [loN, if_pos hn]; rfl
    have HL := Lib.hid hl
    clear hl
    go_wp2
    exact bodyPost_ret (v := bmV (hiN n) (loN n)) (by simp [results, Tryd.results31, go_sem, HL.out]) rfl ⟨rfl, ((Below.refl _ _).alloc (Nat.le_refl _) _).alloc (Nat.le_of_lt (by first | omega | (simp; done) | (simp; omega))) _⟩
  · have hq : ((n : Int) - 1) / 64 = 1 := by omega
    have hr : (63 - ((n : Int) - 1) % 64).toNat = 128 - n := by omega
    have hw : IntKind.u64.wrap (2 ^ (128 - n)) = ((loN n : Nat) : Int) := by rw [pow_w _ (by omega), loN, if_neg hn]
    have hl : ((hiN n : Nat) : Int) = 0 := by rw [hiN, if_neg hn]; rfl
    have HL := Lib.hid hl
    clear hl
    go_wp2
    exact bodyPost_ret (v := bmV (hiN n) (loN n)) (by simp [results, Tryd.results31, go_sem, HL.out]) rfl ⟨rfl, ((Below.refl _ _).alloc (Nat.le_refl _) _).alloc (Nat.le_of_lt (by first | omega | (simp; done) | (simp; omega))) _⟩
theorem union_any (a b c d : Nat) (ha : a < 18446744073709551616) (hb : b < 18446744073709551616) (hc : c < 18446744073709551616) (hd : d < 18446744073709551616) (w : World) :
    Calls Tryd.prog 23 #[bmV a b, bmV c d] w fun e w' => e = .returned (bmV (clrN (a ||| c)) (b ||| d)) ∧ Below w.heap.size w w' := by
  have hz : ∀ w : World, (zeroValue 24).run Tryd.prog w = .ok (.agg #[.int .u64 0, .int .u64 0]) w := fun _ => by kernel_rfl
  have h1 := or_val a c ha hc
  have h2 := or_val b d hb hd
  have HA : Hid (a ||| c < 18446744073709551616) := Lib.hid (Nat.or_lt_two_pow (n := 64) ha hc)
  clear ha hb hc hd
  go_enter Tryd.func23, Tryd.ntmps23
  go_wp2_with fail
  refine (numbers_any (a ||| c) (b ||| d) HA.out _).mono ?_
  rintro e w1 ⟨rfl, hb1⟩
  have hB : Blk w1 (w.heap.size + 2) 24 #[.int .u64 0, .int .u64 0] := Blk.below (Blk.newAt (by first | omega | (simp; done) | (simp; omega))) hb1 (by first | omega | (simp; done) | (simp; omega))
  have q0 := hB.cell 0
  have q1 := hB.cell 1
  have q2 := hB.frozen 0
  have q3 := hB.frozen 1
  have HB := Lib.hid hB
  clear hB
  go_wp2
  have hF : Blk ((w1.setCell ⟨w.heap.size + 2, 0, none⟩ (.int .u64 (clrN (a ||| c) : Int))).setCell ⟨w.heap.size + 2, 1, none⟩ (.int .u64 ((b ||| d : Nat) : Int))) (w.heap.size + 2) 24 #[.int .u64 (clrN (a ||| c) : Int), .int .u64 ((b ||| d : Nat) : Int)] := (HB.out.set_ 0 _).set_ 1 _
  have f0 := hF.cell 0
  have f1 := hF.cell 1
  exact bodyPost_ret (v := bmV (clrN (a ||| c)) (b ||| d)) (by simp [results, Tryd.results23, go_sem, f0, f1]) rfl ⟨rfl, (((((((Below.refl _ _).alloc (Nat.le_refl _) _).alloc (by first | omega | (simp; done) | (simp; omega)) _).alloc (by first | omega | (simp; done) | (simp; omega)) _).trans (hb1.mono (by first | omega | (simp; done) | (simp; omega)))).setCell (by first | omega | (simp; done) | (simp; omega)) _).setCell (by first | omega | (simp; done) | (simp; omega)) _)⟩
theorem clrN_lt (a : Nat) : clrN a < 9223372036854775808 := Nat.mod_lt _ (by decide)
theorem clr_id (a : Nat) (h : a < 9223372036854775808) : clrN a = a := Nat.mod_eq_of_lt h
theorem set_out (a b : Nat) (n : Int) (h : n < 2 ∨ 128 < n) (w : World) :
    Calls Tryd.prog 9 #[bmV a b, .int .i64 n] w fun e w' => e = .returned (.tuple #[bmV 0 0, .int .i64 4]) ∧ Below w.heap.size w w' := by
  have hz : ∀ w : World, (zeroValue 24).run Tryd.prog w = .ok (.agg #[.int .u64 0, .int .u64 0]) w := fun _ => by kernel_rfl
  have H := Lib.hid h
  clear h
  go_enter Tryd.func9, Tryd.ntmps9
  go_wp2_with fail
  refine (single_out n H.out _).mono ?_
  rintro e w1 ⟨rfl, hb1⟩
  have hB : Blk w1 (w.heap.size + 1) 24 #[.int .u64 0, .int .u64 0] := Blk.below (Blk.newAt (by first | omega | (simp; done) | (simp; omega))) hb1 (by first | omega | (simp; done) | (simp; omega))
  have q0 := hB.cell 0
  have q1 := hB.cell 1
  have q2 := hB.frozen 0
  have q3 := hB.frozen 1
  have hlt := hB.lt
  have hne : ¬ w.heap.size + 1 = w1.heap.size := by omega
  have HB := Lib.hid hB
  clear hB
  have he : ∀ w : World, (Op.equalIn 10000 24 (.agg #[.int .u64 0, .int .u64 0]) (.agg #[.int .u64 0, .int .u64 0])).run Tryd.prog w = .ok true w := fun w => eq_arr 0 0 0 0 w
  go_wp2
  have hF : Blk (((w1.setCell ⟨w.heap.size + 1, 0, none⟩ (.int .u64 0)).setCell ⟨w.heap.size + 1, 1, none⟩ (.int .u64 0)).alloc (.cells #[.int .u64 0, .int .u64 0] 24)) (w.heap.size + 1) 24 #[.int .u64 0, .int .u64 0] := ((HB.out.set_ 0 _).set_ 1 _).alloc _
  have f0 := hF.cell 0
  have f1 := hF.cell 1
  exact bodyPost_ret (v := .tuple #[bmV 0 0, .int .i64 4]) (by simp [results, Tryd.results9, go_sem, f0, f1]) rfl ⟨rfl, ((((((Below.refl _ _).alloc (Nat.le_refl _) _).alloc (by first | omega | (simp; done) | (simp; omega)) _).trans (hb1.mono (by first | omega | (simp; done) | (simp; omega)))).setCell (by first | omega | (simp; done) | (simp; omega)) _).setCell (by first | omega | (simp; done) | (simp; omega)) _).alloc (by first | omega | (simp; done) | (simp; omega)) _⟩
theorem set_in (a b n : Nat) (ha : a < 18446744073709551616) (hb : b < 18446744073709551616) (h2 : 2 ≤ n) (h : n ≤ 128) (w : World) :
    Calls Tryd.prog 9 #[bmV a b, .int .i64 (n : Int)] w fun e w' => e = .returned (.tuple #[bmV (clrN (a ||| hiN n)) (b ||| loN n), .int .i64 0]) ∧ Below w.heap.size w w' := by
  have hz : ∀ w : World, (zeroValue 24).run Tryd.prog w = .ok (.agg #[.int .u64 0, .int .u64 0]) w := fun _ => by kernel_rfl
  have hne : ¬ (((hiN n : Nat) : Int) = 0 ∧ ((loN n : Nat) : Int) = 0) := by
    unfold hiN loN
    split
    · have := Nat.pos_of_ne_zero (n := 2 ^ (64 - n)) (by simp)
      omega
    · have := Nat.pos_of_ne_zero (n := 2 ^ (128 - n)) (by simp)
      omega
  go_enter Tryd.func9, Tryd.ntmps9
  go_wp2_with fail
  refine (single_in n h2 h _).mono ?_
  rintro e w1 ⟨rfl, hb1⟩
  have hB : Blk w1 (w.heap.size + 1) 24 #[.int .u64 0, .int .u64 0] := Blk.below (Blk.newAt (by first | omega | (simp; done) | (simp; omega))) hb1 (by first | omega | (simp; done) | (simp; omega))
  have hA : Blk w1 (w.heap.size) 24 #[.int .u64 (a : Int), .int .u64 (b : Int)] := Blk.below ((Blk.newAt rfl).alloc _) hb1 (by first | omega | (simp; done) | (simp; omega))
  have a0 := hA.cell 0
  have a1 := hA.cell 1
  have hlt := hB.lt
  have hn1 : ¬ w.heap.size = w1.heap.size := by omega
  have hl1 : w.heap.size < w1.heap.size := by omega
  have HA := Lib.hid hA
  have HB := Lib.hid hB
  clear hB hA
  have he : ∀ w : World, (Op.equalIn 10000 24 (.agg #[.int .u64 (hiN n : Int), .int .u64 (loN n : Int)]) (.agg #[.int .u64 0, .int .u64 0])).run Tryd.prog w = .ok false w := fun w => by rw [eq_arr, decide_eq_false hne]
  have HX : Hid (hiN n < 18446744073709551616 ∧ loN n < 18446744073709551616) := Lib.hid ⟨Nat.lt_trans (hi_lt n h2) (by decide), lo_lt n⟩
  clear hne
  go_wp2_with fail
  refine (union_any a b (hiN n) (loN n) ha hb HX.out.1 HX.out.2 _).mono ?_
  rintro e w2 ⟨rfl, hb2⟩
  have hC : Blk w2 (w.heap.size + 1) 24 #[.int .u64 0, .int .u64 0] := Blk.below (HB.out.alloc _) hb2 (by have := HB.out.lt; simp; omega)
  have hlt2 := hC.lt
  have hn2 : ¬ w.heap.size + 1 = w2.heap.size := by omega
  have c0 := hC.cell 0
  have c1 := hC.cell 1
  have c2 := hC.frozen 0
  have c3 := hC.frozen 1
  have HC := Lib.hid hC
  clear hC
  go_wp2
  have hF : Blk ((w2.setCell ⟨w.heap.size + 1, 0, none⟩ (.int .u64 (clrN (a ||| hiN n) : Int))).setCell ⟨w.heap.size + 1, 1, none⟩ (.int .u64 ((b ||| loN n : Nat) : Int))) (w.heap.size + 1) 24 #[.int .u64 (clrN (a ||| hiN n) : Int), .int .u64 ((b ||| loN n : Nat) : Int)] := (HC.out.set_ 0 _).set_ 1 _
  have f0 := hF.cell 0
  have f1 := hF.cell 1
  exact bodyPost_ret (v := .tuple #[bmV (clrN (a ||| hiN n)) (b ||| loN n), .int .i64 0]) (by simp [results, Tryd.results9, go_sem, f0, f1]) rfl ⟨rfl, ((((((((Below.refl _ _).alloc (Nat.le_refl _) _).alloc (by first | omega | (simp; done) | (simp; omega)) _).trans (hb1.mono (by first | omega | (simp; done) | (simp; omega)))).alloc (by first | omega | (simp; done) | (simp; omega)) _).trans (hb2.mono (by first | omega | (simp; done) | (simp; omega)))).setCell (by first | omega | (simp; done) | (simp; omega)) _).setCell (by first | omega | (simp; done) | (simp; omega)) _)⟩
end Go.Proofs.YtacdfhgamjinbaaDoor
