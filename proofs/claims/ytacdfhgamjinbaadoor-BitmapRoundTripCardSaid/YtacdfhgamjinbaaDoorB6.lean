/-
  CONTRACTS of bitmaps: the program's Minus and Clear.
-/
import Derived.Test.YtacdfhgamjinbaaDoorB1
namespace Go.Proofs.YtacdfhgamjinbaaDoor
open Go.RowKit
set_option linter.unusedVariables false
/-- The bits of a word that are not in another. -/
def minN (a c : Nat) : Nat := a &&& (18446744073709551615 - c)
theorem minN_val (a c : Nat) (ha : a < 18446744073709551616) (hc : c < 18446744073709551616) : bits BinOp.andNot IntKind.u64 (a : Int) (c : Int) = ((minN a c : Nat) : Int) := u64_andNot_nat a c ha hc
theorem minN_lt (a c : Nat) (ha : a < 18446744073709551616) : minN a c < 18446744073709551616 := Nat.lt_of_le_of_lt Nat.and_le_left ha
theorem minus_any (a b c d : Nat) (ha : a < 18446744073709551616) (hb : b < 18446744073709551616) (hc : c < 18446744073709551616) (hd : d < 18446744073709551616) (w : World) :
    Calls Tryd.prog 25 #[bmV a b, bmV c d] w fun e w' => e = .returned (bmV (clrN (minN a c)) (minN b d)) ∧ Below w.heap.size w w' := by
  have hz : ∀ w : World, (zeroValue 24).run Tryd.prog w = .ok (.agg #[.int .u64 0, .int .u64 0]) w := fun _ => by kernel_rfl
  have h1 := minN_val a c ha hc
  have h2 := minN_val b d hb hd
  have HA : Hid (minN a c < 18446744073709551616) := Lib.hid (minN_lt a c ha)
  clear ha hb hc hd
  go_enter Tryd.func25, Tryd.ntmps25
  go_wp2_with fail
  refine (numbers_any (minN a c) (minN b d) HA.out _).mono ?_
  rintro e w1 ⟨rfl, hb1⟩
  have hB : Blk w1 (w.heap.size + 2) 24 #[.int .u64 0, .int .u64 0] := Blk.below (Blk.newAt (by first | omega | (simp; done) | (simp; omega))) hb1 (by first | omega | (simp; done) | (simp; omega))
  have q0 := hB.cell 0
  have q1 := hB.cell 1
  have q2 := hB.frozen 0
  have q3 := hB.frozen 1
  have HB := Lib.hid hB
  clear hB
  go_wp2
  have hF : Blk ((w1.setCell ⟨w.heap.size + 2, 0, none⟩ (.int .u64 (clrN (minN a c) : Int))).setCell ⟨w.heap.size + 2, 1, none⟩ (.int .u64 ((minN b d : Nat) : Int))) (w.heap.size + 2) 24 #[.int .u64 (clrN (minN a c) : Int), .int .u64 ((minN b d : Nat) : Int)] := (HB.out.set_ 0 _).set_ 1 _
  have f0 := hF.cell 0
  have f1 := hF.cell 1
  exact bodyPost_ret (v := bmV (clrN (minN a c)) (minN b d)) (by simp [results, Tryd.results25, go_sem, f0, f1]) rfl ⟨rfl, (((((((Below.refl _ _).alloc (Nat.le_refl _) _).alloc (by first | omega | (simp; done) | (simp; omega)) _).alloc (by first | omega | (simp; done) | (simp; omega)) _).trans (hb1.mono (by first | omega | (simp; done) | (simp; omega)))).setCell (by first | omega | (simp; done) | (simp; omega)) _).setCell (by first | omega | (simp; done) | (simp; omega)) _)⟩
theorem clear_out (a b : Nat) (n : Int) (h : n < 2 ∨ 128 < n) (w : World) :
    Calls Tryd.prog 11 #[bmV a b, .int .i64 n] w fun e w' => e = .returned (.tuple #[bmV 0 0, .int .i64 4]) ∧ Below w.heap.size w w' := by
  have hz : ∀ w : World, (zeroValue 24).run Tryd.prog w = .ok (.agg #[.int .u64 0, .int .u64 0]) w := fun _ => by kernel_rfl
  have H := Lib.hid h
  clear h
  go_enter Tryd.func11, Tryd.ntmps11
  go_wp2_with fail
  refine (single_out n H.out _).mono ?_
  rintro e w1 ⟨rfl, hb1⟩
  have hB : Blk w1 (w.heap.size + 1) 24 #[.int .u64 0, .int .u64 0] := Blk.below (Blk.newAt (by first | omega | (simp; done) | (simp; omega))) hb1 (by first | omega | (simp; done) | (simp; omega))
  have q0 := hB.cell 0
  have q1 := hB.cell 1
  have q2 := hB.frozen 0
  have q3 := hB.frozen 1
  have hlt := hB.lt
  have hne : ¬ w.heap.size + 1 = w1.heap.size := by omega
  have HB := Lib.hid hB
  clear hB
  have he : ∀ w : World, (Op.equalIn 10000 24 (.agg #[.int .u64 0, .int .u64 0]) (.agg #[.int .u64 0, .int .u64 0])).run Tryd.prog w = .ok true w := fun w => eq_arr 0 0 0 0 w
  go_wp2
  have hF : Blk (((w1.setCell ⟨w.heap.size + 1, 0, none⟩ (.int .u64 0)).setCell ⟨w.heap.size + 1, 1, none⟩ (.int .u64 0)).alloc (.cells #[.int .u64 0, .int .u64 0] 24)) (w.heap.size + 1) 24 #[.int .u64 0, .int .u64 0] := ((HB.out.set_ 0 _).set_ 1 _).alloc _
  have f0 := hF.cell 0
  have f1 := hF.cell 1
  exact bodyPost_ret (v := .tuple #[bmV 0 0, .int .i64 4]) (by simp [results, Tryd.results11, go_sem, f0, f1]) rfl ⟨rfl, ((((((Below.refl _ _).alloc (Nat.le_refl _) _).alloc (by first | omega | (simp; done) | (simp; omega)) _).trans (hb1.mono (by first | omega | (simp; done) | (simp; omega)))).setCell (by first | omega | (simp; done) | (simp; omega)) _).setCell (by first | omega | (simp; done) | (simp; omega)) _).alloc (by first | omega | (simp; done) | (simp; omega)) _⟩
theorem clear_in (a b n : Nat) (ha : a < 18446744073709551616) (hb : b < 18446744073709551616) (h2 : 2 ≤ n) (h : n ≤ 128) (w : World) :
    Calls Tryd.prog 11 #[bmV a b, .int .i64 (n : Int)] w fun e w' => e = .returned (.tuple #[bmV (clrN (minN a (hiN n))) (minN b (loN n)), .int .i64 0]) ∧ Below w.heap.size w w' := by
  have hz : ∀ w : World, (zeroValue 24).run Tryd.prog w = .ok (.agg #[.int .u64 0, .int .u64 0]) w := fun _ => by kernel_rfl
  have hne : ¬ (((hiN n : Nat) : Int) = 0 ∧ ((loN n : Nat) : Int) = 0) := by
    unfold hiN loN
    split
    · have := Nat.pos_of_ne_zero (n := 2 ^ (64 - n)) (by simp)
      omega
    · have := Nat.pos_of_ne_zero (n := 2 ^ (128 - n)) (by simp)
      omega
  go_enter Tryd.func11, Tryd.ntmps11
  go_wp2_with fail
  refine (single_in n h2 h _).mono ?_
  rintro e w1 ⟨rfl, hb1⟩
  have hB : Blk w1 (w.heap.size + 1) 24 #[.int .u64 0, .int .u64 0] := Blk.below (Blk.newAt (by first | omega | (simp; done) | (simp; omega))) hb1 (by first | omega | (simp; done) | (simp; omega))
  have hA : Blk w1 (w.heap.size) 24 #[.int .u64 (a : Int), .int .u64 (b : Int)] := Blk.below ((Blk.newAt rfl).alloc _) hb1 (by first | omega | (simp; done) | (simp; omega))
  have a0 := hA.cell 0
  have a1 := hA.cell 1
  have hlt := hB.lt
  have hn1 : ¬ w.heap.size = w1.heap.size := by omega
  have hl1 : w.heap.size < w1.heap.size := by omega
  have HA := Lib.hid hA
  have HB := Lib.hid hB
  clear hB hA
  have he : ∀ w : World, (Op.equalIn 10000 24 (.agg #[.int .u64 (hiN n : Int), .int .u64 (loN n : Int)]) (.agg #[.int .u64 0, .int .u64 0])).run Tryd.prog w = .ok false w := fun w => by rw [eq_arr, decide_eq_false hne]
  have HX : Hid (hiN n < 18446744073709551616 ∧ loN n < 18446744073709551616) := Lib.hid ⟨Nat.lt_trans (hi_lt n h2) (by decide), lo_lt n⟩
  clear hne
  go_wp2_with fail
  refine (minus_any a b (hiN n) (loN n) ha hb HX.out.1 HX.out.2 _).mono ?_
  rintro e w2 ⟨rfl, hb2⟩
  have hC : Blk w2 (w.heap.size + 1) 24 #[.int .u64 0, .int .u64 0] := Blk.below (HB.out.alloc _) hb2 (by have := HB.out.lt; simp; omega)
  have hlt2 := hC.lt
  have hn2 : ¬ w.heap.size + 1 = w2.heap.size := by omega
  have c0 := hC.cell 0
  have c1 := hC.cell 1
  have c2 := hC.frozen 0
  have c3 := hC.frozen 1
  have HC := Lib.hid hC
  clear hC
  go_wp2
  have hF : Blk ((w2.setCell ⟨w.heap.size + 1, 0, none⟩ (.int .u64 (clrN (minN a (hiN n)) : Int))).setCell ⟨w.heap.size + 1, 1, none⟩ (.int .u64 ((minN b (loN n) : Nat) : Int))) (w.heap.size + 1) 24 #[.int .u64 (clrN (minN a (hiN n)) : Int), .int .u64 ((minN b (loN n) : Nat) : Int)] := (HC.out.set_ 0 _).set_ 1 _
  have f0 := hF.cell 0
  have f1 := hF.cell 1
  exact bodyPost_ret (v := .tuple #[bmV (clrN (minN a (hiN n))) (minN b (loN n)), .int .i64 0]) (by simp [results, Tryd.results11, go_sem, f0, f1]) rfl ⟨rfl, ((((((((Below.refl _ _).alloc (Nat.le_refl _) _).alloc (by first | omega | (simp; done) | (simp; omega)) _).trans (hb1.mono (by first | omega | (simp; done) | (simp; omega)))).alloc (by first | omega | (simp; done) | (simp; omega)) _).trans (hb2.mono (by first | omega | (simp; done) | (simp; omega)))).setCell (by first | omega | (simp; done) | (simp; omega)) _).setCell (by first | omega | (simp; done) | (simp; omega)) _)⟩
end Go.Proofs.YtacdfhgamjinbaaDoor
