/-
  CONTRACTS of bitmaps: Has of what is no number, the program's and the specification's.
-/
import Derived.Test.YtacdfhgamjinbaaDoorB7
import Derived.Deep.QuietTactic
import Derived.BigQuiet
namespace Go.Proofs.YtacdfhgamjinbaaDoor
open Go.RowKit
set_option linter.unusedVariables false
theorem rhas_out (a b : Nat) (n : Int) (h : n < 2 ∨ 128 < n) (w : World) :
    Calls Tryd.prog 14 #[bmV a b, .int .i64 n] w fun e w' => e = .returned (.bool false) ∧ Below w.heap.size w w' := by
  rcases h with h | h
  · have g1 : decide (2 ≤ n) = false := decide_eq_false (by omega)
    clear h
    go_enter Tryd.func14, Tryd.ntmps14
    go_wp2_with fail
    have HBV := Lib.hid ((Below.refl _ _).alloc (Nat.le_refl _) _ : Below w.heap.size w (w.alloc (.cells #[.int .u64 (a : Int), .int .u64 (b : Int)] 24)))
    generalize w.alloc (.cells #[.int .u64 (a : Int), .int .u64 (b : Int)] 24) = V at *
    go_quiet (fail)
    go_wp2
    go_ret
    exact ⟨rfl, HBV.out.trans ⟨rfl, rfl, rfl, Nat.le_refl _, fun _ _ => rfl⟩⟩
  · have g1 : decide (2 ≤ n) = true := decide_eq_true (by omega)
    have g2 : decide (n ≤ 128) = false := decide_eq_false (by omega)
    clear h
    go_enter Tryd.func14, Tryd.ntmps14
    go_wp2_with fail
    have HBV := Lib.hid ((Below.refl _ _).alloc (Nat.le_refl _) _ : Below w.heap.size w (w.alloc (.cells #[.int .u64 (a : Int), .int .u64 (b : Int)] 24)))
    generalize w.alloc (.cells #[.int .u64 (a : Int), .int .u64 (b : Int)] 24) = V at *
    go_quiet (fail)
    go_wp2
    go_ret
    exact ⟨rfl, HBV.out.trans ⟨rfl, rfl, rfl, Nat.le_refl _, fun _ _ => rfl⟩⟩
theorem has_out (a b : Nat) (n : Int) (h : n < 2 ∨ 128 < n) (w : World) :
    Calls Tryd.prog 13 #[bmV a b, .int .i64 n] w fun e w' => e = .returned (.bool false) ∧ Below w.heap.size w w' := by
  have hz : ∀ w : World, (zeroValue 24).run Tryd.prog w = .ok (.agg #[.int .u64 0, .int .u64 0]) w := fun _ => by kernel_rfl
  have he : ∀ w : World, (Op.equalIn 10000 24 (.agg #[.int .u64 0, .int .u64 0]) (.agg #[.int .u64 0, .int .u64 0])).run Tryd.prog w = .ok true w := fun w => eq_arr 0 0 0 0 w
  have H := Lib.hid h
  clear h
  go_enter Tryd.func13, Tryd.ntmps13
  go_wp2_with fail
  refine (single_out n H.out _).mono ?_
  rintro e w1 ⟨rfl, hb1⟩
  have HB1 : Hid (Below w.heap.size w w1) := Lib.hid (((Below.refl _ _).alloc (Nat.le_refl _) _).trans (hb1.mono (by simp)))
  clear hb1
  go_wp2_with fail
  have hV : Blk (w1.alloc (.cells #[.int .u64 0, .int .u64 0] 24)) w1.heap.size 24 #[.int .u64 0, .int .u64 0] := Blk.new _ _ _
  have v0 := hV.cell 0
  have v1 := hV.cell 1
  have HBV := Lib.hid (HB1.out.alloc HB1.out.size (.cells #[.int .u64 0, .int .u64 0] 24))
  clear hV HB1
  generalize w1.alloc (.cells #[.int .u64 0, .int .u64 0] 24) = V at *
  go_quiet (fail)
  go_wp2
  go_ret
  exact ⟨rfl, HBV.out.trans ⟨rfl, rfl, rfl, Nat.le_refl _, fun _ _ => rfl⟩⟩
end Go.Proofs.YtacdfhgamjinbaaDoor
