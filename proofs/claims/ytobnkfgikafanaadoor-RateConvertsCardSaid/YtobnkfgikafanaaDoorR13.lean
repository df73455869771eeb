/-
  CONTRACTS of rates: the examples.
-/
import Derived.Test.YtobnkfgikafanaaDoorR8
import Derived.Test.YtobnkfgikafanaaDoorR9
import Derived.Test.YtobnkfgikafanaaDoorR12
namespace Go.Proofs.YtobnkfgikafanaaDoor
open Go.RowKit
set_option linter.unusedVariables false
set_option linter.unusedSimpArgs false
theorem c1 : chkR ⟨#[85, 83, 68]⟩ ⟨#[74, 80, 89]⟩ 3021 20 = 0 := by decide
theorem c2 : chkR ⟨#[85, 83, 68]⟩ ⟨#[69, 85, 82]⟩ 9 10 = 0 := by decide
theorem c3 : chkR ⟨#[69, 85, 82]⟩ ⟨#[71, 66, 80]⟩ 5 6 = 0 := by decide
theorem c4 : chkR ⟨#[85, 83, 68]⟩ ⟨#[71, 66, 80]⟩ 3 4 = 0 := by decide
theorem cU : curP ⟨#[85, 83, 68]⟩ := by decide
theorem x_conv (w : World) : Calls Tryd.prog 17 #[.agg #[.int .i64 1000, .string ⟨#[85, 83, 68]⟩], .agg #[.string ⟨#[85, 83, 68]⟩, .string ⟨#[74, 80, 89]⟩, .int .i64 3021, .int .i64 20], .int .i64 1] w fun x w' => x = .returned (.tuple #[.agg #[.int .i64 151050, .string ⟨#[74, 80, 89]⟩], .int .i64 0]) ∧ Pushed w w' :=
  conv_ok 1000 _ _ 3021 20 1 (by decide) (by decide) (Lib.hid (by decide)) (Lib.hid c1) (Lib.hid fun w => scale_pos 1000 3021 20 1 _ (by decide) cU (by decide) (by decide) (by decide) (by decide) (by decide) (by decide) (by decide) (by decide) (by decide) w) w
theorem x_cross (w : World) : Calls Tryd.prog 21 #[.agg #[.string ⟨#[85, 83, 68]⟩, .string ⟨#[69, 85, 82]⟩, .int .i64 9, .int .i64 10], .agg #[.string ⟨#[69, 85, 82]⟩, .string ⟨#[71, 66, 80]⟩, .int .i64 5, .int .i64 6]] w fun x w' => x = .returned (.tuple #[.agg #[.string ⟨#[85, 83, 68]⟩, .string ⟨#[71, 66, 80]⟩, .int .i64 3, .int .i64 4], .int .i64 0]) ∧ Pushed w w' :=
  cross_ok _ _ _ 9 10 5 6 (by decide) (by decide) (by decide) (Lib.hid c2) (Lib.hid c3) (by decide) (by decide) (by decide) (by decide) (by decide) (by decide) (by decide) (by decide) (by decide) (by decide) w
theorem fmt_eq : fmtR ⟨#[85, 83, 68]⟩ ⟨#[71, 66, 80]⟩ 3 4 = ⟨#[85, 83, 68, 47, 71, 66, 80, 32, 51, 47, 52]⟩ := by decide +kernel
theorem x_fmt (w : World) (hT : Pow w) (hw : 8 ≤ w.heap.size) : Calls Tryd.prog 15 #[.agg #[.string ⟨#[85, 83, 68]⟩, .string ⟨#[71, 66, 80]⟩, .int .i64 3, .int .i64 4]] w fun x w' => x = .returned (.string ⟨#[85, 83, 68, 47, 71, 66, 80, 32, 51, 47, 52]⟩) ∧ Below w.heap.size w w' := by
  have := fmt_ok ⟨#[85, 83, 68]⟩ ⟨#[71, 66, 80]⟩ 3 4 (by decide) (by decide) (Lib.hid c4) (by decide) (by decide) w hT hw
  rw [fmt_eq] at this
  exact this
set_option maxHeartbeats 1600000 in
theorem awake_any (w : World) (hT : Pow w) (hw : 8 ≤ w.heap.size) : Calls Tryd.prog 10 #[] w fun e w' => e = .returned (.bool true) ∧ Below w.heap.size w w' := by
  go_enter Tryd.func10, Tryd.ntmps10
  go_wp2_with fail
  with_reducible refine (x_conv _).mono ?_
  rintro x w1 ⟨rfl, l1, n1, rfl⟩
  go_wp2_with fail
  with_reducible refine (x_cross _).mono ?_
  rintro x w1 ⟨rfl, l2, n2, rfl⟩
  go_wp2_with fail
  have hb : Pushed w (((push ((push w l1).alloc (Obj.cells #[Value.int IntKind.i64 151050, Value.string ⟨#[74, 80, 89]⟩] 33)) l2).alloc (Obj.cells #[Value.string ⟨#[85, 83, 68]⟩, Value.string ⟨#[71, 66, 80]⟩, Value.int IntKind.i64 3, Value.int IntKind.i64 4] 23)).drewN (n1 + n2)) := (by repeat (first | with_reducible exact Pushed.refl _ | with_reducible refine Pushed.push ?_ _ | with_reducible refine Pushed.alloc ?_ _ | with_reducible refine Pushed.drewN ?_ _ | with_reducible refine Pushed.drew ?_))
  have hB := hb.below
  refine (x_fmt _ (hT.later hB hw) (Nat.le_trans hw hB.size)).mono ?_
  rintro x w2 ⟨rfl, hb2⟩
  have HB := Lib.hid (hB.trans (hb2.mono hB.size))
  clear hb hB hb2
  go_wp2
  go_ret
  exact ⟨rfl, HB.out⟩
end Go.Proofs.YtobnkfgikafanaaDoor
