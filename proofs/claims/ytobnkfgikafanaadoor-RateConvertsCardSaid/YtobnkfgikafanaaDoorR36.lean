/-
  CONTRACTS of rates: valid of an amount that is not permitted.
-/
import Derived.Test.YtobnkfgikafanaaDoorR35
namespace Go.Proofs.YtobnkfgikafanaaDoor
open Go.RowKit
set_option linter.unusedVariables false
set_option linter.unusedSimpArgs false
set_option maxHeartbeats 1600000 in
theorem valid_err (n : Int) (c : ByteArray) (hc : c.size ≤ 1000000) {e : Int} (H : Hid (mchkR n c = e)) (he : (e != 0) = true) (w : World) : Calls Tryd.prog 49 #[.int .i64 n, .string c] w fun x w' => x = .returned (.tuple #[.agg #[.int .i64 0, .string ⟨#[]⟩], .int .i64 e]) ∧ Pushed w w' := by
  have C1 := Lib.hid (fun w => mchk_any n c hc H w)
  go_enter Tryd.func49, Tryd.ntmps49
  go_wp2_with fail
  go_at_call 34
  with_reducible refine (C1.out _).mono ?_
  rintro x w1 ⟨rfl, l0, n0, rfl⟩
  go_wp2
  exact bodyPost_ret (v := .tuple #[.agg #[.int .i64 0, .string ⟨#[]⟩], .int .i64 e]) (by simp [results, Tryd.results49, go_sem]) rfl ⟨rfl, (by repeat (first | with_reducible exact Pushed.refl _ | with_reducible assumption | with_reducible refine Pushed.push ?_ _ | with_reducible refine Pushed.alloc ?_ _ | with_reducible refine Pushed.drewN ?_ _ | with_reducible refine Pushed.drew ?_))⟩
end Go.Proofs.YtobnkfgikafanaaDoor
