/-
  PROVED: for every stage and every event, the law DisputeStages returns true: Next and Turn return what is specified, the deadline or a ruling leads to an end from every stage that has not ended, and the examples hold. Conditions: none besides the form's own reach.
-/
import Derived.Test.YtjlgimoejhljiaaDS5
import Derived.Test.YtjlgimoejhljiaaRows
import Derived.WalkKit
import Derived.ProofKit
import Derived.OpenShut
import Derived.ShutString
import Derived.ChangeOld
import Derived.Below
namespace Go.Proofs.Ytjlgimoejhljiaa.disputeStages
open Go.ChangeShapes Go.WideShapes Go.ChangeAt Go.RowKit
open Go.ChangeMaps (open_string shut_string)
set_option linter.unusedVariables false

set_option maxRecDepth 5000 in
theorem walk (s ev : Int) (w : World) (w0 : (Lit.int .i64 s).wf = true) (w1 : (Lit.int .i64 ev).wf = true) :
    Calls Try.prog 3 #[.int .i64 s, .int .i64 ev] w fun e w' => e = .returned (.bool true) ∧ Below w.heap.size w w' := by
  clear w0 w1
  go_enter Try.func3, Try.ntmps3
  go_wp2_with fail
  have HP := next_any s ev w
  have HR := rnext_any s ev w
  have HT := turn_any s w
  have HU := rturn_any s w
  rw [show NX s ev = .tuple #[.int .i64 (nextN s ev).1, .int .i64 (nextN s ev).2] from rfl] at HP HR
  generalize (nextN s ev).1 = x, (nextN s ev).2 = y, turnN s = z at HP HR HT HU
  refine HP.mono ?_
  rintro e w1 ⟨rfl, rfl⟩
  go_wp2_with fail
  refine HR.mono ?_
  rintro e w1 ⟨rfl, rfl⟩
  go_wp2_with (first | ((with_reducible refine HT.mono ?_); rintro e w1 ⟨rfl, rfl⟩) | ((with_reducible refine HU.mono ?_); rintro e w1 ⟨rfl, rfl⟩))
  refine wp_loop_rounds 7 ?_
  rw [rounds_succ]
  have a1 : ∀ w, Calls Try.prog 4 #[.int .i64 1, .int .i64 7] w fun x w' => x = .returned (.tuple #[.int .i64 5, .int .i64 0]) ∧ w = w' := fun w => next_any 1 7 w
  have b1 : ∀ w, Calls Try.prog 4 #[.int .i64 1, .int .i64 5] w fun x w' => x = .returned (.tuple #[.int .i64 0, .int .i64 8]) ∧ w = w' := fun w => next_any 1 5 w
  have c1 : ∀ w, Calls Try.prog 6 #[.int .i64 1] w fun x w' => x = .returned (.int .i64 1) ∧ w = w' := fun w => turn_any 1 w
  go_wp2_with fail
  refine (a1 _).mono ?_
  rintro e w1 ⟨rfl, rfl⟩
  go_wp2_with fail
  refine (b1 _).mono ?_
  rintro e w1 ⟨rfl, rfl⟩
  go_wp2_with fail
  refine (c1 _).mono ?_
  rintro e w1 ⟨rfl, rfl⟩
  clear a1 b1 c1
  go_wp2_with fail
  rw [rounds_succ]
  have a2 : ∀ w, Calls Try.prog 4 #[.int .i64 2, .int .i64 7] w fun x w' => x = .returned (.tuple #[.int .i64 6, .int .i64 0]) ∧ w = w' := fun w => next_any 2 7 w
  have b2 : ∀ w, Calls Try.prog 4 #[.int .i64 2, .int .i64 5] w fun x w' => x = .returned (.tuple #[.int .i64 0, .int .i64 8]) ∧ w = w' := fun w => next_any 2 5 w
  have c2 : ∀ w, Calls Try.prog 6 #[.int .i64 2] w fun x w' => x = .returned (.int .i64 2) ∧ w = w' := fun w => turn_any 2 w
  go_wp2_with fail
  refine (a2 _).mono ?_
  rintro e w1 ⟨rfl, rfl⟩
  go_wp2_with fail
  refine (b2 _).mono ?_
  rintro e w1 ⟨rfl, rfl⟩
  go_wp2_with fail
  refine (c2 _).mono ?_
  rintro e w1 ⟨rfl, rfl⟩
  clear a2 b2 c2
  go_wp2_with fail
  rw [rounds_succ]
  have a3 : ∀ w, Calls Try.prog 4 #[.int .i64 3, .int .i64 7] w fun x w' => x = .returned (.tuple #[.int .i64 5, .int .i64 0]) ∧ w = w' := fun w => next_any 3 7 w
  have b3 : ∀ w, Calls Try.prog 4 #[.int .i64 3, .int .i64 5] w fun x w' => x = .returned (.tuple #[.int .i64 0, .int .i64 8]) ∧ w = w' := fun w => next_any 3 5 w
  have c3 : ∀ w, Calls Try.prog 6 #[.int .i64 3] w fun x w' => x = .returned (.int .i64 1) ∧ w = w' := fun w => turn_any 3 w
  go_wp2_with fail
  refine (a3 _).mono ?_
  rintro e w1 ⟨rfl, rfl⟩
  go_wp2_with fail
  refine (b3 _).mono ?_
  rintro e w1 ⟨rfl, rfl⟩
  go_wp2_with fail
  refine (c3 _).mono ?_
  rintro e w1 ⟨rfl, rfl⟩
  clear a3 b3 c3
  go_wp2_with fail
  rw [rounds_succ]
  have a4 : ∀ w, Calls Try.prog 4 #[.int .i64 4, .int .i64 7] w fun x w' => x = .returned (.tuple #[.int .i64 0, .int .i64 8]) ∧ w = w' := fun w => next_any 4 7 w
  have b4 : ∀ w, Calls Try.prog 4 #[.int .i64 4, .int .i64 5] w fun x w' => x = .returned (.tuple #[.int .i64 5, .int .i64 0]) ∧ w = w' := fun w => next_any 4 5 w
  have c4 : ∀ w, Calls Try.prog 6 #[.int .i64 4] w fun x w' => x = .returned (.int .i64 3) ∧ w = w' := fun w => turn_any 4 w
  go_wp2_with fail
  refine (a4 _).mono ?_
  rintro e w1 ⟨rfl, rfl⟩
  go_wp2_with fail
  refine (b4 _).mono ?_
  rintro e w1 ⟨rfl, rfl⟩
  go_wp2_with fail
  refine (c4 _).mono ?_
  rintro e w1 ⟨rfl, rfl⟩
  clear a4 b4 c4
  go_wp2_with fail
  rw [rounds_succ]
  have a5 : ∀ w, Calls Try.prog 4 #[.int .i64 5, .int .i64 7] w fun x w' => x = .returned (.tuple #[.int .i64 0, .int .i64 8]) ∧ w = w' := fun w => next_any 5 7 w
  have b5 : ∀ w, Calls Try.prog 4 #[.int .i64 5, .int .i64 5] w fun x w' => x = .returned (.tuple #[.int .i64 0, .int .i64 8]) ∧ w = w' := fun w => next_any 5 5 w
  have c5 : ∀ w, Calls Try.prog 6 #[.int .i64 5] w fun x w' => x = .returned (.int .i64 0) ∧ w = w' := fun w => turn_any 5 w
  go_wp2_with fail
  refine (a5 _).mono ?_
  rintro e w1 ⟨rfl, rfl⟩
  go_wp2_with fail
  refine (b5 _).mono ?_
  rintro e w1 ⟨rfl, rfl⟩
  go_wp2_with fail
  refine (c5 _).mono ?_
  rintro e w1 ⟨rfl, rfl⟩
  clear a5 b5 c5
  go_wp2_with fail
  rw [rounds_succ]
  have a6 : ∀ w, Calls Try.prog 4 #[.int .i64 6, .int .i64 7] w fun x w' => x = .returned (.tuple #[.int .i64 0, .int .i64 8]) ∧ w = w' := fun w => next_any 6 7 w
  have b6 : ∀ w, Calls Try.prog 4 #[.int .i64 6, .int .i64 5] w fun x w' => x = .returned (.tuple #[.int .i64 0, .int .i64 8]) ∧ w = w' := fun w => next_any 6 5 w
  have c6 : ∀ w, Calls Try.prog 6 #[.int .i64 6] w fun x w' => x = .returned (.int .i64 0) ∧ w = w' := fun w => turn_any 6 w
  go_wp2_with fail
  refine (a6 _).mono ?_
  rintro e w1 ⟨rfl, rfl⟩
  go_wp2_with fail
  refine (b6 _).mono ?_
  rintro e w1 ⟨rfl, rfl⟩
  go_wp2_with fail
  refine (c6 _).mono ?_
  rintro e w1 ⟨rfl, rfl⟩
  clear a6 b6 c6
  go_wp2_with fail
  rw [rounds_succ]
  go_wp2_with fail
  refine (awake_any _).mono ?_
  rintro e w1 ⟨rfl, hb⟩
  go_wp2_with fail
  go_ret
  exact ⟨rfl, hb⟩

theorem own : ownKnob Try.prog.godebug = none := by kernel_rfl
theorem laidOut : laidOutB Try.prog = true := by kernel_rfl
set_option maxRecDepth 100000 in
theorem lifted (os : Os) (started : os.Started) (H : Type) (enc : TypeId × Value → H) :
    ReturnsInHanded {} Try.checked os 3 .any (Rows.disputeStagesSpec.pre6 enc Try.prog Try.f3 Rows.disputeStagesRow.domain false) (Rows.disputeStagesSpec.post enc Try.prog Try.f3 false true false false) := by
  refine returnsInHanded_of_change (C := Try.checked) own started (by kernel_rfl) Try.func3
    (ChangeSpec.witness6 (enc := enc) (C := Try.checked) false ⟨#[], #[.int .i64 0, .int .i64 0], []⟩ 8 (by kernel_rfl) (by kernel_rfl) (by kernel_rfl) (by kernel_rfl)) ?_
  intro W base args ds gs before hval0 hW hcnd _
  have hval : ∀ (j : Nat) t v, Try.f3.params[j]? = some t → args[j]? = some v → Value.okWide Try.prog W .any base t v := hval0
  have hW' := hW
  obtain ⟨p, q, hA0, hV, rfl, hfz, hnd⟩ := hW
  have hA : DataW.TrodAll enc Try.prog W 0 (fun _ => true) true Try.f3.params.toList args.toList ds p := hA0
  rw [Try.params3] at hA hval
  obtain ⟨v0, vs0, d0, ds0, p0, q0, hargs, rfl, rfl, h0, r0⟩ := trodAll_cons hA
  obtain ⟨v1, vs1, d1, ds1, p1, q1, rfl, rfl, rfl, h1, r1⟩ := trodAll_cons r0
  obtain ⟨rfl, rfl, rfl⟩ := trodAll_nil r1
  obtain rfl : args = #[v0, v1] := by cases args; simp_all
  obtain ⟨rfl, rfl⟩ := trodVars_none hV
  have k0 := h0
  have lt0 : ∀ x ∈ p0, x.block < W.heap.size := by obtain ⟨m, hm⟩ := k0; exact DataW.trod_lt m _ _ _ hm
  obtain ⟨a0, rfl, -, -, w0⟩ := open_int Try.underlying3 (hval 0 3 v0 rfl rfl) h0
  have k1 := h1
  have lt1 : ∀ x ∈ p1, x.block < W.heap.size := by obtain ⟨m, hm⟩ := k1; exact DataW.trod_lt m _ _ _ hm
  obtain ⟨a1, rfl, -, -, w1⟩ := open_int Try.underlying3 (hval 1 3 v1 rfl rfl) h1
  clear hA0 hval0
  refine (walk a0 a1 W w0 w1).mono fun e W' ⟨he, bel⟩ => ?_
  subst he
  exact ⟨_, rfl, _, _, _, [], _, [], hW', trodAll_mk1 (shut_bool Try.underlying4 _), (trodAll_cons_mk (Below.trod laidOut (by kernel_rfl) (of_decide_eq_true (by kernel_rfl)) k0 bel lt0) (trodAll_cons_mk (Below.trod laidOut (by kernel_rfl) (of_decide_eq_true (by kernel_rfl)) k1 bel lt1) trodAll_mk0)), rfl, bel.frame _, fun h => by cases h⟩

theorem over : Rows.disputeStagesRow.holds Try.pinned (OpenSpec.ofChange Rows.disputeStagesSpec) :=
  OpenClaim.holds_of_wide 3 Try.f3 rfl rfl rfl rfl rfl rfl rfl ⟨rfl, rfl, rfl, rfl, rfl⟩ rfl rfl rfl rfl rfl (by kernel_rfl) Try.func3 (by kernel_rfl)
    (of_decide_eq_true (by kernel_rfl)) (by unfold Func.isWrapper; first | (rw [if_pos (by decide +kernel)]; kernel_rfl) | (rw [if_neg (by decide +kernel)]; exact ⟨rfl, rfl⟩))
    (fun os started H enc _ => lifted os started H enc)
/-- THE STATEMENT. -/
theorem proved : Rows.DisputeStagesSaid := over
#print axioms proved
end Go.Proofs.Ytjlgimoejhljiaa.disputeStages
