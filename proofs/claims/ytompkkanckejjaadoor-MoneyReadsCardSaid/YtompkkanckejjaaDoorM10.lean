/-
  CONTRACTS of amounts: three equal parts are left in their order by the stable sort.
-/
import Derived.Test.YtompkkanckejjaaDoorM6
import Derived.LoopN
import Derived.Deep.RegionHeld3
import Derived.Deep.RegionWith
namespace Go.Proofs.YtompkkanckejjaaDoor
open Go.RowKit
set_option linter.unusedVariables false
set_option linter.unusedSimpArgs false
theorem compare_u_same (a : Int) (w : World) : Calls Tryd.prog 45 #[.int .u64 a, .int .u64 a] w fun x w' => x = .returned (.int .i64 0) ∧ w = w' := by
  go_enter Tryd.func45, Tryd.ntmps45
  go_wp2
  go_ret
  exact ⟨rfl, rfl⟩
theorem closure_same (i g j h r : Int) (w : World) : Calls Tryd.prog 44 #[.agg #[.int .i64 i, .int .u64 g, .int .u64 r], .agg #[.int .i64 j, .int .u64 h, .int .u64 r]] w fun x w' => x = .returned (.int .i64 0) ∧ Pushed w w' := by
  have C := Lib.hid (fun w => compare_u_same r w)
  go_enter Tryd.func44, Tryd.ntmps44
  go_wp2_with fail
  with_reducible refine (C.out _).mono ?_
  rintro x w1 ⟨rfl, rfl⟩
  go_wp2
  go_ret
  exact ⟨rfl, (by repeat (first | with_reducible exact Pushed.refl _ | with_reducible assumption | with_reducible refine Pushed.push ?_ _ | with_reducible refine Pushed.alloc ?_ _ | with_reducible refine Pushed.drewN ?_ _ | with_reducible refine Pushed.drew ?_))⟩

/-- The cells of three equal parts. -/
def P9 (w : World) (g : Nat) : Prop := w.cell? ⟨g, 0, none⟩ = some (.int .i64 0) ∧ w.cell? ⟨g, 1, none⟩ = some (.int .u64 33) ∧ w.cell? ⟨g, 2, none⟩ = some (.int .u64 1) ∧ w.cell? ⟨g, 3, none⟩ = some (.int .i64 1) ∧ w.cell? ⟨g, 4, none⟩ = some (.int .u64 33) ∧ w.cell? ⟨g, 5, none⟩ = some (.int .u64 1) ∧ w.cell? ⟨g, 6, none⟩ = some (.int .i64 2) ∧ w.cell? ⟨g, 7, none⟩ = some (.int .u64 33) ∧ w.cell? ⟨g, 8, none⟩ = some (.int .u64 1)
theorem P9.later {w w' : World} {g B : Nat} (h : P9 w g) (hg : g < B) (hb : Below B w w') : P9 w' g := by
  obtain ⟨a0, a1, a2, a3, a4, a5, a6, a7, a8⟩ := h
  refine ⟨?_, ?_, ?_, ?_, ?_, ?_, ?_, ?_, ?_⟩ <;> (rw [hb.cell hg]; assumption)
set_option maxRecDepth 8000 in
set_option maxHeartbeats 1600000 in
theorem ins3 (g : Nat) (w : World) (hg : g < w.heap.size) (hP : P9 w g) : Calls Tryd.prog 60 #[.slice (some ⟨g, 0, none⟩) 3 3, .int .i64 0, .int .i64 3, .func (.func 44) #[] #[]] w fun x w' => x = .returned (.tuple #[]) ∧ Below w.heap.size w w' := by
  have C : Hid (∀ i a j b w', Below w.heap.size w w' → Calls Tryd.prog 44 #[.agg #[.int .i64 i, .int .u64 a, .int .u64 1], .agg #[.int .i64 j, .int .u64 b, .int .u64 1]] w' fun x w'' => x = .returned (.int .i64 0) ∧ Below w.heap.size w w'') := Lib.hid fun i a j b w' hb => (closure_same i a j b 1 w').mono fun x w'' h => ⟨h.1, hb.trans (h.2.below.mono hb.size)⟩
  have HP := Lib.hid hP
  obtain ⟨a0, a1, a2, a3, a4, a5, a6, a7, a8⟩ := hP
  have w10 : IntKind.i64.wrap 0 = 0 := rfl
  have w21 : IntKind.i64.wrap 1 = 1 := rfl
  have KS : Hid (∀ w', Below w.heap.size w w' → Below w.heap.size w w' ∧ w'.cell? ⟨g, 0, none⟩ = some (.int .i64 0) ∧ w'.cell? ⟨g, 1, none⟩ = some (.int .u64 33) ∧ w'.cell? ⟨g, 2, none⟩ = some (.int .u64 1) ∧ w'.cell? ⟨g, 3, none⟩ = some (.int .i64 1) ∧ w'.cell? ⟨g, 4, none⟩ = some (.int .u64 33) ∧ w'.cell? ⟨g, 5, none⟩ = some (.int .u64 1) ∧ w'.cell? ⟨g, 6, none⟩ = some (.int .i64 2) ∧ w'.cell? ⟨g, 7, none⟩ = some (.int .u64 33) ∧ w'.cell? ⟨g, 8, none⟩ = some (.int .u64 1)) := Lib.hid fun w' hb => ⟨hb, HP.out.later hg hb⟩
  go_enter Tryd.func60, Tryd.ntmps60
  go_wp2
  refine wp_loop_rounds 3 ?_
  rw [rounds_succ]
  go_wp2
  refine wp_loop_rounds 1 ?_
  rw [rounds_succ]
  go_wp2
  go_region_held3 (fun w' => Below w.heap.size w w' ∧ w'.cell? ⟨g, 0, none⟩ = some (.int .i64 0) ∧ w'.cell? ⟨g, 1, none⟩ = some (.int .u64 33) ∧ w'.cell? ⟨g, 2, none⟩ = some (.int .u64 1) ∧ w'.cell? ⟨g, 3, none⟩ = some (.int .i64 1) ∧ w'.cell? ⟨g, 4, none⟩ = some (.int .u64 33) ∧ w'.cell? ⟨g, 5, none⟩ = some (.int .u64 1) ∧ w'.cell? ⟨g, 6, none⟩ = some (.int .i64 2) ∧ w'.cell? ⟨g, 7, none⟩ = some (.int .u64 33) ∧ w'.cell? ⟨g, 8, none⟩ = some (.int .u64 1)) (exact KS.out _ (by repeat (first | with_reducible exact Below.refl _ _ | with_reducible assumption | with_reducible refine Below.drew ?_ | with_reducible refine bel_alloc ?_ _ | with_reducible refine bel_drewN ?_ _))) (first | (with_reducible refine (C.out _ _ _ _ _ (by repeat (first | with_reducible exact Below.refl _ _ | with_reducible assumption | with_reducible refine Below.drew ?_ | with_reducible refine bel_alloc ?_ _ | with_reducible refine bel_drewN ?_ _))).mono ?_; rintro x u1 ⟨rfl, hb1⟩))
  go_wp2
  rw [rounds_succ]
  go_wp2
  refine wp_loop_rounds 1 ?_
  rw [rounds_succ]
  go_wp2
  clear a0 a1 a2 a3 a4 a5 a6 a7 a8
  obtain ⟨a0, a1, a2, a3, a4, a5, a6, a7, a8⟩ := (KS.out _ hb1).2
  go_region_held3 (fun w' => Below w.heap.size w w' ∧ w'.cell? ⟨g, 0, none⟩ = some (.int .i64 0) ∧ w'.cell? ⟨g, 1, none⟩ = some (.int .u64 33) ∧ w'.cell? ⟨g, 2, none⟩ = some (.int .u64 1) ∧ w'.cell? ⟨g, 3, none⟩ = some (.int .i64 1) ∧ w'.cell? ⟨g, 4, none⟩ = some (.int .u64 33) ∧ w'.cell? ⟨g, 5, none⟩ = some (.int .u64 1) ∧ w'.cell? ⟨g, 6, none⟩ = some (.int .i64 2) ∧ w'.cell? ⟨g, 7, none⟩ = some (.int .u64 33) ∧ w'.cell? ⟨g, 8, none⟩ = some (.int .u64 1)) (exact KS.out _ (by repeat (first | with_reducible exact Below.refl _ _ | with_reducible assumption | with_reducible refine Below.drew ?_ | with_reducible refine bel_alloc ?_ _ | with_reducible refine bel_drewN ?_ _))) (first | (with_reducible refine (C.out _ _ _ _ _ (by repeat (first | with_reducible exact Below.refl _ _ | with_reducible assumption | with_reducible refine Below.drew ?_ | with_reducible refine bel_alloc ?_ _ | with_reducible refine bel_drewN ?_ _))).mono ?_; rintro x u2 ⟨rfl, hb2⟩))
  go_wp2
  rw [rounds_succ]
  go_wp2
  go_end0
  exact ⟨rfl, hb2⟩
set_option maxHeartbeats 1600000 in
theorem stable3 (g : Nat) (w : World) (hg : g < w.heap.size) (hP : P9 w g) : Calls Tryd.prog 43 #[.slice (some ⟨g, 0, none⟩) 3 3, .func (.func 44) #[] #[]] w fun x w' => x = .returned (.tuple #[]) ∧ Below w.heap.size w w' := by
  have ST : Hid (∀ w, g < w.heap.size → P9 w g → Calls Tryd.prog 54 #[.slice (some ⟨g, 0, none⟩) 3 3, .int .i64 3, .func (.func 44) #[] #[]] w fun x w' => x = .returned (.tuple #[]) ∧ Below w.heap.size w w') := Lib.hid fun w hg hP => by
    have IN := Lib.hid (ins3 g w hg hP)
    clear hP
    go_enter Tryd.func54, Tryd.ntmps54
    go_wp2
    refine wp_loop_rounds 1 ?_
    rw [rounds_succ]
    go_wp2_with fail
    with_reducible refine (IN.out).mono ?_
    rintro x w1 ⟨rfl, hb⟩
    go_wp2
    refine wp_loop_rounds 1 ?_
    rw [rounds_succ]
    go_wp2
    go_end0
    exact ⟨rfl, hb⟩
  have S := Lib.hid (ST.out w hg hP)
  clear ST hP
  go_enter Tryd.func43, Tryd.ntmps43
  go_wp2_with fail
  with_reducible refine (S.out).mono ?_
  rintro x w1 ⟨rfl, hb⟩
  go_wp2
  go_end0
  exact ⟨rfl, hb⟩
end Go.Proofs.YtompkkanckejjaaDoor
