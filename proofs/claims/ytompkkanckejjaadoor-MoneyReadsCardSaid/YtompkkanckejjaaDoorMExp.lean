/-
  CONTRACTS of amounts: Exponent.
-/
import Derived.Test.YtompkkanckejjaaDoorMTab
import Derived.Test.YtompkkanckejjaaDoorM7
import Derived.Laws.Rows
import Derived.LoopN
namespace Go.Proofs.YtompkkanckejjaaDoor
open Go.RowKit
set_option linter.unusedVariables false
set_option linter.unusedSimpArgs false
theorem exp_bad (c : ByteArray) (hc : c.size ≤ 9223372036854775807) (h : ¬ curP c) (w : World) : Calls Tryd.prog 47 #[.string c] w fun x w' => x = .returned (.tuple #[.int .i64 0, .bool false]) ∧ w = w' := by
  have CU := Lib.hid (fun w => cur_no c hc h w)
  clear h hc
  go_enter Tryd.func47, Tryd.ntmps47
  go_wp2_with fail
  with_reducible refine (CU.out _).mono ?_
  rintro x w1 ⟨rfl, rfl⟩
  go_wp2
  go_ret2
  exact ⟨rfl, rfl⟩
set_option maxRecDepth 8000 in
set_option maxHeartbeats 3200000 in
theorem exp_0 (w : World) (hE : ExpT w) : Calls Tryd.prog 47 #[.string ⟨#[74, 80, 89]⟩] w fun x w' => x = .returned (.tuple #[.int .i64 0, .bool true]) ∧ Pushed w w' := by
  have CU := Lib.hid (fun w => cur_yes ⟨#[74, 80, 89]⟩ (by decide) w)
  obtain ⟨t, fr, hg⟩ := hE
  have HG := Lib.hid hg
  clear hg
  have KS : (Tryd.prog.info? 85).map (·.size) = some expCells.size := by kernel_rfl
  have i0 : ∀ w, (Instr.index 85 (.agg expCells) (.int .i64 0)).run Tryd.prog w = .ok (.agg #[.string ⟨#[74, 80, 89]⟩, .int .i64 0]) w := fun _ => by kernel_rfl
  have i1 : ∀ w, (Instr.index 85 (.agg expCells) (.int .i64 1)).run Tryd.prog w = .ok (.agg #[.string ⟨#[75, 82, 87]⟩, .int .i64 0]) w := fun _ => by kernel_rfl
  have i2 : ∀ w, (Instr.index 85 (.agg expCells) (.int .i64 2)).run Tryd.prog w = .ok (.agg #[.string ⟨#[86, 78, 68]⟩, .int .i64 0]) w := fun _ => by kernel_rfl
  have i3 : ∀ w, (Instr.index 85 (.agg expCells) (.int .i64 3)).run Tryd.prog w = .ok (.agg #[.string ⟨#[67, 76, 80]⟩, .int .i64 0]) w := fun _ => by kernel_rfl
  have i4 : ∀ w, (Instr.index 85 (.agg expCells) (.int .i64 4)).run Tryd.prog w = .ok (.agg #[.string ⟨#[73, 83, 75]⟩, .int .i64 0]) w := fun _ => by kernel_rfl
  have i5 : ∀ w, (Instr.index 85 (.agg expCells) (.int .i64 5)).run Tryd.prog w = .ok (.agg #[.string ⟨#[66, 72, 68]⟩, .int .i64 3]) w := fun _ => by kernel_rfl
  have i6 : ∀ w, (Instr.index 85 (.agg expCells) (.int .i64 6)).run Tryd.prog w = .ok (.agg #[.string ⟨#[75, 87, 68]⟩, .int .i64 3]) w := fun _ => by kernel_rfl
  have i7 : ∀ w, (Instr.index 85 (.agg expCells) (.int .i64 7)).run Tryd.prog w = .ok (.agg #[.string ⟨#[74, 79, 68]⟩, .int .i64 3]) w := fun _ => by kernel_rfl
  have i8 : ∀ w, (Instr.index 85 (.agg expCells) (.int .i64 8)).run Tryd.prog w = .ok (.agg #[.string ⟨#[79, 77, 82]⟩, .int .i64 3]) w := fun _ => by kernel_rfl
  have i9 : ∀ w, (Instr.index 85 (.agg expCells) (.int .i64 9)).run Tryd.prog w = .ok (.agg #[.string ⟨#[84, 78, 68]⟩, .int .i64 3]) w := fun _ => by kernel_rfl
  go_enter Tryd.func47, Tryd.ntmps47
  go_wp2_with fail
  with_reducible refine (CU.out _).mono ?_
  rintro x w1 ⟨rfl, rfl⟩
  go_wp2_with (refine wpList_load_row rfl 85 (Operand.global 2) rfl 2 rfl t expCells fr _ HG.out Tryd.underlying85 rfl KS ?_)
  refine wp_loop_rounds 11 ?_
  rw [rounds_succ]
  go_wp2
  go_ret2
  exact ⟨rfl, (by repeat (first | with_reducible exact Pushed.refl _ | with_reducible assumption | with_reducible refine Pushed.push ?_ _ | with_reducible refine Pushed.alloc ?_ _ | with_reducible refine Pushed.drewN ?_ _ | with_reducible refine Pushed.drew ?_))⟩
set_option maxRecDepth 8000 in
set_option maxHeartbeats 3200000 in
theorem exp_1 (w : World) (hE : ExpT w) : Calls Tryd.prog 47 #[.string ⟨#[75, 82, 87]⟩] w fun x w' => x = .returned (.tuple #[.int .i64 0, .bool true]) ∧ Pushed w w' := by
  have CU := Lib.hid (fun w => cur_yes ⟨#[75, 82, 87]⟩ (by decide) w)
  obtain ⟨t, fr, hg⟩ := hE
  have HG := Lib.hid hg
  clear hg
  have KS : (Tryd.prog.info? 85).map (·.size) = some expCells.size := by kernel_rfl
  have i0 : ∀ w, (Instr.index 85 (.agg expCells) (.int .i64 0)).run Tryd.prog w = .ok (.agg #[.string ⟨#[74, 80, 89]⟩, .int .i64 0]) w := fun _ => by kernel_rfl
  have i1 : ∀ w, (Instr.index 85 (.agg expCells) (.int .i64 1)).run Tryd.prog w = .ok (.agg #[.string ⟨#[75, 82, 87]⟩, .int .i64 0]) w := fun _ => by kernel_rfl
  have i2 : ∀ w, (Instr.index 85 (.agg expCells) (.int .i64 2)).run Tryd.prog w = .ok (.agg #[.string ⟨#[86, 78, 68]⟩, .int .i64 0]) w := fun _ => by kernel_rfl
  have i3 : ∀ w, (Instr.index 85 (.agg expCells) (.int .i64 3)).run Tryd.prog w = .ok (.agg #[.string ⟨#[67, 76, 80]⟩, .int .i64 0]) w := fun _ => by kernel_rfl
  have i4 : ∀ w, (Instr.index 85 (.agg expCells) (.int .i64 4)).run Tryd.prog w = .ok (.agg #[.string ⟨#[73, 83, 75]⟩, .int .i64 0]) w := fun _ => by kernel_rfl
  have i5 : ∀ w, (Instr.index 85 (.agg expCells) (.int .i64 5)).run Tryd.prog w = .ok (.agg #[.string ⟨#[66, 72, 68]⟩, .int .i64 3]) w := fun _ => by kernel_rfl
  have i6 : ∀ w, (Instr.index 85 (.agg expCells) (.int .i64 6)).run Tryd.prog w = .ok (.agg #[.string ⟨#[75, 87, 68]⟩, .int .i64 3]) w := fun _ => by kernel_rfl
  have i7 : ∀ w, (Instr.index 85 (.agg expCells) (.int .i64 7)).run Tryd.prog w = .ok (.agg #[.string ⟨#[74, 79, 68]⟩, .int .i64 3]) w := fun _ => by kernel_rfl
  have i8 : ∀ w, (Instr.index 85 (.agg expCells) (.int .i64 8)).run Tryd.prog w = .ok (.agg #[.string ⟨#[79, 77, 82]⟩, .int .i64 3]) w := fun _ => by kernel_rfl
  have i9 : ∀ w, (Instr.index 85 (.agg expCells) (.int .i64 9)).run Tryd.prog w = .ok (.agg #[.string ⟨#[84, 78, 68]⟩, .int .i64 3]) w := fun _ => by kernel_rfl
  go_enter Tryd.func47, Tryd.ntmps47
  go_wp2_with fail
  with_reducible refine (CU.out _).mono ?_
  rintro x w1 ⟨rfl, rfl⟩
  go_wp2_with (refine wpList_load_row rfl 85 (Operand.global 2) rfl 2 rfl t expCells fr _ HG.out Tryd.underlying85 rfl KS ?_)
  refine wp_loop_rounds 11 ?_
  rw [rounds_succ]
  go_wp2
  rw [rounds_succ]
  go_wp2
  go_ret2
  exact ⟨rfl, (by repeat (first | with_reducible exact Pushed.refl _ | with_reducible assumption | with_reducible refine Pushed.push ?_ _ | with_reducible refine Pushed.alloc ?_ _ | with_reducible refine Pushed.drewN ?_ _ | with_reducible refine Pushed.drew ?_))⟩
set_option maxRecDepth 8000 in
set_option maxHeartbeats 3200000 in
theorem exp_2 (w : World) (hE : ExpT w) : Calls Tryd.prog 47 #[.string ⟨#[86, 78, 68]⟩] w fun x w' => x = .returned (.tuple #[.int .i64 0, .bool true]) ∧ Pushed w w' := by
  have CU := Lib.hid (fun w => cur_yes ⟨#[86, 78, 68]⟩ (by decide) w)
  obtain ⟨t, fr, hg⟩ := hE
  have HG := Lib.hid hg
  clear hg
  have KS : (Tryd.prog.info? 85).map (·.size) = some expCells.size := by kernel_rfl
  have i0 : ∀ w, (Instr.index 85 (.agg expCells) (.int .i64 0)).run Tryd.prog w = .ok (.agg #[.string ⟨#[74, 80, 89]⟩, .int .i64 0]) w := fun _ => by kernel_rfl
  have i1 : ∀ w, (Instr.index 85 (.agg expCells) (.int .i64 1)).run Tryd.prog w = .ok (.agg #[.string ⟨#[75, 82, 87]⟩, .int .i64 0]) w := fun _ => by kernel_rfl
  have i2 : ∀ w, (Instr.index 85 (.agg expCells) (.int .i64 2)).run Tryd.prog w = .ok (.agg #[.string ⟨#[86, 78, 68]⟩, .int .i64 0]) w := fun _ => by kernel_rfl
  have i3 : ∀ w, (Instr.index 85 (.agg expCells) (.int .i64 3)).run Tryd.prog w = .ok (.agg #[.string ⟨#[67, 76, 80]⟩, .int .i64 0]) w := fun _ => by kernel_rfl
  have i4 : ∀ w, (Instr.index 85 (.agg expCells) (.int .i64 4)).run Tryd.prog w = .ok (.agg #[.string ⟨#[73, 83, 75]⟩, .int .i64 0]) w := fun _ => by kernel_rfl
  have i5 : ∀ w, (Instr.index 85 (.agg expCells) (.int .i64 5)).run Tryd.prog w = .ok (.agg #[.string ⟨#[66, 72, 68]⟩, .int .i64 3]) w := fun _ => by kernel_rfl
  have i6 : ∀ w, (Instr.index 85 (.agg expCells) (.int .i64 6)).run Tryd.prog w = .ok (.agg #[.string ⟨#[75, 87, 68]⟩, .int .i64 3]) w := fun _ => by kernel_rfl
  have i7 : ∀ w, (Instr.index 85 (.agg expCells) (.int .i64 7)).run Tryd.prog w = .ok (.agg #[.string ⟨#[74, 79, 68]⟩, .int .i64 3]) w := fun _ => by kernel_rfl
  have i8 : ∀ w, (Instr.index 85 (.agg expCells) (.int .i64 8)).run Tryd.prog w = .ok (.agg #[.string ⟨#[79, 77, 82]⟩, .int .i64 3]) w := fun _ => by kernel_rfl
  have i9 : ∀ w, (Instr.index 85 (.agg expCells) (.int .i64 9)).run Tryd.prog w = .ok (.agg #[.string ⟨#[84, 78, 68]⟩, .int .i64 3]) w := fun _ => by kernel_rfl
  go_enter Tryd.func47, Tryd.ntmps47
  go_wp2_with fail
  with_reducible refine (CU.out _).mono ?_
  rintro x w1 ⟨rfl, rfl⟩
  go_wp2_with (refine wpList_load_row rfl 85 (Operand.global 2) rfl 2 rfl t expCells fr _ HG.out Tryd.underlying85 rfl KS ?_)
  refine wp_loop_rounds 11 ?_
  rw [rounds_succ]
  go_wp2
  rw [rounds_succ]
  go_wp2
  rw [rounds_succ]
  go_wp2
  go_ret2
  exact ⟨rfl, (by repeat (first | with_reducible exact Pushed.refl _ | with_reducible assumption | with_reducible refine Pushed.push ?_ _ | with_reducible refine Pushed.alloc ?_ _ | with_reducible refine Pushed.drewN ?_ _ | with_reducible refine Pushed.drew ?_))⟩
set_option maxRecDepth 8000 in
set_option maxHeartbeats 3200000 in
theorem exp_3 (w : World) (hE : ExpT w) : Calls Tryd.prog 47 #[.string ⟨#[67, 76, 80]⟩] w fun x w' => x = .returned (.tuple #[.int .i64 0, .bool true]) ∧ Pushed w w' := by
  have CU := Lib.hid (fun w => cur_yes ⟨#[67, 76, 80]⟩ (by decide) w)
  obtain ⟨t, fr, hg⟩ := hE
  have HG := Lib.hid hg
  clear hg
  have KS : (Tryd.prog.info? 85).map (·.size) = some expCells.size := by kernel_rfl
  have i0 : ∀ w, (Instr.index 85 (.agg expCells) (.int .i64 0)).run Tryd.prog w = .ok (.agg #[.string ⟨#[74, 80, 89]⟩, .int .i64 0]) w := fun _ => by kernel_rfl
  have i1 : ∀ w, (Instr.index 85 (.agg expCells) (.int .i64 1)).run Tryd.prog w = .ok (.agg #[.string ⟨#[75, 82, 87]⟩, .int .i64 0]) w := fun _ => by kernel_rfl
  have i2 : ∀ w, (Instr.index 85 (.agg expCells) (.int .i64 2)).run Tryd.prog w = .ok (.agg #[.string ⟨#[86, 78, 68]⟩, .int .i64 0]) w := fun _ => by kernel_rfl
  have i3 : ∀ w, (Instr.index 85 (.agg expCells) (.int .i64 3)).run Tryd.prog w = .ok (.agg #[.string ⟨#[67, 76, 80]⟩, .int .i64 0]) w := fun _ => by kernel_rfl
  have i4 : ∀ w, (Instr.index 85 (.agg expCells) (.int .i64 4)).run Tryd.prog w = .ok (.agg #[.string ⟨#[73, 83, 75]⟩, .int .i64 0]) w := fun _ => by kernel_rfl
  have i5 : ∀ w, (Instr.index 85 (.agg expCells) (.int .i64 5)).run Tryd.prog w = .ok (.agg #[.string ⟨#[66, 72, 68]⟩, .int .i64 3]) w := fun _ => by kernel_rfl
  have i6 : ∀ w, (Instr.index 85 (.agg expCells) (.int .i64 6)).run Tryd.prog w = .ok (.agg #[.string ⟨#[75, 87, 68]⟩, .int .i64 3]) w := fun _ => by kernel_rfl
  have i7 : ∀ w, (Instr.index 85 (.agg expCells) (.int .i64 7)).run Tryd.prog w = .ok (.agg #[.string ⟨#[74, 79, 68]⟩, .int .i64 3]) w := fun _ => by kernel_rfl
  have i8 : ∀ w, (Instr.index 85 (.agg expCells) (.int .i64 8)).run Tryd.prog w = .ok (.agg #[.string ⟨#[79, 77, 82]⟩, .int .i64 3]) w := fun _ => by kernel_rfl
  have i9 : ∀ w, (Instr.index 85 (.agg expCells) (.int .i64 9)).run Tryd.prog w = .ok (.agg #[.string ⟨#[84, 78, 68]⟩, .int .i64 3]) w := fun _ => by kernel_rfl
  go_enter Tryd.func47, Tryd.ntmps47
  go_wp2_with fail
  with_reducible refine (CU.out _).mono ?_
  rintro x w1 ⟨rfl, rfl⟩
  go_wp2_with (refine wpList_load_row rfl 85 (Operand.global 2) rfl 2 rfl t expCells fr _ HG.out Tryd.underlying85 rfl KS ?_)
  refine wp_loop_rounds 11 ?_
  rw [rounds_succ]
  go_wp2
  rw [rounds_succ]
  go_wp2
  rw [rounds_succ]
  go_wp2
  rw [rounds_succ]
  go_wp2
  go_ret2
  exact ⟨rfl, (by repeat (first | with_reducible exact Pushed.refl _ | with_reducible assumption | with_reducible refine Pushed.push ?_ _ | with_reducible refine Pushed.alloc ?_ _ | with_reducible refine Pushed.drewN ?_ _ | with_reducible refine Pushed.drew ?_))⟩
set_option maxRecDepth 8000 in
set_option maxHeartbeats 3200000 in
theorem exp_4 (w : World) (hE : ExpT w) : Calls Tryd.prog 47 #[.string ⟨#[73, 83, 75]⟩] w fun x w' => x = .returned (.tuple #[.int .i64 0, .bool true]) ∧ Pushed w w' := by
  have CU := Lib.hid (fun w => cur_yes ⟨#[73, 83, 75]⟩ (by decide) w)
  obtain ⟨t, fr, hg⟩ := hE
  have HG := Lib.hid hg
  clear hg
  have KS : (Tryd.prog.info? 85).map (·.size) = some expCells.size := by kernel_rfl
  have i0 : ∀ w, (Instr.index 85 (.agg expCells) (.int .i64 0)).run Tryd.prog w = .ok (.agg #[.string ⟨#[74, 80, 89]⟩, .int .i64 0]) w := fun _ => by kernel_rfl
  have i1 : ∀ w, (Instr.index 85 (.agg expCells) (.int .i64 1)).run Tryd.prog w = .ok (.agg #[.string ⟨#[75, 82, 87]⟩, .int .i64 0]) w := fun _ => by kernel_rfl
  have i2 : ∀ w, (Instr.index 85 (.agg expCells) (.int .i64 2)).run Tryd.prog w = .ok (.agg #[.string ⟨#[86, 78, 68]⟩, .int .i64 0]) w := fun _ => by kernel_rfl
  have i3 : ∀ w, (Instr.index 85 (.agg expCells) (.int .i64 3)).run Tryd.prog w = .ok (.agg #[.string ⟨#[67, 76, 80]⟩, .int .i64 0]) w := fun _ => by kernel_rfl
  have i4 : ∀ w, (Instr.index 85 (.agg expCells) (.int .i64 4)).run Tryd.prog w = .ok (.agg #[.string ⟨#[73, 83, 75]⟩, .int .i64 0]) w := fun _ => by kernel_rfl
  have i5 : ∀ w, (Instr.index 85 (.agg expCells) (.int .i64 5)).run Tryd.prog w = .ok (.agg #[.string ⟨#[66, 72, 68]⟩, .int .i64 3]) w := fun _ => by kernel_rfl
  have i6 : ∀ w, (Instr.index 85 (.agg expCells) (.int .i64 6)).run Tryd.prog w = .ok (.agg #[.string ⟨#[75, 87, 68]⟩, .int .i64 3]) w := fun _ => by kernel_rfl
  have i7 : ∀ w, (Instr.index 85 (.agg expCells) (.int .i64 7)).run Tryd.prog w = .ok (.agg #[.string ⟨#[74, 79, 68]⟩, .int .i64 3]) w := fun _ => by kernel_rfl
  have i8 : ∀ w, (Instr.index 85 (.agg expCells) (.int .i64 8)).run Tryd.prog w = .ok (.agg #[.string ⟨#[79, 77, 82]⟩, .int .i64 3]) w := fun _ => by kernel_rfl
  have i9 : ∀ w, (Instr.index 85 (.agg expCells) (.int .i64 9)).run Tryd.prog w = .ok (.agg #[.string ⟨#[84, 78, 68]⟩, .int .i64 3]) w := fun _ => by kernel_rfl
  go_enter Tryd.func47, Tryd.ntmps47
  go_wp2_with fail
  with_reducible refine (CU.out _).mono ?_
  rintro x w1 ⟨rfl, rfl⟩
  go_wp2_with (refine wpList_load_row rfl 85 (Operand.global 2) rfl 2 rfl t expCells fr _ HG.out Tryd.underlying85 rfl KS ?_)
  refine wp_loop_rounds 11 ?_
  rw [rounds_succ]
  go_wp2
  rw [rounds_succ]
  go_wp2
  rw [rounds_succ]
  go_wp2
  rw [rounds_succ]
  go_wp2
  rw [rounds_succ]
  go_wp2
  go_ret2
  exact ⟨rfl, (by repeat (first | with_reducible exact Pushed.refl _ | with_reducible assumption | with_reducible refine Pushed.push ?_ _ | with_reducible refine Pushed.alloc ?_ _ | with_reducible refine Pushed.drewN ?_ _ | with_reducible refine Pushed.drew ?_))⟩
set_option maxRecDepth 8000 in
set_option maxHeartbeats 3200000 in
theorem exp_5 (w : World) (hE : ExpT w) : Calls Tryd.prog 47 #[.string ⟨#[66, 72, 68]⟩] w fun x w' => x = .returned (.tuple #[.int .i64 3, .bool true]) ∧ Pushed w w' := by
  have CU := Lib.hid (fun w => cur_yes ⟨#[66, 72, 68]⟩ (by decide) w)
  obtain ⟨t, fr, hg⟩ := hE
  have HG := Lib.hid hg
  clear hg
  have KS : (Tryd.prog.info? 85).map (·.size) = some expCells.size := by kernel_rfl
  have i0 : ∀ w, (Instr.index 85 (.agg expCells) (.int .i64 0)).run Tryd.prog w = .ok (.agg #[.string ⟨#[74, 80, 89]⟩, .int .i64 0]) w := fun _ => by kernel_rfl
  have i1 : ∀ w, (Instr.index 85 (.agg expCells) (.int .i64 1)).run Tryd.prog w = .ok (.agg #[.string ⟨#[75, 82, 87]⟩, .int .i64 0]) w := fun _ => by kernel_rfl
  have i2 : ∀ w, (Instr.index 85 (.agg expCells) (.int .i64 2)).run Tryd.prog w = .ok (.agg #[.string ⟨#[86, 78, 68]⟩, .int .i64 0]) w := fun _ => by kernel_rfl
  have i3 : ∀ w, (Instr.index 85 (.agg expCells) (.int .i64 3)).run Tryd.prog w = .ok (.agg #[.string ⟨#[67, 76, 80]⟩, .int .i64 0]) w := fun _ => by kernel_rfl
  have i4 : ∀ w, (Instr.index 85 (.agg expCells) (.int .i64 4)).run Tryd.prog w = .ok (.agg #[.string ⟨#[73, 83, 75]⟩, .int .i64 0]) w := fun _ => by kernel_rfl
  have i5 : ∀ w, (Instr.index 85 (.agg expCells) (.int .i64 5)).run Tryd.prog w = .ok (.agg #[.string ⟨#[66, 72, 68]⟩, .int .i64 3]) w := fun _ => by kernel_rfl
  have i6 : ∀ w, (Instr.index 85 (.agg expCells) (.int .i64 6)).run Tryd.prog w = .ok (.agg #[.string ⟨#[75, 87, 68]⟩, .int .i64 3]) w := fun _ => by kernel_rfl
  have i7 : ∀ w, (Instr.index 85 (.agg expCells) (.int .i64 7)).run Tryd.prog w = .ok (.agg #[.string ⟨#[74, 79, 68]⟩, .int .i64 3]) w := fun _ => by kernel_rfl
  have i8 : ∀ w, (Instr.index 85 (.agg expCells) (.int .i64 8)).run Tryd.prog w = .ok (.agg #[.string ⟨#[79, 77, 82]⟩, .int .i64 3]) w := fun _ => by kernel_rfl
  have i9 : ∀ w, (Instr.index 85 (.agg expCells) (.int .i64 9)).run Tryd.prog w = .ok (.agg #[.string ⟨#[84, 78, 68]⟩, .int .i64 3]) w := fun _ => by kernel_rfl
  go_enter Tryd.func47, Tryd.ntmps47
  go_wp2_with fail
  with_reducible refine (CU.out _).mono ?_
  rintro x w1 ⟨rfl, rfl⟩
  go_wp2_with (refine wpList_load_row rfl 85 (Operand.global 2) rfl 2 rfl t expCells fr _ HG.out Tryd.underlying85 rfl KS ?_)
  refine wp_loop_rounds 11 ?_
  rw [rounds_succ]
  go_wp2
  rw [rounds_succ]
  go_wp2
  rw [rounds_succ]
  go_wp2
  rw [rounds_succ]
  go_wp2
  rw [rounds_succ]
  go_wp2
  rw [rounds_succ]
  go_wp2
  go_ret2
  exact ⟨rfl, (by repeat (first | with_reducible exact Pushed.refl _ | with_reducible assumption | with_reducible refine Pushed.push ?_ _ | with_reducible refine Pushed.alloc ?_ _ | with_reducible refine Pushed.drewN ?_ _ | with_reducible refine Pushed.drew ?_))⟩
set_option maxRecDepth 8000 in
set_option maxHeartbeats 3200000 in
theorem exp_6 (w : World) (hE : ExpT w) : Calls Tryd.prog 47 #[.string ⟨#[75, 87, 68]⟩] w fun x w' => x = .returned (.tuple #[.int .i64 3, .bool true]) ∧ Pushed w w' := by
  have CU := Lib.hid (fun w => cur_yes ⟨#[75, 87, 68]⟩ (by decide) w)
  obtain ⟨t, fr, hg⟩ := hE
  have HG := Lib.hid hg
  clear hg
  have KS : (Tryd.prog.info? 85).map (·.size) = some expCells.size := by kernel_rfl
  have i0 : ∀ w, (Instr.index 85 (.agg expCells) (.int .i64 0)).run Tryd.prog w = .ok (.agg #[.string ⟨#[74, 80, 89]⟩, .int .i64 0]) w := fun _ => by kernel_rfl
  have i1 : ∀ w, (Instr.index 85 (.agg expCells) (.int .i64 1)).run Tryd.prog w = .ok (.agg #[.string ⟨#[75, 82, 87]⟩, .int .i64 0]) w := fun _ => by kernel_rfl
  have i2 : ∀ w, (Instr.index 85 (.agg expCells) (.int .i64 2)).run Tryd.prog w = .ok (.agg #[.string ⟨#[86, 78, 68]⟩, .int .i64 0]) w := fun _ => by kernel_rfl
  have i3 : ∀ w, (Instr.index 85 (.agg expCells) (.int .i64 3)).run Tryd.prog w = .ok (.agg #[.string ⟨#[67, 76, 80]⟩, .int .i64 0]) w := fun _ => by kernel_rfl
  have i4 : ∀ w, (Instr.index 85 (.agg expCells) (.int .i64 4)).run Tryd.prog w = .ok (.agg #[.string ⟨#[73, 83, 75]⟩, .int .i64 0]) w := fun _ => by kernel_rfl
  have i5 : ∀ w, (Instr.index 85 (.agg expCells) (.int .i64 5)).run Tryd.prog w = .ok (.agg #[.string ⟨#[66, 72, 68]⟩, .int .i64 3]) w := fun _ => by kernel_rfl
  have i6 : ∀ w, (Instr.index 85 (.agg expCells) (.int .i64 6)).run Tryd.prog w = .ok (.agg #[.string ⟨#[75, 87, 68]⟩, .int .i64 3]) w := fun _ => by kernel_rfl
  have i7 : ∀ w, (Instr.index 85 (.agg expCells) (.int .i64 7)).run Tryd.prog w = .ok (.agg #[.string ⟨#[74, 79, 68]⟩, .int .i64 3]) w := fun _ => by kernel_rfl
  have i8 : ∀ w, (Instr.index 85 (.agg expCells) (.int .i64 8)).run Tryd.prog w = .ok (.agg #[.string ⟨#[79, 77, 82]⟩, .int .i64 3]) w := fun _ => by kernel_rfl
  have i9 : ∀ w, (Instr.index 85 (.agg expCells) (.int .i64 9)).run Tryd.prog w = .ok (.agg #[.string ⟨#[84, 78, 68]⟩, .int .i64 3]) w := fun _ => by kernel_rfl
  go_enter Tryd.func47, Tryd.ntmps47
  go_wp2_with fail
  with_reducible refine (CU.out _).mono ?_
  rintro x w1 ⟨rfl, rfl⟩
  go_wp2_with (refine wpList_load_row rfl 85 (Operand.global 2) rfl 2 rfl t expCells fr _ HG.out Tryd.underlying85 rfl KS ?_)
  refine wp_loop_rounds 11 ?_
  rw [rounds_succ]
  go_wp2
  rw [rounds_succ]
  go_wp2
  rw [rounds_succ]
  go_wp2
  rw [rounds_succ]
  go_wp2
  rw [rounds_succ]
  go_wp2
  rw [rounds_succ]
  go_wp2
  rw [rounds_succ]
  go_wp2
  go_ret2
  exact ⟨rfl, (by repeat (first | with_reducible exact Pushed.refl _ | with_reducible assumption | with_reducible refine Pushed.push ?_ _ | with_reducible refine Pushed.alloc ?_ _ | with_reducible refine Pushed.drewN ?_ _ | with_reducible refine Pushed.drew ?_))⟩
set_option maxRecDepth 8000 in
set_option maxHeartbeats 3200000 in
theorem exp_7 (w : World) (hE : ExpT w) : Calls Tryd.prog 47 #[.string ⟨#[74, 79, 68]⟩] w fun x w' => x = .returned (.tuple #[.int .i64 3, .bool true]) ∧ Pushed w w' := by
  have CU := Lib.hid (fun w => cur_yes ⟨#[74, 79, 68]⟩ (by decide) w)
  obtain ⟨t, fr, hg⟩ := hE
  have HG := Lib.hid hg
  clear hg
  have KS : (Tryd.prog.info? 85).map (·.size) = some expCells.size := by kernel_rfl
  have i0 : ∀ w, (Instr.index 85 (.agg expCells) (.int .i64 0)).run Tryd.prog w = .ok (.agg #[.string ⟨#[74, 80, 89]⟩, .int .i64 0]) w := fun _ => by kernel_rfl
  have i1 : ∀ w, (Instr.index 85 (.agg expCells) (.int .i64 1)).run Tryd.prog w = .ok (.agg #[.string ⟨#[75, 82, 87]⟩, .int .i64 0]) w := fun _ => by kernel_rfl
  have i2 : ∀ w, (Instr.index 85 (.agg expCells) (.int .i64 2)).run Tryd.prog w = .ok (.agg #[.string ⟨#[86, 78, 68]⟩, .int .i64 0]) w := fun _ => by kernel_rfl
  have i3 : ∀ w, (Instr.index 85 (.agg expCells) (.int .i64 3)).run Tryd.prog w = .ok (.agg #[.string ⟨#[67, 76, 80]⟩, .int .i64 0]) w := fun _ => by kernel_rfl
  have i4 : ∀ w, (Instr.index 85 (.agg expCells) (.int .i64 4)).run Tryd.prog w = .ok (.agg #[.string ⟨#[73, 83, 75]⟩, .int .i64 0]) w := fun _ => by kernel_rfl
  have i5 : ∀ w, (Instr.index 85 (.agg expCells) (.int .i64 5)).run Tryd.prog w = .ok (.agg #[.string ⟨#[66, 72, 68]⟩, .int .i64 3]) w := fun _ => by kernel_rfl
  have i6 : ∀ w, (Instr.index 85 (.agg expCells) (.int .i64 6)).run Tryd.prog w = .ok (.agg #[.string ⟨#[75, 87, 68]⟩, .int .i64 3]) w := fun _ => by kernel_rfl
  have i7 : ∀ w, (Instr.index 85 (.agg expCells) (.int .i64 7)).run Tryd.prog w = .ok (.agg #[.string ⟨#[74, 79, 68]⟩, .int .i64 3]) w := fun _ => by kernel_rfl
  have i8 : ∀ w, (Instr.index 85 (.agg expCells) (.int .i64 8)).run Tryd.prog w = .ok (.agg #[.string ⟨#[79, 77, 82]⟩, .int .i64 3]) w := fun _ => by kernel_rfl
  have i9 : ∀ w, (Instr.index 85 (.agg expCells) (.int .i64 9)).run Tryd.prog w = .ok (.agg #[.string ⟨#[84, 78, 68]⟩, .int .i64 3]) w := fun _ => by kernel_rfl
  go_enter Tryd.func47, Tryd.ntmps47
  go_wp2_with fail
  with_reducible refine (CU.out _).mono ?_
  rintro x w1 ⟨rfl, rfl⟩
  go_wp2_with (refine wpList_load_row rfl 85 (Operand.global 2) rfl 2 rfl t expCells fr _ HG.out Tryd.underlying85 rfl KS ?_)
  refine wp_loop_rounds 11 ?_
  rw [rounds_succ]
  go_wp2
  rw [rounds_succ]
  go_wp2
  rw [rounds_succ]
  go_wp2
  rw [rounds_succ]
  go_wp2
  rw [rounds_succ]
  go_wp2
  rw [rounds_succ]
  go_wp2
  rw [rounds_succ]
  go_wp2
  rw [rounds_succ]
  go_wp2
  go_ret2
  exact ⟨rfl, (by repeat (first | with_reducible exact Pushed.refl _ | with_reducible assumption | with_reducible refine Pushed.push ?_ _ | with_reducible refine Pushed.alloc ?_ _ | with_reducible refine Pushed.drewN ?_ _ | with_reducible refine Pushed.drew ?_))⟩
set_option maxRecDepth 8000 in
set_option maxHeartbeats 3200000 in
theorem exp_8 (w : World) (hE : ExpT w) : Calls Tryd.prog 47 #[.string ⟨#[79, 77, 82]⟩] w fun x w' => x = .returned (.tuple #[.int .i64 3, .bool true]) ∧ Pushed w w' := by
  have CU := Lib.hid (fun w => cur_yes ⟨#[79, 77, 82]⟩ (by decide) w)
  obtain ⟨t, fr, hg⟩ := hE
  have HG := Lib.hid hg
  clear hg
  have KS : (Tryd.prog.info? 85).map (·.size) = some expCells.size := by kernel_rfl
  have i0 : ∀ w, (Instr.index 85 (.agg expCells) (.int .i64 0)).run Tryd.prog w = .ok (.agg #[.string ⟨#[74, 80, 89]⟩, .int .i64 0]) w := fun _ => by kernel_rfl
  have i1 : ∀ w, (Instr.index 85 (.agg expCells) (.int .i64 1)).run Tryd.prog w = .ok (.agg #[.string ⟨#[75, 82, 87]⟩, .int .i64 0]) w := fun _ => by kernel_rfl
  have i2 : ∀ w, (Instr.index 85 (.agg expCells) (.int .i64 2)).run Tryd.prog w = .ok (.agg #[.string ⟨#[86, 78, 68]⟩, .int .i64 0]) w := fun _ => by kernel_rfl
  have i3 : ∀ w, (Instr.index 85 (.agg expCells) (.int .i64 3)).run Tryd.prog w = .ok (.agg #[.string ⟨#[67, 76, 80]⟩, .int .i64 0]) w := fun _ => by kernel_rfl
  have i4 : ∀ w, (Instr.index 85 (.agg expCells) (.int .i64 4)).run Tryd.prog w = .ok (.agg #[.string ⟨#[73, 83, 75]⟩, .int .i64 0]) w := fun _ => by kernel_rfl
  have i5 : ∀ w, (Instr.index 85 (.agg expCells) (.int .i64 5)).run Tryd.prog w = .ok (.agg #[.string ⟨#[66, 72, 68]⟩, .int .i64 3]) w := fun _ => by kernel_rfl
  have i6 : ∀ w, (Instr.index 85 (.agg expCells) (.int .i64 6)).run Tryd.prog w = .ok (.agg #[.string ⟨#[75, 87, 68]⟩, .int .i64 3]) w := fun _ => by kernel_rfl
  have i7 : ∀ w, (Instr.index 85 (.agg expCells) (.int .i64 7)).run Tryd.prog w = .ok (.agg #[.string ⟨#[74, 79, 68]⟩, .int .i64 3]) w := fun _ => by kernel_rfl
  have i8 : ∀ w, (Instr.index 85 (.agg expCells) (.int .i64 8)).run Tryd.prog w = .ok (.agg #[.string ⟨#[79, 77, 82]⟩, .int .i64 3]) w := fun _ => by kernel_rfl
  have i9 : ∀ w, (Instr.index 85 (.agg expCells) (.int .i64 9)).run Tryd.prog w = .ok (.agg #[.string ⟨#[84, 78, 68]⟩, .int .i64 3]) w := fun _ => by kernel_rfl
  go_enter Tryd.func47, Tryd.ntmps47
  go_wp2_with fail
  with_reducible refine (CU.out _).mono ?_
  rintro x w1 ⟨rfl, rfl⟩
  go_wp2_with (refine wpList_load_row rfl 85 (Operand.global 2) rfl 2 rfl t expCells fr _ HG.out Tryd.underlying85 rfl KS ?_)
  refine wp_loop_rounds 11 ?_
  rw [rounds_succ]
  go_wp2
  rw [rounds_succ]
  go_wp2
  rw [rounds_succ]
  go_wp2
  rw [rounds_succ]
  go_wp2
  rw [rounds_succ]
  go_wp2
  rw [rounds_succ]
  go_wp2
  rw [rounds_succ]
  go_wp2
  rw [rounds_succ]
  go_wp2
  rw [rounds_succ]
  go_wp2
  go_ret2
  exact ⟨rfl, (by repeat (first | with_reducible exact Pushed.refl _ | with_reducible assumption | with_reducible refine Pushed.push ?_ _ | with_reducible refine Pushed.alloc ?_ _ | with_reducible refine Pushed.drewN ?_ _ | with_reducible refine Pushed.drew ?_))⟩
set_option maxRecDepth 8000 in
set_option maxHeartbeats 3200000 in
theorem exp_9 (w : World) (hE : ExpT w) : Calls Tryd.prog 47 #[.string ⟨#[84, 78, 68]⟩] w fun x w' => x = .returned (.tuple #[.int .i64 3, .bool true]) ∧ Pushed w w' := by
  have CU := Lib.hid (fun w => cur_yes ⟨#[84, 78, 68]⟩ (by decide) w)
  obtain ⟨t, fr, hg⟩ := hE
  have HG := Lib.hid hg
  clear hg
  have KS : (Tryd.prog.info? 85).map (·.size) = some expCells.size := by kernel_rfl
  have i0 : ∀ w, (Instr.index 85 (.agg expCells) (.int .i64 0)).run Tryd.prog w = .ok (.agg #[.string ⟨#[74, 80, 89]⟩, .int .i64 0]) w := fun _ => by kernel_rfl
  have i1 : ∀ w, (Instr.index 85 (.agg expCells) (.int .i64 1)).run Tryd.prog w = .ok (.agg #[.string ⟨#[75, 82, 87]⟩, .int .i64 0]) w := fun _ => by kernel_rfl
  have i2 : ∀ w, (Instr.index 85 (.agg expCells) (.int .i64 2)).run Tryd.prog w = .ok (.agg #[.string ⟨#[86, 78, 68]⟩, .int .i64 0]) w := fun _ => by kernel_rfl
  have i3 : ∀ w, (Instr.index 85 (.agg expCells) (.int .i64 3)).run Tryd.prog w = .ok (.agg #[.string ⟨#[67, 76, 80]⟩, .int .i64 0]) w := fun _ => by kernel_rfl
  have i4 : ∀ w, (Instr.index 85 (.agg expCells) (.int .i64 4)).run Tryd.prog w = .ok (.agg #[.string ⟨#[73, 83, 75]⟩, .int .i64 0]) w := fun _ => by kernel_rfl
  have i5 : ∀ w, (Instr.index 85 (.agg expCells) (.int .i64 5)).run Tryd.prog w = .ok (.agg #[.string ⟨#[66, 72, 68]⟩, .int .i64 3]) w := fun _ => by kernel_rfl
  have i6 : ∀ w, (Instr.index 85 (.agg expCells) (.int .i64 6)).run Tryd.prog w = .ok (.agg #[.string ⟨#[75, 87, 68]⟩, .int .i64 3]) w := fun _ => by kernel_rfl
  have i7 : ∀ w, (Instr.index 85 (.agg expCells) (.int .i64 7)).run Tryd.prog w = .ok (.agg #[.string ⟨#[74, 79, 68]⟩, .int .i64 3]) w := fun _ => by kernel_rfl
  have i8 : ∀ w, (Instr.index 85 (.agg expCells) (.int .i64 8)).run Tryd.prog w = .ok (.agg #[.string ⟨#[79, 77, 82]⟩, .int .i64 3]) w := fun _ => by kernel_rfl
  have i9 : ∀ w, (Instr.index 85 (.agg expCells) (.int .i64 9)).run Tryd.prog w = .ok (.agg #[.string ⟨#[84, 78, 68]⟩, .int .i64 3]) w := fun _ => by kernel_rfl
  go_enter Tryd.func47, Tryd.ntmps47
  go_wp2_with fail
  with_reducible refine (CU.out _).mono ?_
  rintro x w1 ⟨rfl, rfl⟩
  go_wp2_with (refine wpList_load_row rfl 85 (Operand.global 2) rfl 2 rfl t expCells fr _ HG.out Tryd.underlying85 rfl KS ?_)
  refine wp_loop_rounds 11 ?_
  rw [rounds_succ]
  go_wp2
  rw [rounds_succ]
  go_wp2
  rw [rounds_succ]
  go_wp2
  rw [rounds_succ]
  go_wp2
  rw [rounds_succ]
  go_wp2
  rw [rounds_succ]
  go_wp2
  rw [rounds_succ]
  go_wp2
  rw [rounds_succ]
  go_wp2
  rw [rounds_succ]
  go_wp2
  rw [rounds_succ]
  go_wp2
  go_ret2
  exact ⟨rfl, (by repeat (first | with_reducible exact Pushed.refl _ | with_reducible assumption | with_reducible refine Pushed.push ?_ _ | with_reducible refine Pushed.alloc ?_ _ | with_reducible refine Pushed.drewN ?_ _ | with_reducible refine Pushed.drew ?_))⟩
set_option maxRecDepth 8000 in
set_option maxHeartbeats 3200000 in
theorem exp_other (c : ByteArray) (hc : curP c) (n0 : c ≠ ⟨#[74, 80, 89]⟩) (n1 : c ≠ ⟨#[75, 82, 87]⟩) (n2 : c ≠ ⟨#[86, 78, 68]⟩) (n3 : c ≠ ⟨#[67, 76, 80]⟩) (n4 : c ≠ ⟨#[73, 83, 75]⟩) (n5 : c ≠ ⟨#[66, 72, 68]⟩) (n6 : c ≠ ⟨#[75, 87, 68]⟩) (n7 : c ≠ ⟨#[74, 79, 68]⟩) (n8 : c ≠ ⟨#[79, 77, 82]⟩) (n9 : c ≠ ⟨#[84, 78, 68]⟩) (w : World) (hE : ExpT w) : Calls Tryd.prog 47 #[.string c] w fun x w' => x = .returned (.tuple #[.int .i64 2, .bool true]) ∧ Pushed w w' := by
  have CU := Lib.hid (fun w => cur_yes c hc w)
  have m0 : (([74, 80, 89] : List UInt8) == c.toList) = false := by
    have h := str_ne (Ne.symm n0)
    rwa [ByteArray.toList_eq] at h
  have m1 : (([75, 82, 87] : List UInt8) == c.toList) = false := by
    have h := str_ne (Ne.symm n1)
    rwa [ByteArray.toList_eq] at h
  have m2 : (([86, 78, 68] : List UInt8) == c.toList) = false := by
    have h := str_ne (Ne.symm n2)
    rwa [ByteArray.toList_eq] at h
  have m3 : (([67, 76, 80] : List UInt8) == c.toList) = false := by
    have h := str_ne (Ne.symm n3)
    rwa [ByteArray.toList_eq] at h
  have m4 : (([73, 83, 75] : List UInt8) == c.toList) = false := by
    have h := str_ne (Ne.symm n4)
    rwa [ByteArray.toList_eq] at h
  have m5 : (([66, 72, 68] : List UInt8) == c.toList) = false := by
    have h := str_ne (Ne.symm n5)
    rwa [ByteArray.toList_eq] at h
  have m6 : (([75, 87, 68] : List UInt8) == c.toList) = false := by
    have h := str_ne (Ne.symm n6)
    rwa [ByteArray.toList_eq] at h
  have m7 : (([74, 79, 68] : List UInt8) == c.toList) = false := by
    have h := str_ne (Ne.symm n7)
    rwa [ByteArray.toList_eq] at h
  have m8 : (([79, 77, 82] : List UInt8) == c.toList) = false := by
    have h := str_ne (Ne.symm n8)
    rwa [ByteArray.toList_eq] at h
  have m9 : (([84, 78, 68] : List UInt8) == c.toList) = false := by
    have h := str_ne (Ne.symm n9)
    rwa [ByteArray.toList_eq] at h
  clear n0 n1 n2 n3 n4 n5 n6 n7 n8 n9 hc
  obtain ⟨t, fr, hg⟩ := hE
  have HG := Lib.hid hg
  clear hg
  have KS : (Tryd.prog.info? 85).map (·.size) = some expCells.size := by kernel_rfl
  have i0 : ∀ w, (Instr.index 85 (.agg expCells) (.int .i64 0)).run Tryd.prog w = .ok (.agg #[.string ⟨#[74, 80, 89]⟩, .int .i64 0]) w := fun _ => by kernel_rfl
  have i1 : ∀ w, (Instr.index 85 (.agg expCells) (.int .i64 1)).run Tryd.prog w = .ok (.agg #[.string ⟨#[75, 82, 87]⟩, .int .i64 0]) w := fun _ => by kernel_rfl
  have i2 : ∀ w, (Instr.index 85 (.agg expCells) (.int .i64 2)).run Tryd.prog w = .ok (.agg #[.string ⟨#[86, 78, 68]⟩, .int .i64 0]) w := fun _ => by kernel_rfl
  have i3 : ∀ w, (Instr.index 85 (.agg expCells) (.int .i64 3)).run Tryd.prog w = .ok (.agg #[.string ⟨#[67, 76, 80]⟩, .int .i64 0]) w := fun _ => by kernel_rfl
  have i4 : ∀ w, (Instr.index 85 (.agg expCells) (.int .i64 4)).run Tryd.prog w = .ok (.agg #[.string ⟨#[73, 83, 75]⟩, .int .i64 0]) w := fun _ => by kernel_rfl
  have i5 : ∀ w, (Instr.index 85 (.agg expCells) (.int .i64 5)).run Tryd.prog w = .ok (.agg #[.string ⟨#[66, 72, 68]⟩, .int .i64 3]) w := fun _ => by kernel_rfl
  have i6 : ∀ w, (Instr.index 85 (.agg expCells) (.int .i64 6)).run Tryd.prog w = .ok (.agg #[.string ⟨#[75, 87, 68]⟩, .int .i64 3]) w := fun _ => by kernel_rfl
  have i7 : ∀ w, (Instr.index 85 (.agg expCells) (.int .i64 7)).run Tryd.prog w = .ok (.agg #[.string ⟨#[74, 79, 68]⟩, .int .i64 3]) w := fun _ => by kernel_rfl
  have i8 : ∀ w, (Instr.index 85 (.agg expCells) (.int .i64 8)).run Tryd.prog w = .ok (.agg #[.string ⟨#[79, 77, 82]⟩, .int .i64 3]) w := fun _ => by kernel_rfl
  have i9 : ∀ w, (Instr.index 85 (.agg expCells) (.int .i64 9)).run Tryd.prog w = .ok (.agg #[.string ⟨#[84, 78, 68]⟩, .int .i64 3]) w := fun _ => by kernel_rfl
  go_enter Tryd.func47, Tryd.ntmps47
  go_wp2_with fail
  with_reducible refine (CU.out _).mono ?_
  rintro x w1 ⟨rfl, rfl⟩
  go_wp2_with (refine wpList_load_row rfl 85 (Operand.global 2) rfl 2 rfl t expCells fr _ HG.out Tryd.underlying85 rfl KS ?_)
  refine wp_loop_rounds 11 ?_
  rw [rounds_succ]
  go_wp2
  rw [rounds_succ]
  go_wp2
  rw [rounds_succ]
  go_wp2
  rw [rounds_succ]
  go_wp2
  rw [rounds_succ]
  go_wp2
  rw [rounds_succ]
  go_wp2
  rw [rounds_succ]
  go_wp2
  rw [rounds_succ]
  go_wp2
  rw [rounds_succ]
  go_wp2
  rw [rounds_succ]
  go_wp2
  rw [rounds_succ]
  go_wp2
  go_ret2
  exact ⟨rfl, (by repeat (first | with_reducible exact Pushed.refl _ | with_reducible assumption | with_reducible refine Pushed.push ?_ _ | with_reducible refine Pushed.alloc ?_ _ | with_reducible refine Pushed.drewN ?_ _ | with_reducible refine Pushed.drew ?_))⟩
/-- The number of places of a currency. -/
def expN (c : ByteArray) : Nat := if c = ⟨#[74, 80, 89]⟩ ∨ c = ⟨#[75, 82, 87]⟩ ∨ c = ⟨#[86, 78, 68]⟩ ∨ c = ⟨#[67, 76, 80]⟩ ∨ c = ⟨#[73, 83, 75]⟩ then 0 else if c = ⟨#[66, 72, 68]⟩ ∨ c = ⟨#[75, 87, 68]⟩ ∨ c = ⟨#[74, 79, 68]⟩ ∨ c = ⟨#[79, 77, 82]⟩ ∨ c = ⟨#[84, 78, 68]⟩ then 3 else 2
theorem expN_le (c : ByteArray) : expN c ≤ 3 := by unfold expN; split <;> (try split) <;> omega
theorem exp_any (c : ByteArray) (hc : curP c) (w : World) (hE : ExpT w) : Calls Tryd.prog 47 #[.string c] w fun x w' => x = .returned (.tuple #[.int .i64 (expN c : Int), .bool true]) ∧ Pushed w w' := by
  by_cases n0 : c = ⟨#[74, 80, 89]⟩
  · subst n0
    have h := exp_0 w hE
    exact h
  by_cases n1 : c = ⟨#[75, 82, 87]⟩
  · subst n1
    have h := exp_1 w hE
    exact h
  by_cases n2 : c = ⟨#[86, 78, 68]⟩
  · subst n2
    have h := exp_2 w hE
    exact h
  by_cases n3 : c = ⟨#[67, 76, 80]⟩
  · subst n3
    have h := exp_3 w hE
    exact h
  by_cases n4 : c = ⟨#[73, 83, 75]⟩
  · subst n4
    have h := exp_4 w hE
    exact h
  by_cases n5 : c = ⟨#[66, 72, 68]⟩
  · subst n5
    have h := exp_5 w hE
    exact h
  by_cases n6 : c = ⟨#[75, 87, 68]⟩
  · subst n6
    have h := exp_6 w hE
    exact h
  by_cases n7 : c = ⟨#[74, 79, 68]⟩
  · subst n7
    have h := exp_7 w hE
    exact h
  by_cases n8 : c = ⟨#[79, 77, 82]⟩
  · subst n8
    have h := exp_8 w hE
    exact h
  by_cases n9 : c = ⟨#[84, 78, 68]⟩
  · subst n9
    have h := exp_9 w hE
    exact h
  have h := exp_other c hc n0 n1 n2 n3 n4 n5 n6 n7 n8 n9 w hE
  have e : expN c = 2 := by
    unfold expN
    rw [if_neg (by simp [n0, n1, n2, n3, n4]), if_neg (by simp [n5, n6, n7, n8, n9])]
  rw [e]
  exact h
end Go.Proofs.YtompkkanckejjaaDoor
