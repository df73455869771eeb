/-
  CONTRACTS of amounts: the chapter's examples of texts.
-/
import Derived.Test.YtompkkanckejjaaDoorMFmt
namespace Go.Proofs.YtompkkanckejjaaDoor
open Go.RowKit
set_option linter.unusedVariables false
set_option linter.unusedSimpArgs false
set_option maxRecDepth 8000 in
set_option maxHeartbeats 3200000 in
theorem ud_a (w : World) : Calls Tryd.prog 50 #[.string ⟨#[49, 50, 46, 51, 52]⟩, .int .i64 2] w fun x w' => x = .returned (.tuple #[.string ⟨#[49, 50, 51, 52]⟩, .bool true]) ∧ Pushed w w' := by
  have D1 := Lib.hid (fun w => digits_yes ⟨#[51, 52]⟩ (by decide) (by decide) (by unfold Dgs dgAt; decide) w)
  have D2 := Lib.hid (fun w => digits_yes ⟨#[49, 50]⟩ (by decide) (by decide) (by unfold Dgs dgAt; decide) w)
  have i1 : ∀ w, (Instr.index 9 (.string ⟨#[49, 50, 46, 51, 52]⟩) (.int .i64 2)).run Tryd.prog w = .ok (.int .u8 46) w := fun _ => by kernel_rfl
  have i2 : ∀ w, (Instr.index 9 (.string ⟨#[49, 50]⟩) (.int .i64 0)).run Tryd.prog w = .ok (.int .u8 49) w := fun _ => by kernel_rfl
  have s1 : ∀ w, (Instr.slice 9 (.string ⟨#[49, 50, 46, 51, 52]⟩) none (some (.int .i64 2)) none).run Tryd.prog w = .ok (.string ⟨#[49, 50]⟩) w := fun _ => by kernel_rfl
  have s2 : ∀ w, (Instr.slice 9 (.string ⟨#[49, 50, 46, 51, 52]⟩) (some (.int .i64 3)) none none).run Tryd.prog w = .ok (.string ⟨#[51, 52]⟩) w := fun _ => by kernel_rfl
  go_enter Tryd.func50, Tryd.ntmps50
  go_wp2_with fail
  go_quiet (fail)
  go_wp2_with fail
  with_reducible refine (D1.out _).mono ?_
  rintro x w1 ⟨rfl, rfl⟩
  go_wp2_with fail
  with_reducible refine (D2.out _).mono ?_
  rintro x w1 ⟨rfl, rfl⟩
  go_wp2
  go_ret2
  exact ⟨rfl, (by repeat (first | with_reducible exact Pushed.refl _ | with_reducible assumption | with_reducible refine Pushed.push ?_ _ | with_reducible refine Pushed.alloc ?_ _ | with_reducible refine Pushed.drewN ?_ _ | with_reducible refine Pushed.drew ?_))⟩
set_option maxRecDepth 8000 in
set_option maxHeartbeats 3200000 in
theorem sat_a (w : World) : Calls Tryd.prog 51 #[.string ⟨#[49, 50, 51, 52]⟩] w fun x w' => x = .returned (.int .i64 1234) ∧ w = w' := by
  have i0 : ∀ w, (Instr.index 9 (.string ⟨#[49, 50, 51, 52]⟩) (.int .i64 0)).run Tryd.prog w = .ok (.int .u8 49) w := fun _ => by kernel_rfl
  have i1 : ∀ w, (Instr.index 9 (.string ⟨#[49, 50, 51, 52]⟩) (.int .i64 1)).run Tryd.prog w = .ok (.int .u8 50) w := fun _ => by kernel_rfl
  have i2 : ∀ w, (Instr.index 9 (.string ⟨#[49, 50, 51, 52]⟩) (.int .i64 2)).run Tryd.prog w = .ok (.int .u8 51) w := fun _ => by kernel_rfl
  have i3 : ∀ w, (Instr.index 9 (.string ⟨#[49, 50, 51, 52]⟩) (.int .i64 3)).run Tryd.prog w = .ok (.int .u8 52) w := fun _ => by kernel_rfl
  go_enter Tryd.func51, Tryd.ntmps51
  go_wp2
  refine wp_loop_rounds 5 ?_
  rw [rounds_succ]
  go_wp2
  rw [rounds_succ]
  go_wp2
  rw [rounds_succ]
  go_wp2
  rw [rounds_succ]
  go_wp2
  rw [rounds_succ]
  go_wp2
  go_ret
  exact ⟨rfl, rfl⟩
set_option maxRecDepth 8000 in
set_option maxHeartbeats 3200000 in
theorem ud_b (w : World) : Calls Tryd.prog 50 #[.string ⟨#[48, 46, 48, 48]⟩, .int .i64 2] w fun x w' => x = .returned (.tuple #[.string ⟨#[48, 48, 48]⟩, .bool true]) ∧ Pushed w w' := by
  have D1 := Lib.hid (fun w => digits_yes ⟨#[48, 48]⟩ (by decide) (by decide) (by unfold Dgs dgAt; decide) w)
  have D2 := Lib.hid (fun w => digits_yes ⟨#[48]⟩ (by decide) (by decide) (by unfold Dgs dgAt; decide) w)
  have i1 : ∀ w, (Instr.index 9 (.string ⟨#[48, 46, 48, 48]⟩) (.int .i64 1)).run Tryd.prog w = .ok (.int .u8 46) w := fun _ => by kernel_rfl
  have i2 : ∀ w, (Instr.index 9 (.string ⟨#[48]⟩) (.int .i64 0)).run Tryd.prog w = .ok (.int .u8 48) w := fun _ => by kernel_rfl
  have s1 : ∀ w, (Instr.slice 9 (.string ⟨#[48, 46, 48, 48]⟩) none (some (.int .i64 1)) none).run Tryd.prog w = .ok (.string ⟨#[48]⟩) w := fun _ => by kernel_rfl
  have s2 : ∀ w, (Instr.slice 9 (.string ⟨#[48, 46, 48, 48]⟩) (some (.int .i64 2)) none none).run Tryd.prog w = .ok (.string ⟨#[48, 48]⟩) w := fun _ => by kernel_rfl
  go_enter Tryd.func50, Tryd.ntmps50
  go_wp2_with fail
  go_quiet (fail)
  go_wp2_with fail
  with_reducible refine (D1.out _).mono ?_
  rintro x w1 ⟨rfl, rfl⟩
  go_wp2_with fail
  with_reducible refine (D2.out _).mono ?_
  rintro x w1 ⟨rfl, rfl⟩
  go_wp2
  go_ret2
  exact ⟨rfl, (by repeat (first | with_reducible exact Pushed.refl _ | with_reducible assumption | with_reducible refine Pushed.push ?_ _ | with_reducible refine Pushed.alloc ?_ _ | with_reducible refine Pushed.drewN ?_ _ | with_reducible refine Pushed.drew ?_))⟩
set_option maxRecDepth 8000 in
set_option maxHeartbeats 3200000 in
theorem sat_b (w : World) : Calls Tryd.prog 51 #[.string ⟨#[48, 48, 48]⟩] w fun x w' => x = .returned (.int .i64 0) ∧ w = w' := by
  have i0 : ∀ w, (Instr.index 9 (.string ⟨#[48, 48, 48]⟩) (.int .i64 0)).run Tryd.prog w = .ok (.int .u8 48) w := fun _ => by kernel_rfl
  have i1 : ∀ w, (Instr.index 9 (.string ⟨#[48, 48, 48]⟩) (.int .i64 1)).run Tryd.prog w = .ok (.int .u8 48) w := fun _ => by kernel_rfl
  have i2 : ∀ w, (Instr.index 9 (.string ⟨#[48, 48, 48]⟩) (.int .i64 2)).run Tryd.prog w = .ok (.int .u8 48) w := fun _ => by kernel_rfl
  go_enter Tryd.func51, Tryd.ntmps51
  go_wp2
  refine wp_loop_rounds 4 ?_
  rw [rounds_succ]
  go_wp2
  rw [rounds_succ]
  go_wp2
  rw [rounds_succ]
  go_wp2
  rw [rounds_succ]
  go_wp2
  go_ret
  exact ⟨rfl, rfl⟩
set_option maxRecDepth 8000 in
set_option maxHeartbeats 3200000 in
theorem parse_a (w : World) (hE : ExpT w) (hw : 6 ≤ w.heap.size) : Calls Tryd.prog 28 #[.string ⟨#[45, 49, 50, 46, 51, 52, 32, 85, 83, 68]⟩] w fun x w' => x = .returned (.tuple #[.agg #[.int .i64 (-1234), .string ⟨#[85, 83, 68]⟩], .int .i64 0]) ∧ Pushed w w' := by
  have EX : Hid (∀ w', Below w.heap.size w w' → Calls Tryd.prog 47 #[.string ⟨#[85, 83, 68]⟩] w' fun x w'' => x = .returned (.tuple #[.int .i64 2, .bool true]) ∧ Pushed w' w'') := Lib.hid fun w' hb => exp_any ⟨#[85, 83, 68]⟩ (by decide) w' (hE.later hb hw)
  have CP : Hid (∀ w, Calls Tryd.prog 49 #[.string ⟨#[45, 49, 50, 46, 51, 52]⟩, .string ⟨#[45]⟩] w fun x w' => x = .returned (.tuple #[.string ⟨#[49, 50, 46, 51, 52]⟩, .bool true]) ∧ w' = w) := Lib.hid fun w => Tryd.strings_CutPrefix ⟨#[45, 49, 50, 46, 51, 52]⟩ ⟨#[45]⟩ w
  have UD := Lib.hid (fun w => ud_a w)
  have SA := Lib.hid (fun w => sat_a w)
  have VD := Lib.hid (fun w => valid_ok (-1234) ⟨#[85, 83, 68]⟩ (by decide) (Lib.hid (by decide)) w)
  have i1 : ∀ w, (Instr.index 9 (.string ⟨#[45, 49, 50, 46, 51, 52, 32, 85, 83, 68]⟩) (.int .i64 6)).run Tryd.prog w = .ok (.int .u8 32) w := fun _ => by kernel_rfl
  have s1 : ∀ w, (Instr.slice 9 (.string ⟨#[45, 49, 50, 46, 51, 52, 32, 85, 83, 68]⟩) (some (.int .i64 7)) none none).run Tryd.prog w = .ok (.string ⟨#[85, 83, 68]⟩) w := fun _ => by kernel_rfl
  have s2 : ∀ w, (Instr.slice 9 (.string ⟨#[45, 49, 50, 46, 51, 52, 32, 85, 83, 68]⟩) none (some (.int .i64 6)) none).run Tryd.prog w = .ok (.string ⟨#[45, 49, 50, 46, 51, 52]⟩) w := fun _ => by kernel_rfl
  clear hE hw
  go_enter Tryd.func28, Tryd.ntmps28
  go_wp2_with fail
  refine (EX.out _ (Pushed.below (by repeat (first | with_reducible exact Pushed.refl _ | with_reducible assumption | with_reducible refine Pushed.push ?_ _ | with_reducible refine Pushed.alloc ?_ _ | with_reducible refine Pushed.drewN ?_ _ | with_reducible refine Pushed.drew ?_)))).mono ?_
  rintro x w1 ⟨rfl, l0, n0, rfl⟩
  go_wp2_with fail
  with_reducible refine (CP.out _).mono ?_
  rintro x w1 ⟨rfl, rfl⟩
  go_wp2_with fail
  with_reducible refine (UD.out _).mono ?_
  rintro x w1 ⟨rfl, l1, n1, rfl⟩
  go_wp2_with fail
  with_reducible refine (SA.out _).mono ?_
  rintro x w1 ⟨rfl, rfl⟩
  go_wp2_with fail
  with_reducible refine (VD.out _).mono ?_
  rintro x w1 ⟨rfl, l2, n2, rfl⟩
  go_wp2
  exact bodyPost_ret (v := .tuple #[.agg #[.int .i64 (-1234), .string ⟨#[85, 83, 68]⟩], .int .i64 0]) (by simp [results, Tryd.results28, go_sem]) rfl ⟨rfl, (by repeat (first | with_reducible exact Pushed.refl _ | with_reducible assumption | with_reducible refine Pushed.push ?_ _ | with_reducible refine Pushed.alloc ?_ _ | with_reducible refine Pushed.drewN ?_ _ | with_reducible refine Pushed.drew ?_))⟩
set_option maxRecDepth 8000 in
set_option maxHeartbeats 3200000 in
theorem parse_b (w : World) (hE : ExpT w) (hw : 6 ≤ w.heap.size) : Calls Tryd.prog 28 #[.string ⟨#[45, 48, 46, 48, 48, 32, 85, 83, 68]⟩] w fun x w' => x = .returned (.tuple #[.agg #[.int .i64 (0), .string ⟨#[]⟩], .int .i64 2]) ∧ Pushed w w' := by
  have EX : Hid (∀ w', Below w.heap.size w w' → Calls Tryd.prog 47 #[.string ⟨#[85, 83, 68]⟩] w' fun x w'' => x = .returned (.tuple #[.int .i64 2, .bool true]) ∧ Pushed w' w'') := Lib.hid fun w' hb => exp_any ⟨#[85, 83, 68]⟩ (by decide) w' (hE.later hb hw)
  have CP : Hid (∀ w, Calls Tryd.prog 49 #[.string ⟨#[45, 48, 46, 48, 48]⟩, .string ⟨#[45]⟩] w fun x w' => x = .returned (.tuple #[.string ⟨#[48, 46, 48, 48]⟩, .bool true]) ∧ w' = w) := Lib.hid fun w => Tryd.strings_CutPrefix ⟨#[45, 48, 46, 48, 48]⟩ ⟨#[45]⟩ w
  have UD := Lib.hid (fun w => ud_b w)
  have SA := Lib.hid (fun w => sat_b w)
  have i1 : ∀ w, (Instr.index 9 (.string ⟨#[45, 48, 46, 48, 48, 32, 85, 83, 68]⟩) (.int .i64 5)).run Tryd.prog w = .ok (.int .u8 32) w := fun _ => by kernel_rfl
  have s1 : ∀ w, (Instr.slice 9 (.string ⟨#[45, 48, 46, 48, 48, 32, 85, 83, 68]⟩) (some (.int .i64 6)) none none).run Tryd.prog w = .ok (.string ⟨#[85, 83, 68]⟩) w := fun _ => by kernel_rfl
  have s2 : ∀ w, (Instr.slice 9 (.string ⟨#[45, 48, 46, 48, 48, 32, 85, 83, 68]⟩) none (some (.int .i64 5)) none).run Tryd.prog w = .ok (.string ⟨#[45, 48, 46, 48, 48]⟩) w := fun _ => by kernel_rfl
  clear hE hw
  go_enter Tryd.func28, Tryd.ntmps28
  go_wp2_with fail
  refine (EX.out _ (Pushed.below (by repeat (first | with_reducible exact Pushed.refl _ | with_reducible assumption | with_reducible refine Pushed.push ?_ _ | with_reducible refine Pushed.alloc ?_ _ | with_reducible refine Pushed.drewN ?_ _ | with_reducible refine Pushed.drew ?_)))).mono ?_
  rintro x w1 ⟨rfl, l0, n0, rfl⟩
  go_wp2_with fail
  with_reducible refine (CP.out _).mono ?_
  rintro x w1 ⟨rfl, rfl⟩
  go_wp2_with fail
  with_reducible refine (UD.out _).mono ?_
  rintro x w1 ⟨rfl, l1, n1, rfl⟩
  go_wp2_with fail
  with_reducible refine (SA.out _).mono ?_
  rintro x w1 ⟨rfl, rfl⟩
  go_wp2
  exact bodyPost_ret (v := .tuple #[.agg #[.int .i64 (0), .string ⟨#[]⟩], .int .i64 2]) (by simp [results, Tryd.results28, go_sem]) rfl ⟨rfl, (by repeat (first | with_reducible exact Pushed.refl _ | with_reducible assumption | with_reducible refine Pushed.push ?_ _ | with_reducible refine Pushed.alloc ?_ _ | with_reducible refine Pushed.drewN ?_ _ | with_reducible refine Pushed.drew ?_))⟩
set_option maxRecDepth 8000 in
set_option maxHeartbeats 3200000 in
theorem fmt_a (w : World) (hE : ExpT w) (hP : Pow w) (hw : 6 ≤ w.heap.size) : Calls Tryd.prog 27 #[.agg #[.int .i64 5, .string ⟨#[66, 72, 68]⟩]] w fun x w' => x = .returned (.string ⟨#[48, 46, 48, 48, 53, 32, 66, 72, 68]⟩) ∧ Below w.heap.size w w' := by
  have CK := Lib.hid (fun w => mchk_any 5 ⟨#[66, 72, 68]⟩ (by decide) (Lib.hid (show mchkR 5 ⟨#[66, 72, 68]⟩ = 0 by decide)) w)
  have EX : Hid (∀ w', Below w.heap.size w w' → Calls Tryd.prog 47 #[.string ⟨#[66, 72, 68]⟩] w' fun x w'' => x = .returned (.tuple #[.int .i64 3, .bool true]) ∧ Pushed w' w'') := Lib.hid fun w' hb => exp_any ⟨#[66, 72, 68]⟩ (by decide) w' (hE.later hb hw)
  have MG : Hid (∀ w, Calls Tryd.prog 37 #[.int .i64 5] w fun x w' => x = .returned (.int .u64 5) ∧ Pushed w w') := Lib.hid (fun w => mag_pos 5 (by decide) w)
  have FU : Hid (∀ w', Below w.heap.size w w' → Calls Tryd.prog 48 #[.int .u64 5, .int .i64 10] w' fun x w'' => x = .returned (.string ⟨#[53]⟩) ∧ Below w'.heap.size w' w'') := Lib.hid fun w' hb => by
    have h := fmt10_any 5 (by decide) w' (hP.later hb hw)
    rw [show decS 5 (Lib.nDigits 5) = ⟨#[53]⟩ by decide +kernel] at h
    exact h
  have s1 : ∀ w, (Instr.slice 9 (.string ⟨#[48, 48, 48, 53]⟩) none (some (.int .i64 1)) none).run Tryd.prog w = .ok (.string ⟨#[48]⟩) w := fun _ => by kernel_rfl
  have s2 : ∀ w, (Instr.slice 9 (.string ⟨#[48, 48, 48, 53]⟩) (some (.int .i64 1)) none none).run Tryd.prog w = .ok (.string ⟨#[48, 48, 53]⟩) w := fun _ => by kernel_rfl
  have HW := Lib.hid hw
  clear hE hP hw
  go_enter Tryd.func27, Tryd.ntmps27
  go_wp2_with fail
  with_reducible refine (CK.out _).mono ?_
  rintro x w1 ⟨rfl, l0, n0, rfl⟩
  go_wp2_with fail
  refine (EX.out _ (Pushed.below (by repeat (first | with_reducible exact Pushed.refl _ | with_reducible assumption | with_reducible refine Pushed.push ?_ _ | with_reducible refine Pushed.alloc ?_ _ | with_reducible refine Pushed.drewN ?_ _ | with_reducible refine Pushed.drew ?_)))).mono ?_
  rintro x w1 ⟨rfl, l1, n1, rfl⟩
  go_wp2_with fail
  with_reducible refine (MG.out _).mono ?_
  rintro x w1 ⟨rfl, l2, n2, rfl⟩
  go_wp2_with fail
  refine (FU.out _ (Pushed.below (by repeat (first | with_reducible exact Pushed.refl _ | with_reducible assumption | with_reducible refine Pushed.push ?_ _ | with_reducible refine Pushed.alloc ?_ _ | with_reducible refine Pushed.drewN ?_ _ | with_reducible refine Pushed.drew ?_)))).mono ?_
  rintro x w2 ⟨rfl, hb⟩
  have HB := Lib.hid ((Pushed.below (w := w) (by repeat (first | with_reducible exact Pushed.refl _ | with_reducible assumption | with_reducible refine Pushed.push ?_ _ | with_reducible refine Pushed.alloc ?_ _ | with_reducible refine Pushed.drewN ?_ _ | with_reducible refine Pushed.drew ?_))).trans (hb.mono (Pushed.below (w := w) (by repeat (first | with_reducible exact Pushed.refl _ | with_reducible assumption | with_reducible refine Pushed.push ?_ _ | with_reducible refine Pushed.alloc ?_ _ | with_reducible refine Pushed.drewN ?_ _ | with_reducible refine Pushed.drew ?_))).size))
  have m0 : w2.cell? ⟨w.heap.size, 0, none⟩ = some (.int .i64 5) := by
    rw [hb.cell (by simp [size_push]; try omega)]; go_simp
  have m1 : w2.cell? ⟨w.heap.size, 1, none⟩ = some (.string ⟨#[66, 72, 68]⟩) := by
    rw [hb.cell (by simp [size_push]; try omega)]; go_simp
  clear hb
  go_wp2
  refine wp_loop_rounds 4 ?_
  rw [rounds_succ]
  go_wp2
  rw [rounds_succ]
  go_wp2
  rw [rounds_succ]
  go_wp2
  rw [rounds_succ]
  go_wp2
  go_ret
  exact ⟨rfl, HB.out⟩
end Go.Proofs.YtompkkanckejjaaDoor
