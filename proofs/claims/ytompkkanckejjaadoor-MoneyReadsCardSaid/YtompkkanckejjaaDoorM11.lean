/-
  CONTRACTS of amounts: the split of 100 into three equal parts.
-/
import Derived.Test.YtompkkanckejjaaDoorM10
namespace Go.Proofs.YtompkkanckejjaaDoor
open Go.RowKit
set_option linter.unusedVariables false
set_option linter.unusedSimpArgs false
def W3 (w : World) (a : Nat) : Prop := w.cell? ⟨a, 0, none⟩ = some (.int .i64 1) ∧ w.cell? ⟨a, 1, none⟩ = some (.int .i64 1) ∧ w.cell? ⟨a, 2, none⟩ = some (.int .i64 1)
set_option maxHeartbeats 1600000 in
theorem tot3 (a : Nat) (w : World) (hP : W3 w a) : Calls Tryd.prog 42 #[.slice (some ⟨a, 0, none⟩) 3 3] w fun x w' => x = .returned (.tuple #[.int .u64 3, .bool true]) ∧ w = w' := by
  obtain ⟨a0, a1, a2⟩ := hP
  go_enter Tryd.func42, Tryd.ntmps42
  go_wp2
  refine wp_loop_rounds 4 ?_
  rw [rounds_succ]
  go_wp2
  rw [rounds_succ]
  go_wp2
  rw [rounds_succ]
  go_wp2
  rw [rounds_succ]
  go_wp2
  go_ret2
  exact ⟨rfl, rfl⟩
theorem m100 : mchkR 100 ⟨#[85, 83, 68]⟩ = 0 := by decide
def R3 (w : World) (r : Nat) : Prop := w.cell? ⟨r, 0, none⟩ = some (.int .i64 34) ∧ w.cell? ⟨r, 1, none⟩ = some (.string ⟨#[85, 83, 68]⟩) ∧ w.cell? ⟨r, 2, none⟩ = some (.int .i64 33) ∧ w.cell? ⟨r, 3, none⟩ = some (.string ⟨#[85, 83, 68]⟩) ∧ w.cell? ⟨r, 4, none⟩ = some (.int .i64 33) ∧ w.cell? ⟨r, 5, none⟩ = some (.string ⟨#[85, 83, 68]⟩)
/-- The three parts, in a block of their own. -/
def Split3 (w : World) (e : Ending) (w' : World) : Prop := ∃ r : Nat, e = .returned (.tuple #[.slice (some ⟨r, 0, none⟩) 3 3, .int .i64 0]) ∧ Below w.heap.size w w' ∧ r < w'.heap.size ∧ R3 w' r
set_option maxRecDepth 8000 in
set_option maxHeartbeats 3200000 in
theorem split3 (a : Nat) (w : World) (ha : a < w.heap.size) (hP : W3 w a) : Calls Tryd.prog 21 #[.agg #[.int .i64 100, .string ⟨#[85, 83, 68]⟩], .slice (some ⟨a, 0, none⟩) 3 3] w (Split3 w) := by
  have CK := Lib.hid (fun w => mchk_any 100 ⟨#[85, 83, 68]⟩ (by decide) (Lib.hid m100) w)
  have MG : Hid (∀ w, Calls Tryd.prog 37 #[.int .i64 100] w fun x w' => x = .returned (.int .u64 100) ∧ Pushed w w') := Lib.hid (fun w => mag_pos 100 (by decide) w)
  have TT := Lib.hid (fun w h => tot3 a w h)
  have MM : Hid (∀ w, Calls Tryd.prog 36 #[.int .u64 100, .int .u64 1] w fun x w' => x = .returned (.tuple #[.int .u64 0, .int .u64 100]) ∧ w' = w) := Lib.hid (fun w => Tryd.bits_Mul64 100 1 (by decide) (by decide) w)
  have DV : Hid (∀ w, Calls Tryd.prog 38 #[.int .u64 0, .int .u64 100, .int .u64 3] w fun x w' => x = .returned (.tuple #[.int .u64 33, .int .u64 1]) ∧ Pushed w w') := Lib.hid (fun w => div64_wide 100 3 (by decide) (by decide) w)
  have mk1 : ∀ w : World, (Instr.makeSlice 64 (.int .i64 3) (.int .i64 3)).run Tryd.prog w = .ok (.slice (some ⟨w.heap.size, 0, none⟩) 3 3) (w.alloc (.cells #[.int .i64 0, .int .u64 0, .int .u64 0, .int .i64 0, .int .u64 0, .int .u64 0, .int .i64 0, .int .u64 0, .int .u64 0] 66)) := fun _ => by kernel_rfl
  have mk2 : ∀ w : World, (Instr.makeSlice 35 (.int .i64 3) (.int .i64 3)).run Tryd.prog w = .ok (.slice (some ⟨w.heap.size, 0, none⟩) 3 3) (w.alloc (.cells #[.int .i64 0, .string ⟨#[]⟩, .int .i64 0, .string ⟨#[]⟩, .int .i64 0, .string ⟨#[]⟩] 23)) := fun _ => by kernel_rfl
  have ga0 : a < w.heap.size + 1 := by intros; omega
  have ga1 : ∀ x : Nat, a < w.heap.size + 1 + x := by intros; omega
  have ga2 : ∀ x y : Nat, a < w.heap.size + 1 + x + y := by intros; omega
  have ga3 : ∀ x y z : Nat, a < w.heap.size + 1 + x + y + z := by intros; omega
  have ga4 : ∀ x y z u : Nat, a < w.heap.size + 1 + x + y + z + u := by intros; omega
  have ga5 : ∀ x y z u v : Nat, a < w.heap.size + 1 + x + y + z + u + v := by intros; omega
  have ga6 : ∀ x y z u v t : Nat, a < w.heap.size + 1 + x + y + z + u + v + t := by intros; omega
  have ga7 : ∀ x y z u v t s : Nat, a < w.heap.size + 1 + x + y + z + u + v + t + s := by intros; omega
  have ST := Lib.hid (fun (g : Nat) (w : World) (hg : g < w.heap.size) (hP : P9 w g) {q : Nat} (hq : g = q) => hq ▸ stable3 g w hg hP)
  have HP := Lib.hid hP
  obtain ⟨a0, a1, a2⟩ := hP
  go_enter Tryd.func21, Tryd.ntmps21
  go_wp2_with fail
  with_reducible refine (CK.out _).mono ?_
  rintro x w1 ⟨rfl, l0, n0, rfl⟩
  go_wp2_with fail
  refine (TT.out _ ?_).mono ?_
  · refine ⟨?_, ?_, ?_⟩ <;> go_simp
  rintro x w1 ⟨rfl, rfl⟩
  go_wp2_with fail
  with_reducible refine (MG.out _).mono ?_
  rintro x w1 ⟨rfl, l1, n1, rfl⟩
  go_wp2
  refine wp_loop_rounds 4 ?_
  rw [rounds_succ]
  go_wp2_with fail
  with_reducible refine (MM.out _).mono ?_
  rintro x w1 ⟨rfl, rfl⟩
  go_wp2_with fail
  with_reducible refine (DV.out _).mono ?_
  rintro x w1 ⟨rfl, l2, n2, rfl⟩
  go_wp2
  rw [rounds_succ]
  go_wp2_with fail
  with_reducible refine (MM.out _).mono ?_
  rintro x w1 ⟨rfl, rfl⟩
  go_wp2_with fail
  with_reducible refine (DV.out _).mono ?_
  rintro x w1 ⟨rfl, l3, n3, rfl⟩
  go_wp2
  rw [rounds_succ]
  go_wp2_with fail
  with_reducible refine (MM.out _).mono ?_
  rintro x w1 ⟨rfl, rfl⟩
  go_wp2_with fail
  with_reducible refine (DV.out _).mono ?_
  rintro x w1 ⟨rfl, l4, n4, rfl⟩
  go_wp2
  rw [rounds_succ]
  go_wp2_with fail
  clear ga0 ga1 ga2 ga3 ga4 ga5 ga6 ga7 a0 a1 a2 HP MM DV MG TT CK mk1
  obtain ⟨g, hg⟩ : ∃ g, g = w.heap.size + 1 + (l0.length + l1.length) := ⟨_, rfl⟩
  refine (ST.out g _ ?_ ?_ hg).mono ?_
  · subst hg; simp [size_push]; omega
  · subst hg; refine ⟨?_, ?_, ?_, ?_, ?_, ?_, ?_, ?_, ?_⟩ <;> go_simp
  rintro x w5 ⟨rfl, hb⟩
  have HB := Lib.hid ((Pushed.below (w := w) (by repeat (first | with_reducible exact Pushed.refl _ | with_reducible refine Pushed.push ?_ _ | with_reducible refine Pushed.alloc ?_ _ | with_reducible refine Pushed.drewN ?_ _ | with_reducible refine Pushed.drew ?_))).trans (hb.mono (Pushed.below (w := w) (by repeat (first | with_reducible exact Pushed.refl _ | with_reducible refine Pushed.push ?_ _ | with_reducible refine Pushed.alloc ?_ _ | with_reducible refine Pushed.drewN ?_ _ | with_reducible refine Pushed.drew ?_))).size))
  have hz : g < w5.heap.size := by have := hb.size; simp [size_push] at this; omega
  obtain ⟨e0, e1, e2, e3, e4, e5, e6, e7, e8⟩ : P9 w5 g := by
    refine P9.later (w := _) ?_ ?_ hb
    · subst hg; refine ⟨?_, ?_, ?_, ?_, ?_, ?_, ?_, ?_, ?_⟩ <;> go_simp
    · subst hg; simp [size_push]; omega
  have m0 : w5.cell? ⟨w.heap.size, 0, none⟩ = some (.int .i64 100) := by
    rw [hb.cell (by simp [size_push]; omega)]; go_simp
  have m1 : w5.cell? ⟨w.heap.size, 1, none⟩ = some (.string ⟨#[85, 83, 68]⟩) := by
    rw [hb.cell (by simp [size_push]; omega)]; go_simp
  have hzw : w.heap.size < w5.heap.size := by omega
  rw [← hg]
  clear hb hg
  have ya1 : g < w5.heap.size + 1 := by omega
  have yan1 : ¬ g = w5.heap.size := by omega
  have ya2 : g < w5.heap.size + 1 + 1 := by omega
  have yan2 : ¬ g = w5.heap.size + 1 := by omega
  have ya3 : g < w5.heap.size + 1 + 1 + 1 := by omega
  have yan3 : ¬ g = w5.heap.size + 1 + 1 := by omega
  have ya4 : g < w5.heap.size + 1 + 1 + 1 + 1 := by omega
  have yan4 : ¬ g = w5.heap.size + 1 + 1 + 1 := by omega
  have ya5 : g < w5.heap.size + 1 + 1 + 1 + 1 + 1 := by omega
  have yan5 : ¬ g = w5.heap.size + 1 + 1 + 1 + 1 := by omega
  have yb1 : w.heap.size < w5.heap.size + 1 := by omega
  have ybn1 : ¬ w.heap.size = w5.heap.size := by omega
  have yb2 : w.heap.size < w5.heap.size + 1 + 1 := by omega
  have ybn2 : ¬ w.heap.size = w5.heap.size + 1 := by omega
  have yb3 : w.heap.size < w5.heap.size + 1 + 1 + 1 := by omega
  have ybn3 : ¬ w.heap.size = w5.heap.size + 1 + 1 := by omega
  have yb4 : w.heap.size < w5.heap.size + 1 + 1 + 1 + 1 := by omega
  have ybn4 : ¬ w.heap.size = w5.heap.size + 1 + 1 + 1 := by omega
  have yb5 : w.heap.size < w5.heap.size + 1 + 1 + 1 + 1 + 1 := by omega
  have ybn5 : ¬ w.heap.size = w5.heap.size + 1 + 1 + 1 + 1 := by omega
  go_wp2
  refine wp_loop_rounds 4 ?_
  rw [rounds_succ]
  go_wp2
  rw [rounds_succ]
  go_wp2
  rw [rounds_succ]
  go_wp2
  rw [rounds_succ]
  go_wp2
  go_ret2
  exact ⟨_, rfl, (by repeat (first | with_reducible exact HB.out | with_reducible refine Below.drew ?_ | with_reducible refine bel_alloc ?_ _ | with_reducible refine bel_drewN ?_ _)), by simp; try omega, by refine ⟨?_, ?_, ?_, ?_, ?_, ?_⟩ <;> go_simp⟩
end Go.Proofs.YtompkkanckejjaaDoor
