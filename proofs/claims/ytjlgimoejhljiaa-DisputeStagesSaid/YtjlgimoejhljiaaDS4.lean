/-
  CONTRACTS of dispute: New and find of the example.
-/
import Derived.Test.YtjlgimoejhljiaaDS3
namespace Go.Proofs.Ytjlgimoejhljiaa
open Go.RowKit
set_option linter.unusedVariables false
set_option linter.unusedSimpArgs false
set_option maxHeartbeats 1000000
set_option maxRecDepth 5000
theorem clone_none (w : World) : Calls Try.prog 27 #[.slice none 0 0] w fun e w' => e = .returned (.slice none 0 0) ∧ w' = w := by
  have hq : ∀ w, Sem.run Try.prog (binOp BinOp.eql 32 (.slice none 0 0) (.slice none 0 0)) w = .ok (.bool true) w := fun w => by kernel_rfl
  go_enter Try.func27, Try.ntmps27
  go_wp2
  go_ret
  exact ⟨rfl, rfl⟩
theorem indexf (f : Value) (w : World) : Calls Try.prog 25 #[.slice none 0 0, f] w fun e w' => e = .returned (.int .i64 (-1)) ∧ w' = w := by
  go_enter Try.func25, Try.ntmps25
  go_wp2
  refine wp_loop_rounds 1 ?_
  rw [rounds_succ]
  go_wp2
  exact bodyPost_ret (v := .int .i64 (-1)) (by simp [results, Try.results25, go_sem]) rfl ⟨rfl, rfl⟩
theorem creason (w : World) : Calls Try.prog 24 #[.agg RC] w fun e w' => e = .returned (.agg RC) ∧ Below w.heap.size w w' := by
  go_enter Try.func24, Try.ntmps24
  go_wp2
  have hB : Below w.heap.size w ((w.alloc (.cells RC 34)).alloc (.cells #[.string ⟨#[]⟩, .int .i64 0, .int .i64 0, .int .i64 0, .int .i64 0, .slice none 0 0, .slice none 0 0] 34)) := balloc (balloc (Below.refl _ _) _) _
  have hb : Blk ((w.alloc (.cells RC 34)).alloc (.cells #[.string ⟨#[]⟩, .int .i64 0, .int .i64 0, .int .i64 0, .int .i64 0, .slice none 0 0, .slice none 0 0] 34)) w.heap.size 34 RC := (Blk.new w 34 RC).alloc _
  have hd : Blk ((w.alloc (.cells RC 34)).alloc (.cells #[.string ⟨#[]⟩, .int .i64 0, .int .i64 0, .int .i64 0, .int .i64 0, .slice none 0 0, .slice none 0 0] 34)) (w.heap.size + 1) 34 #[.string ⟨#[]⟩, .int .i64 0, .int .i64 0, .int .i64 0, .int .i64 0, .slice none 0 0, .slice none 0 0] := by
    have := Blk.new (w.alloc (.cells RC 34)) 34 #[.string ⟨#[]⟩, .int .i64 0, .int .i64 0, .int .i64 0, .int .i64 0, .slice none 0 0, .slice none 0 0]
    simpa using this
  generalize ((w.alloc (.cells RC 34)).alloc (.cells #[.string ⟨#[]⟩, .int .i64 0, .int .i64 0, .int .i64 0, .int .i64 0, .slice none 0 0, .slice none 0 0] 34)) = V at *
  have b0 := hb.cell 0
  have b1 := hb.cell 1
  have b2 := hb.cell 2
  have b3 := hb.cell 3
  have b4 := hb.cell 4
  have b5 := hb.cell 5
  have b6 := hb.cell 6
  simp at b0 b1 b2 b3 b4 b5 b6
  have bf0 := hb.frozen 0
  have bf1 := hb.frozen 1
  have bf2 := hb.frozen 2
  have bf3 := hb.frozen 3
  have bf4 := hb.frozen 4
  have bf5 := hb.frozen 5
  have bf6 := hb.frozen 6
  have d0 := hd.cell 0
  have d1 := hd.cell 1
  have d2 := hd.cell 2
  have d3 := hd.cell 3
  have d4 := hd.cell 4
  have d5 := hd.cell 5
  have d6 := hd.cell 6
  simp at d0 d1 d2 d3 d4 d5 d6
  have df0 := hd.frozen 0
  have df1 := hd.frozen 1
  have df2 := hd.frozen 2
  have df3 := hd.frozen 3
  have df4 := hd.frozen 4
  have df5 := hd.frozen 5
  have df6 := hd.frozen 6
  have hltb := hb.lt
  have hltd := hd.lt
  go_region_with (first | ((with_reducible refine (clone_none _).mono ?_); rintro e w1 ⟨rfl, rfl⟩))
  all_goals
    go_wp2_with fail
    refine world_of (fun W => Blk W (w.heap.size + 1) 34 RC ∧ Below w.heap.size w W) ⟨(by
      have h0 : Blk (V.setCell ⟨w.heap.size, 5, none⟩ (.slice none 0 0)) (w.heap.size + 1) 34 #[.string ⟨#[]⟩, .int .i64 0, .int .i64 0, .int .i64 0, .int .i64 0, .slice none 0 0, .slice none 0 0] := hd.far (by dsimp only; omega) _
      have h1 := ((((((((h0.far (p := ⟨w.heap.size, 6, none⟩) (by dsimp only; omega) (.slice none 0 0)).set_ 0 (.string ⟨#[102, 114, 97, 117, 100]⟩)).set_ 1 (.int .i64 120)).set_ 2 (.int .i64 45)).set_ 3 (.int .i64 30)).set_ 4 (.int .i64 30)).set_ 5 (.slice none 0 0)).set_ 6 (.slice none 0 0)).drew
      exact h1), (by (repeat (first | with_reducible assumption | with_reducible refine Below.drew ?_ | with_reducible refine bset ?_ ?_ _ | with_reducible refine balloc ?_ _)) <;> (dsimp only; omega))⟩ ?_
    rintro W ⟨hR, hBW2⟩
    have q0 := hR.cell 0
    have q1 := hR.cell 1
    have q2 := hR.cell 2
    have q3 := hR.cell 3
    have q4 := hR.cell 4
    have q5 := hR.cell 5
    have q6 := hR.cell 6
    simp at q0 q1 q2 q3 q4 q5 q6
    exact bodyPost_ret (v := .agg RC) (by simp [results, Try.results24, go_sem, q0, q1, q2, q3, q4, q5, q6]) rfl ⟨rfl, hBW2⟩
theorem each_one (g : Nat) (w : World) (hb : Blk w g 34 RC) : Calls Try.prog 23 #[.slice (some ⟨g, 0, none⟩) 1 1, .func (Fn.func 24) #[] #[]] w fun e w' => (∃ b k, e = .returned (.slice (some ⟨b, 0, none⟩) 1 k)) ∧ Below w.heap.size w w' := by
  have hlt := hb.lt
  have b0 := hb.cell 0
  have b1 := hb.cell 1
  have b2 := hb.cell 2
  have b3 := hb.cell 3
  have b4 := hb.cell 4
  have b5 := hb.cell 5
  have b6 := hb.cell 6
  simp at b0 b1 b2 b3 b4 b5 b6
  have bf0 := hb.frozen 0
  have bf1 := hb.frozen 1
  have bf2 := hb.frozen 2
  have bf3 := hb.frozen 3
  have bf4 := hb.frozen 4
  have bf5 := hb.frozen 5
  have bf6 := hb.frozen 6
  go_enter Try.func23, Try.ntmps23
  go_wp2
  refine wp_loop_rounds 2 ?_
  rw [rounds_succ]
  go_wp2_with (go_at_call 24; refine (creason _).mono ?_; rintro e w1 ⟨rfl, hb1⟩; have hB1 : Below w.heap.size w w1 := (balloc (Below.refl _ _) _).trans (hb1.mono (by simp)); clear hb1)
  rw [rounds_succ]
  go_wp2
  go_ret
  exact ⟨⟨_, _, rfl⟩, (by repeat (first | with_reducible assumption | with_reducible refine Below.drew ?_ | with_reducible refine balloc ?_ _))⟩
end Go.Proofs.Ytjlgimoejhljiaa
