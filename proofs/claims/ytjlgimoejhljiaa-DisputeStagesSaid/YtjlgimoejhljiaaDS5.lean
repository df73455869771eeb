/-
  CONTRACTS of dispute: New, Step of the example.
-/
import Derived.Test.YtjlgimoejhljiaaDS4
namespace Go.Proofs.Ytjlgimoejhljiaa
open Go.RowKit
set_option linter.unusedVariables false
set_option linter.unusedSimpArgs false
set_option maxHeartbeats 1000000
set_option maxRecDepth 5000
theorem reasons_ex (g : Nat) (w : World) (hb : Blk w g 34 RC) : Calls Try.prog 13 #[.slice (some ⟨g, 0, none⟩) 1 1] w fun e w' => (∃ b k, e = .returned (.slice (some ⟨b, 0, none⟩) 1 k)) ∧ Below w.heap.size w w' := by
  go_enter Try.func13, Try.ntmps13
  go_wp2_with fail
  refine (each_one g _ hb).mono ?_
  rintro e w1 ⟨⟨b, k, rfl⟩, hb1⟩
  go_wp2_with fail
  go_ret
  exact ⟨⟨_, _, rfl⟩, hb1⟩
theorem new_ex (g : Nat) (w : World) (hb : Blk w g 34 RC) : Calls Try.prog 10 #[.slice (some ⟨g, 0, none⟩) 1 1] w fun e w' => ∃ b v k, e = .returned (.tuple #[.pointer (some ⟨b, 0, none⟩), .int .i64 0]) ∧ Blk w' b 41 #[.slice (some ⟨v, 0, none⟩) 1 k, .slice none 0 0] ∧ Below w.heap.size w w' := by
  go_enter Try.func10, Try.ntmps10
  go_wp2_with fail
  refine (check_ex g _ hb).mono ?_
  rintro e w1 ⟨rfl, hb1⟩
  go_wp2_with fail
  have hb2 := hb.below hb1 hb.lt
  refine (reasons_ex g _ hb2).mono ?_
  rintro e w2 ⟨⟨b, k, rfl⟩, hb3⟩
  go_wp2_with fail
  go_ret2
  exact ⟨_, b, k, rfl, Blk.new w2 41 _, (hb1.trans (hb3.mono hb1.size)).alloc (hb1.trans (hb3.mono hb1.size)).size _⟩
theorem find_ex (b v : Nat) (k : Nat) (s : ByteArray) (w : World) (hb : Blk w b 41 #[.slice (some ⟨v, 0, none⟩) 1 k, .slice none 0 0]) : Calls Try.prog 14 #[.pointer (some ⟨b, 0, none⟩), .string s] w fun e w' => e = .returned (.tuple #[.pointer none, .bool false]) ∧ Below w.heap.size w w' := by
  have hlt := hb.lt
  have d1 := hb.cell 1
  simp at d1
  go_enter Try.func14, Try.ntmps14
  go_wp2_with (go_at_call 25; refine (indexf _ _).mono ?_; rintro e w1 ⟨rfl, rfl⟩)
  exact bodyPost_ret (v := .tuple #[.pointer none, .bool false]) (by simp [results, Try.results14, go_sem]) rfl ⟨rfl, balloc (Below.refl _ _) _⟩
theorem step_ex (b v : Nat) (k : Nat) (s : ByteArray) (ev date : Int) (w : World) (hb : Blk w b 41 #[.slice (some ⟨v, 0, none⟩) 1 k, .slice none 0 0]) : Calls Try.prog 11 #[.pointer (some ⟨b, 0, none⟩), .string s, .int .i64 ev, .int .i64 date, .slice none 0 0] w fun e w' => e = .returned (.int .i64 6) ∧ Below w.heap.size w w' := by
  go_enter Try.func11, Try.ntmps11
  go_wp2_with fail
  refine (find_ex b v k _ _ hb).mono ?_
  rintro e w1 ⟨rfl, hb1⟩
  go_wp2_with fail
  go_ret
  exact ⟨rfl, hb1⟩
theorem awake_any (w : World) : Calls Try.prog 8 #[] w fun e w' => e = .returned (.bool true) ∧ Below w.heap.size w w' := by
  go_enter Try.func8, Try.ntmps8
  go_wp2_with fail
  refine (n11 _).mono ?_
  rintro e w1 ⟨rfl, rfl⟩
  go_wp2_with fail
  refine (n54 _).mono ?_
  rintro e w1 ⟨rfl, rfl⟩
  go_wp2_with fail
  refine (n71 _).mono ?_
  rintro e w1 ⟨rfl, rfl⟩
  go_wp2_with fail
  refine (new_ex _ _ (Blk.new w 34 RC)).mono ?_
  rintro e w1 ⟨b, v, k, rfl, hb1, hB1⟩
  have hB2 : Below w.heap.size w w1 := (balloc (Below.refl _ _) _).trans (hB1.mono (by simp))
  clear hB1
  go_wp2_with (first | ((with_reducible refine (turn_any _ _).mono ?_); rintro e w1 ⟨rfl, rfl⟩) | ((with_reducible refine (step_ex b v k _ _ _ _ hb1).mono ?_); rintro e w2 ⟨rfl, hB3⟩))
  go_ret
  exact ⟨rfl, hB2.trans (hB3.mono hB2.size)⟩
end Go.Proofs.Ytjlgimoejhljiaa
