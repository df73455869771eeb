/-
  CONTRACTS of dates: the examples.
-/
import Derived.Test.YtaagifggeafgnaaDoorC12
namespace Go.Proofs.YtaagifggeafgnaaDoor
open Go.RowKit Go.Maps
set_option linter.unusedVariables false
set_option linter.unusedSimpArgs false
theorem ints_one (z : Int) (w : World) : Ints (w.alloc (.cells #[.int .i64 z] 3)) (w.alloc (.cells #[.int .i64 z] 3)).heap.size (some ⟨w.heap.size, 0, none⟩) 1 [z] := by
  refine ⟨rfl, fun _ => ⟨_, rfl, by simp, fun j u hu => ?_⟩⟩
  match j, hu with
  | 0, hu => simp at hu; subst hu; simp [Addr.add]
def S4 : Int → Bool := fun z => ([4] : List Int).contains z
theorem x_of1 (w : World) (hM : Mth w) : Calls Tryd.prog 9 #[.int .i64 1970, .int .i64 3, .int .i64 1] w fun e w' => e = .returned (.tuple #[.int .i64 59, .int .i64 0]) ∧ w = w' :=
  (of_ok 1970 3 1 (by decide) (by decide) (by decide) (by decide) (by decide) (by decide) (by decide) w hM).mono fun e w' h => ⟨h.1.trans (by rfl), h.2⟩
theorem x_of2 (w : World) (hM : Mth w) : Calls Tryd.prog 9 #[.int .i64 2100, .int .i64 2, .int .i64 29] w fun e w' => e = .returned (.tuple #[.int .i64 0, .int .i64 4]) ∧ w = w' :=
  of_bad 2100 2 29 (by intro h; exact absurd h.2.2.2.2.2 (by decide)) w hM
theorem x_wd (w : World) : Calls Tryd.prog 15 #[.int .i64 0] w fun e w' => e = .returned (.int .i64 3) ∧ w = w' := wday_ok 0 (by decide) w
theorem isD59 : IsD 59 1970 3 1 := ⟨by decide, by decide, by decide, by decide, by decide, by decide⟩
theorem fmt59 : fmtS 1970 3 1 = ⟨#[49, 57, 55, 48, 45, 48, 51, 45, 48, 49]⟩ := by decide +kernel
theorem x_fmt (w : World) (hM : Mth w) (hT : Pow w) (hw : 4 ≤ w.heap.size) : Calls Tryd.prog 17 #[.int .i64 59] w fun e w' => e = .returned (.string ⟨#[49, 57, 55, 48, 45, 48, 51, 45, 48, 49]⟩) ∧ Below w.heap.size w w' := by
  have := fmt_ok isD59 (by decide) w hM hT hw
  rw [fmt59] at this
  exact this
theorem next25 : IsNext S4 2 5 := ⟨by decide, by decide, fun j h1 h2 => by
  rcases (show j = 2 ∨ j = 3 ∨ j = 4 by omega) with rfl | rfl | rfl <;> decide⟩
theorem x_new (w : World) : Calls Tryd.prog 26 #[.slice (some ⟨w.heap.size, 0, none⟩) 1 1] (w.alloc (.cells #[.int .i64 4] 3)) fun e w' => e = .returned (.tuple #[.pointer (some ⟨w.heap.size + 2, 0, none⟩), .int .i64 0]) ∧ CalAt w' (w.heap.size + 2) (w.heap.size + 1) 1 S4 ∧ Below w.heap.size w w' := by
  refine (new_ok _ 1 1 [4] _ (ints_one 4 w) (by decide) (by decide) (fun k hk z hz => ?_)).mono ?_
  · obtain rfl : k = 0 := by omega
    simp at hz
    subst hz
    decide
  · rintro e w' ⟨rfl, hC, hB⟩
    have e1 : (w.alloc (.cells #[.int .i64 4] 3)).heap.size = w.heap.size + 1 := by simp
    rw [e1] at hC hB ⊢
    exact ⟨rfl, hC, ((Below.refl _ _).alloc (Nat.le_refl _) _).trans (hB.mono (Nat.le_succ _))⟩
theorem x_next {w : World} {c m n : Nat} (hC : CalAt w c m n S4) : Calls Tryd.prog 28 #[.pointer (some ⟨c, 0, none⟩), .int .i64 2] w fun e w' => e = .returned (.tuple #[.int .i64 5, .int .i64 0]) ∧ w = w' := next_ok hC next25
theorem x_count {w : World} {c m n : Nat} (hC : CalAt w c m n S4) : Calls Tryd.prog 30 #[.pointer (some ⟨c, 0, none⟩), .int .i64 0, .int .i64 7] w fun e w' => e = .returned (.int .i64 4) ∧ w = w' :=
  (count_ok hC (a := 0) (b := 7) (by decide) (by decide)).mono fun e w' h => ⟨h.1.trans (ret_int (by decide +kernel)), h.2⟩
theorem x_biz {w : World} {c m n : Nat} (hC : CalAt w c m n S4) : Calls Tryd.prog 29 #[.pointer (some ⟨c, 0, none⟩), .int .i64 4] w fun e w' => e = .returned (.bool false) ∧ w = w' :=
  (biz_any hC 4 (by decide)).mono fun e w' h => ⟨h.1.trans (ret_bool (by decide)), h.2⟩
set_option maxHeartbeats 1600000 in
theorem awake_any (w : World) (hM : Mth w) (hT : Pow w) (hw : 4 ≤ w.heap.size) : Calls Tryd.prog 19 #[] w fun e w' => e = .returned (.bool true) ∧ Below w.heap.size w w' := by
  go_enter Tryd.func19, Tryd.ntmps19
  go_wp2_with fail
  refine (x_of1 w hM).mono ?_
  rintro e w' ⟨rfl, rfl⟩
  go_wp2_with fail
  refine (x_of2 w hM).mono ?_
  rintro e w' ⟨rfl, rfl⟩
  go_wp2_with fail
  refine (x_new w).mono ?_
  rintro e w1 ⟨rfl, hC, hB1⟩
  have HM1 := Lib.hid (hM.later hB1 hw)
  have HT1 := Lib.hid (hT.later hB1 hw)
  have hw1 := Nat.le_trans hw hB1.size
  go_wp2_with fail
  refine (x_wd w1).mono ?_
  rintro e w' ⟨rfl, rfl⟩
  go_wp2_with fail
  refine (x_fmt w1 HM1.out HT1.out hw1).mono ?_
  rintro e w2 ⟨rfl, hB2⟩
  have hC2 := Lib.hid (hC.later hB2)
  have HB2 := Lib.hid (hB1.trans (hB2.mono hB1.size))
  clear hB1 hB2 hC
  go_wp2_with fail
  refine (x_next hC2.out).mono ?_
  rintro e w' ⟨rfl, rfl⟩
  go_wp2_with fail
  refine (x_count hC2.out).mono ?_
  rintro e w' ⟨rfl, rfl⟩
  go_wp2_with fail
  refine (x_biz hC2.out).mono ?_
  rintro e w' ⟨rfl, rfl⟩
  go_wp2
  go_ret
  exact ⟨rfl, HB2.out⟩
end Go.Proofs.YtaagifggeafgnaaDoor
