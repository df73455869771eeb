/-
  CONTRACTS of velocity: the examples.
-/
import Derived.Test.YtkfiekpinojahabVK6
namespace Go.Proofs.Ytkfiekpinojahab
open Go.RowKit
set_option linter.unusedVariables false
set_option linter.unusedSimpArgs false
theorem add_eq {K D : Nat} {v : Value} {s s' : VS} {w : World} (hr : Rep w K D v s) {k : ByteArray} {at_ m : Int} (ok : AddOk s k at_ m) (hfull : s.us.length - oldS s.us (at_ - s.hor) < 1000) (hS : addS s k at_ m = s') : Calls Try.prog 10 #[.pointer (some ⟨D, 0, none⟩), .string k, .int .i64 at_, .int .i64 m] w fun e w' => e = .returned (.int .i64 0) ∧ ∃ v', Left w w' K D v v' s' := by
  subst hS
  exact add_ok hr k at_ m ok hfull
theorem forget_eq {K D : Nat} {v : Value} {s s' : VS} {w : World} (hr : Rep w K D v s) (at_ : Int) (h0 : 0 ≤ at_) (hM : at_ ≤ 1099511627776) {c : Nat} {x : Int} (hc : oldS s.us (at_ - s.hor) = c) (hx : (c : Int) = x) (hS : { s with us := s.us.drop c } = s') : Calls Try.prog 18 #[.pointer (some ⟨D, 0, none⟩), .int .i64 at_] w fun e w' => e = .returned (.int .i64 x) ∧ ∃ v', Left w w' K D v v' s' := by
  subst hS hx
  exact forget_any hr at_ h0 hM hc
set_option maxRecDepth 5000 in
set_option maxHeartbeats 1600000 in
theorem awake_any (w : World) : Calls Try.prog 7 #[] w fun e w' => e = .returned (.bool true) ∧ Below w.heap.size w w' := by
  go_enter Try.func7, Try.ntmps7
  go_wp2_with fail
  refine (new_any 100 (by omega) (by omega) _ (Nat.le_refl _)).mono ?_
  rintro e w1 ⟨D, rfl, hr, hB⟩
  have HL := Lib.hid (Left.same hr (Below.refl _ _))
  have HR := Lib.hid hr
  have HB := Lib.hid hB
  clear hr hB
  go_wp2_with fail
  refine (add_eq (s' := (⟨100, 10, [⟨⟨#[107]⟩, 10, 5⟩]⟩ : VS)) HL.out.rep ⟨by decide, by decide, by decide, by decide, by decide, by decide, by decide⟩ (by decide) (by kernel_rfl)).mono ?_
  rintro e w2 ⟨rfl, v2, hL⟩
  have HL2 := Lib.hid (HL.out.trans hL)
  clear HL hL
  have HL := HL2
  clear HL2
  go_wp2_with fail
  refine (add_eq (s' := (⟨100, 20, [⟨⟨#[107]⟩, 10, 5⟩, ⟨⟨#[107]⟩, 20, 7⟩]⟩ : VS)) HL.out.rep ⟨by decide, by decide, by decide, by decide, by decide, by decide, by decide⟩ (by decide) (by kernel_rfl)).mono ?_
  rintro e w2 ⟨rfl, v2, hL⟩
  have HL2 := Lib.hid (HL.out.trans hL)
  clear HL hL
  have HL := HL2
  clear HL2
  go_wp2_with fail
  refine (count_any HL.out.rep _ 20 10 (by decide) (by decide) (c := 1) (by kernel_rfl)).mono ?_
  rintro e w2 ⟨rfl, hL⟩
  have HL2 := Lib.hid (HL.out.trans hL)
  clear HL hL
  have HL := HL2
  clear HL2
  go_wp2_with fail
  refine (count_any HL.out.rep _ 20 11 (by decide) (by decide) (c := 2) (by kernel_rfl)).mono ?_
  rintro e w2 ⟨rfl, hL⟩
  have HL2 := Lib.hid (HL.out.trans hL)
  clear HL hL
  have HL := HL2
  clear HL2
  go_wp2_with fail
  refine (sum_any HL.out.rep _ 29 10 (by decide) (by decide) (c := 7) (by kernel_rfl)).mono ?_
  rintro e w2 ⟨rfl, hL⟩
  have HL2 := Lib.hid (HL.out.trans hL)
  clear HL hL
  have HL := HL2
  clear HL2
  go_wp2_with fail
  refine (count_any HL.out.rep _ 30 10 (by decide) (by decide) (c := 0) (by kernel_rfl)).mono ?_
  rintro e w2 ⟨rfl, hL⟩
  have HL2 := Lib.hid (HL.out.trans hL)
  clear HL hL
  have HL := HL2
  clear HL2
  go_wp2_with fail
  refine (forget_eq (s' := (⟨100, 20, [⟨⟨#[107]⟩, 20, 7⟩]⟩ : VS)) HL.out.rep 110 (by decide) (by decide) (c := 1) (x := 1) (by kernel_rfl) rfl (by kernel_rfl)).mono ?_
  rintro e w2 ⟨rfl, v2, hL⟩
  have HL2 := Lib.hid (HL.out.trans hL)
  clear HL hL
  have HL := HL2
  clear HL2
  go_wp2_with fail
  refine (len_any HL.out.rep (c := 1) rfl).mono ?_
  rintro e w2 ⟨rfl, hL⟩
  have HL2 := Lib.hid (HL.out.trans hL)
  clear HL hL
  have HL := HL2
  clear HL2
  go_wp2_with fail
  go_ret
  exact ⟨rfl, HB.out.trans (HL.out.below HR.out (Nat.le_refl _) HB.out.size)⟩
end Go.Proofs.Ytkfiekpinojahab
