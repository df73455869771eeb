/-
  CONTRACTS of a card's Do at any event, of its State, and of Use where the card is not active.
-/
import Derived.Test.YtacdfhgamjinbabCard5
namespace Go.Proofs.Ytacdfhgamjinbab
open Go.RowKit
set_option linter.unusedVariables false
def doS (st x : Int) : Int := if nextE st x = 0 then nextS st x else st
section
variable (g : Nat) (w : World) (nm : ByteArray) (xp st ld ls lc d s c : Int)
set_option maxHeartbeats 800000 in
theorem do_err (ev e0 : Int) (h1 : nextE st ev = e0) (h2 : (e0 != 0) = true) (hb : Blk w g 57 #[.string nm, .int .i64 xp, .int .i64 st, .int .i64 ld, .int .i64 ls, .int .i64 lc, .int .i64 d, .int .i64 s, .int .i64 c]) :
    Calls Try.prog 20 #[.pointer (some ⟨g, 0, none⟩), .int .i64 ev] w fun e w' => e = .returned (.int .i64 e0) ∧ Blk w' g 57 #[.string nm, .int .i64 xp, .int .i64 st, .int .i64 ld, .int .i64 ls, .int .i64 lc, .int .i64 d, .int .i64 s, .int .i64 c] ∧ Near w g w' := by
  have c0 := hb.cell 0
  have c1 := hb.cell 1
  have c2 := hb.cell 2
  have c3 := hb.cell 3
  have c4 := hb.cell 4
  have c5 := hb.cell 5
  have c6 := hb.cell 6
  have c7 := hb.cell 7
  have c8 := hb.cell 8
  have cf := hb.frozen
  have hg := hb.lt
  simp only [List.getElem?_toArray, List.getElem?_cons_zero, List.getElem?_cons_succ] at c0 c1 c2 c3 c4 c5 c6 c7 c8
  have HB := Lib.hid hb
  clear hb
  go_enter Try.func20, Try.ntmps20
  go_wp2_with (first | (go_at_call 18; refine (next_any _ _ _).mono ?_; rintro e w1 ⟨rfl, rfl⟩))
  go_ret
  exact ⟨rfl, (by
    have h := (HB.out)
    repeat (first | with_reducible exact h | with_reducible refine Blk.push ?_ _ | with_reducible refine Blk.alloc ?_ _ | with_reducible refine Blk.drewN ?_ _ | with_reducible refine Blk.drew ?_)), (by repeat (first | with_reducible exact Near.refl _ _ | with_reducible refine Near.push ?_ _ | with_reducible refine Near.alloc ?_ _ | with_reducible refine Near.drewN ?_ _ | with_reducible refine Near.drew ?_ | with_reducible refine Near.setCell ?_ _ _))⟩
set_option maxHeartbeats 800000 in
theorem state_is (hb : Blk w g 57 #[.string nm, .int .i64 xp, .int .i64 st, .int .i64 ld, .int .i64 ls, .int .i64 lc, .int .i64 d, .int .i64 s, .int .i64 c]) :
    Calls Try.prog 12 #[.pointer (some ⟨g, 0, none⟩)] w fun e w' => e = .returned (.int .i64 st) ∧ w = w' := by
  have c0 := hb.cell 0
  have c1 := hb.cell 1
  have c2 := hb.cell 2
  have c3 := hb.cell 3
  have c4 := hb.cell 4
  have c5 := hb.cell 5
  have c6 := hb.cell 6
  have c7 := hb.cell 7
  have c8 := hb.cell 8
  have cf := hb.frozen
  have hg := hb.lt
  simp only [List.getElem?_toArray, List.getElem?_cons_zero, List.getElem?_cons_succ] at c0 c1 c2 c3 c4 c5 c6 c7 c8
  have HB := Lib.hid hb
  clear hb
  go_enter Try.func12, Try.ntmps12
  go_wp2_with (first | fail)
  go_ret
  exact ⟨rfl, rfl⟩
set_option maxHeartbeats 800000 in
theorem usable_no (date : Int) (hs : (st != 2) = true) (hb : Blk w g 57 #[.string nm, .int .i64 xp, .int .i64 st, .int .i64 ld, .int .i64 ls, .int .i64 lc, .int .i64 d, .int .i64 s, .int .i64 c]) :
    Calls Try.prog 31 #[.pointer (some ⟨g, 0, none⟩), .int .i64 date] w fun e w' => e = .returned (.int .i64 17) ∧ w = w' := by
  have c0 := hb.cell 0
  have c1 := hb.cell 1
  have c2 := hb.cell 2
  have c3 := hb.cell 3
  have c4 := hb.cell 4
  have c5 := hb.cell 5
  have c6 := hb.cell 6
  have c7 := hb.cell 7
  have c8 := hb.cell 8
  have cf := hb.frozen
  have hg := hb.lt
  simp only [List.getElem?_toArray, List.getElem?_cons_zero, List.getElem?_cons_succ] at c0 c1 c2 c3 c4 c5 c6 c7 c8
  have HB := Lib.hid hb
  clear hb
  go_enter Try.func31, Try.ntmps31
  go_wp2_with (first | (go_at_call 25; refine (isDate_any _ _).mono ?_; rintro e w1 ⟨rfl, rfl⟩))
  go_ret
  exact ⟨rfl, rfl⟩
set_option maxHeartbeats 800000 in
theorem use_card (date n : Int) (hs : (st != 2) = true) (hb : Blk w g 57 #[.string nm, .int .i64 xp, .int .i64 st, .int .i64 ld, .int .i64 ls, .int .i64 lc, .int .i64 d, .int .i64 s, .int .i64 c]) :
    Calls Try.prog 21 #[.pointer (some ⟨g, 0, none⟩), .int .i64 date, .int .i64 n] w fun e w' => e = .returned (.int .i64 17) ∧ Blk w' g 57 #[.string nm, .int .i64 xp, .int .i64 st, .int .i64 ld, .int .i64 ls, .int .i64 lc, .int .i64 d, .int .i64 s, .int .i64 c] ∧ Near w g w' := by
  have c0 := hb.cell 0
  have c1 := hb.cell 1
  have c2 := hb.cell 2
  have c3 := hb.cell 3
  have c4 := hb.cell 4
  have c5 := hb.cell 5
  have c6 := hb.cell 6
  have c7 := hb.cell 7
  have c8 := hb.cell 8
  have cf := hb.frozen
  have hg := hb.lt
  simp only [List.getElem?_toArray, List.getElem?_cons_zero, List.getElem?_cons_succ] at c0 c1 c2 c3 c4 c5 c6 c7 c8
  have HB := Lib.hid hb
  clear hb
  go_enter Try.func21, Try.ntmps21
  go_wp2_with (first | (go_at_call 31; refine (usable_no _ _ _ _ _ _ _ _ _ _ _ _ hs HB.out).mono ?_; rintro e w1 ⟨rfl, rfl⟩))
  go_ret
  exact ⟨rfl, (by
    have h := (HB.out)
    repeat (first | with_reducible exact h | with_reducible refine Blk.push ?_ _ | with_reducible refine Blk.alloc ?_ _ | with_reducible refine Blk.drewN ?_ _ | with_reducible refine Blk.drew ?_)), (by repeat (first | with_reducible exact Near.refl _ _ | with_reducible refine Near.push ?_ _ | with_reducible refine Near.alloc ?_ _ | with_reducible refine Near.drewN ?_ _ | with_reducible refine Near.drew ?_ | with_reducible refine Near.setCell ?_ _ _))⟩
theorem do_is {e0 s1 : Int} (ev : Int) (he : Hid (e0 = nextE st ev)) (h1 : Hid (s1 = doS st ev)) (hb : Blk w g 57 #[.string nm, .int .i64 xp, .int .i64 st, .int .i64 ld, .int .i64 ls, .int .i64 lc, .int .i64 d, .int .i64 s, .int .i64 c]) :
    Calls Try.prog 20 #[.pointer (some ⟨g, 0, none⟩), .int .i64 ev] w fun e w' => e = .returned (.int .i64 e0) ∧ Blk w' g 57 #[.string nm, .int .i64 xp, .int .i64 s1, .int .i64 ld, .int .i64 ls, .int .i64 lc, .int .i64 d, .int .i64 s, .int .i64 c] ∧ Near w g w' := by
  have hs := h1.out
  unfold doS at hs
  by_cases h0 : nextE st ev = 0
  · rw [if_pos h0] at hs
    subst hs
    have he0 : e0 = 0 := he.out.trans h0
    subst he0
    exact do_ok g w nm xp st ld ls lc d s c ev _ rfl h0 hb
  · rw [if_neg h0] at hs
    rw [hs]
    exact do_err g w nm xp st ld ls lc d s c ev e0 he.out.symm (by rw [he.out]; simp [h0]) hb
end
theorem do_facts {st x : Int} (h : 1 ≤ st ∧ st ≤ 4) (hx : 1 ≤ x ∧ x ≤ 4) : (1 ≤ doS st x ∧ doS st x ≤ 4) ∧ (st = 4 → nextE st x = 8 ∧ doS st x = 4) ∧ (st ≠ 4 → (doS st x = 4 ↔ x = 4)) := by
  unfold doS nextE nextS
  (repeat' split) <;> omega
end Go.Proofs.Ytacdfhgamjinbab
