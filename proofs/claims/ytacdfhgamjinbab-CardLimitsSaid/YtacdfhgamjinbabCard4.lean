/-
  CONTRACTS of a card's Undo and New, and of the examples that every statement of this package reckons again ('awake').
-/
import Derived.Test.YtacdfhgamjinbabCard3
namespace Go.Proofs.Ytacdfhgamjinbab
open Go.RowKit
set_option linter.unusedVariables false
section
variable (g : Nat) (w : World) (nm : ByteArray) (xp st ld ls lc d s c : Int)
set_option maxHeartbeats 800000 in
theorem undo_time (date n : Int) (h2 : okAmt n = true) (hk : date < d) (hs : (d == -1) = false) (hb : Blk w g 57 #[.string nm, .int .i64 xp, .int .i64 st, .int .i64 ld, .int .i64 ls, .int .i64 lc, .int .i64 d, .int .i64 s, .int .i64 c]) :
    Calls Try.prog 23 #[.pointer (some ⟨g, 0, none⟩), .int .i64 date, .int .i64 n] w fun e w' => e = .returned (.int .i64 14) ∧ Blk w' g 57 #[.string nm, .int .i64 xp, .int .i64 st, .int .i64 ld, .int .i64 ls, .int .i64 lc, .int .i64 d, .int .i64 s, .int .i64 c] ∧ Near w g w' := by
  have c0 := hb.cell 0
  have c1 := hb.cell 1
  have c2 := hb.cell 2
  have c3 := hb.cell 3
  have c4 := hb.cell 4
  have c5 := hb.cell 5
  have c6 := hb.cell 6
  have c7 := hb.cell 7
  have c8 := hb.cell 8
  have cf := hb.frozen
  have hg := hb.lt
  simp only [List.getElem?_toArray, List.getElem?_cons_zero, List.getElem?_cons_succ] at c0 c1 c2 c3 c4 c5 c6 c7 c8
  have HB := Lib.hid hb
  clear hb
  go_enter Try.func23, Try.ntmps23
  go_wp2_with (first | (go_at_call 26; refine (possible_any _ _).mono ?_; rintro e w1 ⟨rfl, rfl⟩))
  go_ret
  exact ⟨rfl, (by
    have h := (HB.out)
    repeat (first | with_reducible exact h | with_reducible refine Blk.push ?_ _ | with_reducible refine Blk.alloc ?_ _ | with_reducible refine Blk.drewN ?_ _ | with_reducible refine Blk.drew ?_)), (by repeat (first | with_reducible exact Near.refl _ _ | with_reducible refine Near.push ?_ _ | with_reducible refine Near.alloc ?_ _ | with_reducible refine Near.drewN ?_ _ | with_reducible refine Near.drew ?_ | with_reducible refine Near.setCell ?_ _ _))⟩
set_option maxHeartbeats 800000 in
theorem undo_ok (date n : Int) (h2 : okAmt n = true) (hk : d ≤ date) (hs : (d == -1) = false) (hd : (d != date) = false) (b1 : 0 ≤ s ∧ s ≤ 9999999999999) (b2 : 0 ≤ c ∧ c ≤ 9999) (b3 : 0 ≤ n ∧ n ≤ s) (hc : (c == 0) = false) (hb : Blk w g 57 #[.string nm, .int .i64 xp, .int .i64 st, .int .i64 ld, .int .i64 ls, .int .i64 lc, .int .i64 d, .int .i64 s, .int .i64 c]) :
    Calls Try.prog 23 #[.pointer (some ⟨g, 0, none⟩), .int .i64 date, .int .i64 n] w fun e w' => e = .returned (.int .i64 0) ∧ Blk w' g 57 #[.string nm, .int .i64 xp, .int .i64 st, .int .i64 ld, .int .i64 ls, .int .i64 lc, .int .i64 d, .int .i64 (s - n), .int .i64 (c - 1)] ∧ Near w g w' := by
  have c0 := hb.cell 0
  have c1 := hb.cell 1
  have c2 := hb.cell 2
  have c3 := hb.cell 3
  have c4 := hb.cell 4
  have c5 := hb.cell 5
  have c6 := hb.cell 6
  have c7 := hb.cell 7
  have c8 := hb.cell 8
  have cf := hb.frozen
  have hg := hb.lt
  simp only [List.getElem?_toArray, List.getElem?_cons_zero, List.getElem?_cons_succ] at c0 c1 c2 c3 c4 c5 c6 c7 c8
  have HB := Lib.hid hb
  clear hb
  go_enter Try.func23, Try.ntmps23
  go_wp2_with (first | (go_at_call 26; refine (possible_any _ _).mono ?_; rintro e w1 ⟨rfl, rfl⟩) | (go_at_call 36; refine (uses_same _ _ _ _ _ _ _ _ _ _ _ _ hd HB.out).mono ?_; rintro e w1 ⟨rfl, l2, n2, rfl⟩; have hg2 : g < w.heap.size + l2.length := by omega))
  go_quiet (fail)
  go_wp2
  go_ret
  exact ⟨rfl, (by
    have h := (((HB.out.set_ 7 (.int .i64 (s - n))).set_ 8 (.int .i64 (c - 1))))
    simp only [List.setIfInBounds_toArray, List.set_cons_zero, List.set_cons_succ] at h
    repeat (first | with_reducible exact h | with_reducible refine Blk.push ?_ _ | with_reducible refine Blk.alloc ?_ _ | with_reducible refine Blk.drewN ?_ _ | with_reducible refine Blk.drew ?_)), (by repeat (first | with_reducible exact Near.refl _ _ | with_reducible refine Near.push ?_ _ | with_reducible refine Near.alloc ?_ _ | with_reducible refine Near.drewN ?_ _ | with_reducible refine Near.drew ?_ | with_reducible refine Near.setCell ?_ _ _))⟩
end
/-- What card.New leaves: a new block that holds the card. -/
def NewPost (w : World) (e : Ending) (w' : World) : Prop := ∃ g : Nat, w.heap.size ≤ g ∧ e = .returned (.tuple #[.pointer (some ⟨g, 0, none⟩), .int .i64 0]) ∧ Blk w' g 57 #[.string sample, .int .i64 100, .int .i64 1, .int .i64 0, .int .i64 1000, .int .i64 2, .int .i64 (-1), .int .i64 0, .int .i64 0] ∧ Below w.heap.size w w'
theorem new_sample (w : World) : Calls Try.prog 9 #[.string sample, .int .i64 100, .int .i64 1000, .int .i64 2] w (NewPost w) := by
  have d1 : okDate 100 = true := by decide
  have d2 : okAmt 1000 = true := by decide
  go_enter Try.func9, Try.ntmps9
  go_wp2_with fail
  refine (pan_sample _).mono ?_
  rintro e w1 ⟨rfl, hb⟩
  have HB := Lib.hid hb
  clear hb
  go_wp2_with (first | (go_at_call 25; refine (isDate_any _ _).mono ?_; rintro e w1 ⟨rfl, rfl⟩) | (go_at_call 26; refine (possible_any _ _).mono ?_; rintro e w1 ⟨rfl, rfl⟩))
  go_ret2
  exact ⟨_, HB.out.size, rfl, Blk.new _ _ _, HB.out.alloc HB.out.size _⟩
theorem nearB {w w1 w2 : World} {g : Nat} (h : Below w.heap.size w w1) (hg : w.heap.size ≤ g) (n : Near w1 g w2) : Below w.heap.size w w2 := h.trans (n _ hg h.size)
set_option maxHeartbeats 2000000 in
theorem awake_any (w : World) : Calls Try.prog 8 #[] w fun e w' => e = .returned (.bool true) ∧ Below w.heap.size w w' := by
  go_enter Try.func8, Try.ntmps8
  go_wp2_with fail
  refine (new_sample _).mono ?_
  rintro e w1 ⟨g, hg, rfl, b1, n1⟩
  have HB1 := Lib.hid b1
  have HN1 := Lib.hid n1
  clear b1 n1
  go_wp2_with fail
  refine (do_ok g _ sample 100 1 0 1000 2 (-1) 0 0 1 2 (by decide) (by decide) HB1.out).mono ?_
  rintro e w2 ⟨rfl, b2, n2⟩
  have HB2 := Lib.hid b2
  have HN2 := Lib.hid (nearB HN1.out hg n2)
  clear b2 n2 HB1 HN1
  go_wp2_with fail
  refine (use_new g _ sample 100 2 0 1000 2 (-1) 0 0 10 600 (by decide) (by decide) (by decide) (by decide) (by decide) (by decide) (by decide) (by decide) (by decide) (by decide) (by decide) HB2.out).mono ?_
  rintro e w3 ⟨rfl, b3, n3⟩
  have HB3 := Lib.hid b3
  have HN3 := Lib.hid (nearB HN2.out hg n3)
  clear b3 n3 HB2 HN2
  go_wp2_with fail
  refine (use_same g _ sample 100 2 0 1000 2 10 600 1 10 400 (by decide) (by decide) (by decide) (by decide) (by decide) (by decide) (by decide) (by decide) (by decide) (by decide) (by decide) HB3.out).mono ?_
  rintro e w4 ⟨rfl, b4, n4⟩
  have HB4 : Hid (Blk w4 g 57 #[.string sample, .int .i64 100, .int .i64 2, .int .i64 0, .int .i64 1000, .int .i64 2, .int .i64 10, .int .i64 1000, .int .i64 2]) := b4
  have HN4 := Lib.hid (nearB HN3.out hg n4)
  clear b4 n4 HB3 HN3
  go_wp2_with fail
  refine (use_count g _ sample 100 2 0 1000 2 10 1000 2 10 0 (by decide) (by decide) (by decide) (by decide) (by decide) (by decide) (by decide) (by decide) (by decide) (by decide) (by decide) HB4.out).mono ?_
  rintro e w5 ⟨rfl, b5, n5⟩
  have HB5 := Lib.hid b5
  have HN5 := Lib.hid (nearB HN4.out hg n5)
  clear b5 n5 HB4 HN4
  go_wp2_with fail
  refine (undo_ok g _ sample 100 2 0 1000 2 10 1000 2 10 400 (by decide) (by decide) (by decide) (by decide) (by decide) (by decide) (by decide) (by decide) HB5.out).mono ?_
  rintro e w6 ⟨rfl, b6, n6⟩
  have HB6 : Hid (Blk w6 g 57 #[.string sample, .int .i64 100, .int .i64 2, .int .i64 0, .int .i64 1000, .int .i64 2, .int .i64 10, .int .i64 600, .int .i64 1]) := b6
  have HN6 := Lib.hid (nearB HN5.out hg n6)
  clear b6 n6 HB5 HN5
  go_wp2_with fail
  refine (used_same g _ sample 100 2 0 1000 2 10 600 1 10 (by decide) HB6.out).mono ?_
  rintro e w7 ⟨rfl, b7, n7⟩
  have HB7 := Lib.hid b7
  have HN7 := Lib.hid (nearB HN6.out hg n7)
  clear b7 n7 HB6 HN6
  go_wp2_with fail
  refine (use_new g _ sample 100 2 0 1000 2 10 600 1 11 1000 (by decide) (by decide) (by decide) (by decide) (by decide) (by decide) (by decide) (by decide) (by decide) (by decide) (by decide) HB7.out).mono ?_
  rintro e w8 ⟨rfl, b8, n8⟩
  have HB8 := Lib.hid b8
  have HN8 := Lib.hid (nearB HN7.out hg n8)
  clear b8 n8 HB7 HN7
  go_wp2_with fail
  refine (use_time g _ sample 100 2 0 1000 2 11 1000 1 10 1 (by decide) (by decide) (by decide) (by decide) (by decide) HB8.out).mono ?_
  rintro e w9 ⟨rfl, b9, n9⟩
  have HB9 := Lib.hid b9
  have HN9 := Lib.hid (nearB HN8.out hg n9)
  clear b9 n9 HB8 HN8
  go_wp2_with fail
  refine (undo_time g _ sample 100 2 0 1000 2 11 1000 1 10 1 (by decide) (by decide) (by decide) HB9.out).mono ?_
  rintro e wa ⟨rfl, ba, na⟩
  have HNa := Lib.hid (nearB HN9.out hg na)
  clear ba na HB9 HN9
  go_wp2
  go_ret
  exact ⟨rfl, HNa.out⟩
end Go.Proofs.Ytacdfhgamjinbab
