/-
  CONTRACTS of a card's Undo where nothing can be taken back, and of New at any limits.
-/
import Derived.Test.YtacdfhgamjinbabCard4
namespace Go.Proofs.Ytacdfhgamjinbab
open Go.RowKit
set_option linter.unusedVariables false
section
variable (g : Nat) (w : World) (nm : ByteArray) (xp st ld ls lc d s c : Int)
set_option maxHeartbeats 800000 in
theorem undo_far (date n : Int) (h2 : okAmt n = true) (hk : d ≤ date) (hs : (d == -1) = false) (hd : (d != date) = true) (hd2 : (date == d) = false) (hd3 : (d == date) = false) (hb : Blk w g 57 #[.string nm, .int .i64 xp, .int .i64 st, .int .i64 ld, .int .i64 ls, .int .i64 lc, .int .i64 d, .int .i64 s, .int .i64 c]) :
    Calls Try.prog 23 #[.pointer (some ⟨g, 0, none⟩), .int .i64 date, .int .i64 n] w fun e w' => e = .returned (.int .i64 6) ∧ Blk w' g 57 #[.string nm, .int .i64 xp, .int .i64 st, .int .i64 ld, .int .i64 ls, .int .i64 lc, .int .i64 d, .int .i64 s, .int .i64 c] ∧ Near w g w' := by
  have c0 := hb.cell 0
  have c1 := hb.cell 1
  have c2 := hb.cell 2
  have c3 := hb.cell 3
  have c4 := hb.cell 4
  have c5 := hb.cell 5
  have c6 := hb.cell 6
  have c7 := hb.cell 7
  have c8 := hb.cell 8
  have cf := hb.frozen
  have hg := hb.lt
  simp only [List.getElem?_toArray, List.getElem?_cons_zero, List.getElem?_cons_succ] at c0 c1 c2 c3 c4 c5 c6 c7 c8
  have HB := Lib.hid hb
  clear hb
  go_enter Try.func23, Try.ntmps23
  go_wp2_with (first | (go_at_call 26; refine (possible_any _ _).mono ?_; rintro e w1 ⟨rfl, rfl⟩) | (go_at_call 36; refine (uses_new _ _ _ _ _ _ _ _ _ _ _ _ hd HB.out).mono ?_; rintro e w1 ⟨rfl, l2, n2, rfl⟩; have hg2 : g < w.heap.size + l2.length := by omega))
  go_quiet (fail)
  go_wp2
  go_ret
  exact ⟨rfl, (by
    have h := (HB.out)
    repeat (first | with_reducible exact h | with_reducible refine Blk.push ?_ _ | with_reducible refine Blk.alloc ?_ _ | with_reducible refine Blk.drewN ?_ _ | with_reducible refine Blk.drew ?_)), (by repeat (first | with_reducible exact Near.refl _ _ | with_reducible refine Near.push ?_ _ | with_reducible refine Near.alloc ?_ _ | with_reducible refine Near.drewN ?_ _ | with_reducible refine Near.drew ?_ | with_reducible refine Near.setCell ?_ _ _))⟩
set_option maxHeartbeats 800000 in
theorem undo_more (date n : Int) (h2 : okAmt n = true) (hk : d ≤ date) (hs : (d == -1) = false) (hd : (d != date) = false) (hc : (c == 0) = false) (hn : s < n) (hb : Blk w g 57 #[.string nm, .int .i64 xp, .int .i64 st, .int .i64 ld, .int .i64 ls, .int .i64 lc, .int .i64 d, .int .i64 s, .int .i64 c]) :
    Calls Try.prog 23 #[.pointer (some ⟨g, 0, none⟩), .int .i64 date, .int .i64 n] w fun e w' => e = .returned (.int .i64 6) ∧ Blk w' g 57 #[.string nm, .int .i64 xp, .int .i64 st, .int .i64 ld, .int .i64 ls, .int .i64 lc, .int .i64 d, .int .i64 s, .int .i64 c] ∧ Near w g w' := by
  have c0 := hb.cell 0
  have c1 := hb.cell 1
  have c2 := hb.cell 2
  have c3 := hb.cell 3
  have c4 := hb.cell 4
  have c5 := hb.cell 5
  have c6 := hb.cell 6
  have c7 := hb.cell 7
  have c8 := hb.cell 8
  have cf := hb.frozen
  have hg := hb.lt
  simp only [List.getElem?_toArray, List.getElem?_cons_zero, List.getElem?_cons_succ] at c0 c1 c2 c3 c4 c5 c6 c7 c8
  have HB := Lib.hid hb
  clear hb
  go_enter Try.func23, Try.ntmps23
  go_wp2_with (first | (go_at_call 26; refine (possible_any _ _).mono ?_; rintro e w1 ⟨rfl, rfl⟩) | (go_at_call 36; refine (uses_same _ _ _ _ _ _ _ _ _ _ _ _ hd HB.out).mono ?_; rintro e w1 ⟨rfl, l2, n2, rfl⟩; have hg2 : g < w.heap.size + l2.length := by omega))
  go_quiet (fail)
  go_wp2
  go_ret
  exact ⟨rfl, (by
    have h := (HB.out)
    repeat (first | with_reducible exact h | with_reducible refine Blk.push ?_ _ | with_reducible refine Blk.alloc ?_ _ | with_reducible refine Blk.drewN ?_ _ | with_reducible refine Blk.drew ?_)), (by repeat (first | with_reducible exact Near.refl _ _ | with_reducible refine Near.push ?_ _ | with_reducible refine Near.alloc ?_ _ | with_reducible refine Near.drewN ?_ _ | with_reducible refine Near.drew ?_ | with_reducible refine Near.setCell ?_ _ _))⟩
end
def NewPost2 (w : World) (xp ls lc : Int) (e : Ending) (w' : World) : Prop := ∃ g : Nat, w.heap.size ≤ g ∧ e = .returned (.tuple #[.pointer (some ⟨g, 0, none⟩), .int .i64 0]) ∧ Blk w' g 57 #[.string sample, .int .i64 xp, .int .i64 1, .int .i64 0, .int .i64 ls, .int .i64 lc, .int .i64 (-1), .int .i64 0, .int .i64 0] ∧ Below w.heap.size w w'
theorem new_any (w : World) (xp ls lc : Int) (d1 : okDate xp = true) (d2 : okAmt ls = true) (d3 : 0 ≤ lc) (d4 : lc ≤ 1000) : Calls Try.prog 9 #[.string sample, .int .i64 xp, .int .i64 ls, .int .i64 lc] w (NewPost2 w xp ls lc) := by
  go_enter Try.func9, Try.ntmps9
  go_wp2_with fail
  refine (pan_sample _).mono ?_
  rintro e w1 ⟨rfl, hb⟩
  have HB := Lib.hid hb
  clear hb
  go_wp2_with (first | (go_at_call 25; refine (isDate_any _ _).mono ?_; rintro e w1 ⟨rfl, rfl⟩) | (go_at_call 26; refine (possible_any _ _).mono ?_; rintro e w1 ⟨rfl, rfl⟩))
  go_ret2
  exact ⟨_, HB.out.size, rfl, Blk.new _ _ _, HB.out.alloc HB.out.size _⟩
end Go.Proofs.Ytacdfhgamjinbab
