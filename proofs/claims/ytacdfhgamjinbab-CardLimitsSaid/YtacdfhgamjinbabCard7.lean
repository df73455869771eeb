/-
  CONTRACTS of a card's Use where a daily limit is passed, of Used on a new day; and the range of '&' with a small mask.
-/
import Derived.Test.YtacdfhgamjinbabCard6
import Derived.Laws.BitsAllLaws
import Derived.Laws.BitsLemmas
namespace Go.Proofs.Ytacdfhgamjinbab
open Go.RowKit
set_option linter.unusedVariables false
theorem and_small (a : Int) (m : Nat) (hm : m < 1000) : 0 ≤ bits .and .i64 a (m : Int) ∧ bits .and .i64 a (m : Int) ≤ m := by
  have h : bits .and .i64 a (m : Int) = IntKind.i64.wrap ((BitVec.ofInt 64 a &&& BitVec.ofInt 64 (m : Int)).toNat : Int) := rfl
  have hle : (BitVec.ofInt 64 a &&& BitVec.ofInt 64 (m : Int)).toNat ≤ m := by
    rw [BitVec.toNat_and]
    refine Nat.le_trans Nat.and_le_right ?_
    rw [BitVec.ofInt_natCast, BitVec.toNat_ofNat]
    exact Nat.mod_le _ _
  rw [h, IntKind.wrap_i64]
  omega
section
variable (g : Nat) (w : World) (nm : ByteArray) (xp st ld ls lc d s c : Int)
set_option maxHeartbeats 800000 in
theorem use_sum_same (date n : Int) (hs : (st != 2) = false) (h0 : okDate date = true) (h1 : date ≤ xp) (h2 : okAmt n = true) (b1 : 0 ≤ s ∧ s ≤ 9999999999999) (b2 : 0 ≤ c ∧ c ≤ 9999) (b3 : 0 ≤ n ∧ n ≤ 9999999999999) (hd : (d != date) = false) (hk : d ≤ date) (hl : ls < s + n) (hb : Blk w g 57 #[.string nm, .int .i64 xp, .int .i64 st, .int .i64 ld, .int .i64 ls, .int .i64 lc, .int .i64 d, .int .i64 s, .int .i64 c]) :
    Calls Try.prog 21 #[.pointer (some ⟨g, 0, none⟩), .int .i64 date, .int .i64 n] w fun e w' => e = .returned (.int .i64 10) ∧ Blk w' g 57 #[.string nm, .int .i64 xp, .int .i64 st, .int .i64 ld, .int .i64 ls, .int .i64 lc, .int .i64 d, .int .i64 s, .int .i64 c] ∧ Near w g w' := by
  have c0 := hb.cell 0
  have c1 := hb.cell 1
  have c2 := hb.cell 2
  have c3 := hb.cell 3
  have c4 := hb.cell 4
  have c5 := hb.cell 5
  have c6 := hb.cell 6
  have c7 := hb.cell 7
  have c8 := hb.cell 8
  have cf := hb.frozen
  have hg := hb.lt
  simp only [List.getElem?_toArray, List.getElem?_cons_zero, List.getElem?_cons_succ] at c0 c1 c2 c3 c4 c5 c6 c7 c8
  have HB := Lib.hid hb
  clear hb
  go_enter Try.func21, Try.ntmps21
  go_wp2_with (first | (go_at_call 31; refine (usable_ok _ _ _ _ _ _ _ _ _ _ _ _ hs h0 h1 HB.out).mono ?_; rintro e w1 ⟨rfl, rfl⟩) | (go_at_call 26; refine (possible_any _ _).mono ?_; rintro e w1 ⟨rfl, rfl⟩) | (go_at_call 36; refine (uses_same _ _ _ _ _ _ _ _ _ _ _ _ hd HB.out).mono ?_; rintro e w1 ⟨rfl, l2, n2, rfl⟩; have hg2 : g < w.heap.size + l2.length := by omega))
  go_quiet (fail)
  go_wp2
  go_ret
  exact ⟨rfl, (by
    have h := (HB.out)
    repeat (first | with_reducible exact h | with_reducible refine Blk.push ?_ _ | with_reducible refine Blk.alloc ?_ _ | with_reducible refine Blk.drewN ?_ _ | with_reducible refine Blk.drew ?_)), (by repeat (first | with_reducible exact Near.refl _ _ | with_reducible refine Near.push ?_ _ | with_reducible refine Near.alloc ?_ _ | with_reducible refine Near.drewN ?_ _ | with_reducible refine Near.drew ?_ | with_reducible refine Near.setCell ?_ _ _))⟩
set_option maxHeartbeats 800000 in
theorem use_sum_new (date n : Int) (hs : (st != 2) = false) (h0 : okDate date = true) (h1 : date ≤ xp) (h2 : okAmt n = true) (b1 : 0 ≤ s ∧ s ≤ 9999999999999) (b2 : 0 ≤ c ∧ c ≤ 9999) (b3 : 0 ≤ n ∧ n ≤ 9999999999999) (hd : (d != date) = true) (hk : d ≤ date) (hl : ls < n) (hb : Blk w g 57 #[.string nm, .int .i64 xp, .int .i64 st, .int .i64 ld, .int .i64 ls, .int .i64 lc, .int .i64 d, .int .i64 s, .int .i64 c]) :
    Calls Try.prog 21 #[.pointer (some ⟨g, 0, none⟩), .int .i64 date, .int .i64 n] w fun e w' => e = .returned (.int .i64 10) ∧ Blk w' g 57 #[.string nm, .int .i64 xp, .int .i64 st, .int .i64 ld, .int .i64 ls, .int .i64 lc, .int .i64 d, .int .i64 s, .int .i64 c] ∧ Near w g w' := by
  have c0 := hb.cell 0
  have c1 := hb.cell 1
  have c2 := hb.cell 2
  have c3 := hb.cell 3
  have c4 := hb.cell 4
  have c5 := hb.cell 5
  have c6 := hb.cell 6
  have c7 := hb.cell 7
  have c8 := hb.cell 8
  have cf := hb.frozen
  have hg := hb.lt
  simp only [List.getElem?_toArray, List.getElem?_cons_zero, List.getElem?_cons_succ] at c0 c1 c2 c3 c4 c5 c6 c7 c8
  have HB := Lib.hid hb
  clear hb
  go_enter Try.func21, Try.ntmps21
  go_wp2_with (first | (go_at_call 31; refine (usable_ok _ _ _ _ _ _ _ _ _ _ _ _ hs h0 h1 HB.out).mono ?_; rintro e w1 ⟨rfl, rfl⟩) | (go_at_call 26; refine (possible_any _ _).mono ?_; rintro e w1 ⟨rfl, rfl⟩) | (go_at_call 36; refine (uses_new _ _ _ _ _ _ _ _ _ _ _ _ hd HB.out).mono ?_; rintro e w1 ⟨rfl, l2, n2, rfl⟩; have hg2 : g < w.heap.size + l2.length := by omega))
  go_quiet (fail)
  go_wp2
  go_ret
  exact ⟨rfl, (by
    have h := (HB.out)
    repeat (first | with_reducible exact h | with_reducible refine Blk.push ?_ _ | with_reducible refine Blk.alloc ?_ _ | with_reducible refine Blk.drewN ?_ _ | with_reducible refine Blk.drew ?_)), (by repeat (first | with_reducible exact Near.refl _ _ | with_reducible refine Near.push ?_ _ | with_reducible refine Near.alloc ?_ _ | with_reducible refine Near.drewN ?_ _ | with_reducible refine Near.drew ?_ | with_reducible refine Near.setCell ?_ _ _))⟩
set_option maxHeartbeats 800000 in
theorem use_count_new (date n : Int) (hs : (st != 2) = false) (h0 : okDate date = true) (h1 : date ≤ xp) (h2 : okAmt n = true) (b1 : 0 ≤ s ∧ s ≤ 9999999999999) (b2 : 0 ≤ c ∧ c ≤ 9999) (b3 : 0 ≤ n ∧ n ≤ 9999999999999) (hd : (d != date) = true) (hk : d ≤ date) (hl : n ≤ ls) (hc : lc < 1) (hb : Blk w g 57 #[.string nm, .int .i64 xp, .int .i64 st, .int .i64 ld, .int .i64 ls, .int .i64 lc, .int .i64 d, .int .i64 s, .int .i64 c]) :
    Calls Try.prog 21 #[.pointer (some ⟨g, 0, none⟩), .int .i64 date, .int .i64 n] w fun e w' => e = .returned (.int .i64 10) ∧ Blk w' g 57 #[.string nm, .int .i64 xp, .int .i64 st, .int .i64 ld, .int .i64 ls, .int .i64 lc, .int .i64 d, .int .i64 s, .int .i64 c] ∧ Near w g w' := by
  have c0 := hb.cell 0
  have c1 := hb.cell 1
  have c2 := hb.cell 2
  have c3 := hb.cell 3
  have c4 := hb.cell 4
  have c5 := hb.cell 5
  have c6 := hb.cell 6
  have c7 := hb.cell 7
  have c8 := hb.cell 8
  have cf := hb.frozen
  have hg := hb.lt
  simp only [List.getElem?_toArray, List.getElem?_cons_zero, List.getElem?_cons_succ] at c0 c1 c2 c3 c4 c5 c6 c7 c8
  have HB := Lib.hid hb
  clear hb
  go_enter Try.func21, Try.ntmps21
  go_wp2_with (first | (go_at_call 31; refine (usable_ok _ _ _ _ _ _ _ _ _ _ _ _ hs h0 h1 HB.out).mono ?_; rintro e w1 ⟨rfl, rfl⟩) | (go_at_call 26; refine (possible_any _ _).mono ?_; rintro e w1 ⟨rfl, rfl⟩) | (go_at_call 36; refine (uses_new _ _ _ _ _ _ _ _ _ _ _ _ hd HB.out).mono ?_; rintro e w1 ⟨rfl, l2, n2, rfl⟩; have hg2 : g < w.heap.size + l2.length := by omega))
  go_quiet (fail)
  go_wp2
  go_ret
  exact ⟨rfl, (by
    have h := (HB.out)
    repeat (first | with_reducible exact h | with_reducible refine Blk.push ?_ _ | with_reducible refine Blk.alloc ?_ _ | with_reducible refine Blk.drewN ?_ _ | with_reducible refine Blk.drew ?_)), (by repeat (first | with_reducible exact Near.refl _ _ | with_reducible refine Near.push ?_ _ | with_reducible refine Near.alloc ?_ _ | with_reducible refine Near.drewN ?_ _ | with_reducible refine Near.drew ?_ | with_reducible refine Near.setCell ?_ _ _))⟩
set_option maxHeartbeats 800000 in
theorem used_new (date : Int) (hd : (d != date) = true) (hb : Blk w g 57 #[.string nm, .int .i64 xp, .int .i64 st, .int .i64 ld, .int .i64 ls, .int .i64 lc, .int .i64 d, .int .i64 s, .int .i64 c]) :
    Calls Try.prog 22 #[.pointer (some ⟨g, 0, none⟩), .int .i64 date] w fun e w' => e = .returned (.tuple #[.int .i64 0, .int .i64 0]) ∧ Blk w' g 57 #[.string nm, .int .i64 xp, .int .i64 st, .int .i64 ld, .int .i64 ls, .int .i64 lc, .int .i64 d, .int .i64 s, .int .i64 c] ∧ Near w g w' := by
  have c0 := hb.cell 0
  have c1 := hb.cell 1
  have c2 := hb.cell 2
  have c3 := hb.cell 3
  have c4 := hb.cell 4
  have c5 := hb.cell 5
  have c6 := hb.cell 6
  have c7 := hb.cell 7
  have c8 := hb.cell 8
  have cf := hb.frozen
  have hg := hb.lt
  simp only [List.getElem?_toArray, List.getElem?_cons_zero, List.getElem?_cons_succ] at c0 c1 c2 c3 c4 c5 c6 c7 c8
  have HB := Lib.hid hb
  clear hb
  go_enter Try.func22, Try.ntmps22
  go_wp2_with (first | (go_at_call 36; refine (uses_new _ _ _ _ _ _ _ _ _ _ _ _ hd HB.out).mono ?_; rintro e w1 ⟨rfl, l2, n2, rfl⟩; have hg2 : g < w.heap.size + l2.length := by omega))
  go_quiet (fail)
  go_wp2
  go_ret2
  exact ⟨rfl, (by
    have h := (HB.out)
    repeat (first | with_reducible exact h | with_reducible refine Blk.push ?_ _ | with_reducible refine Blk.alloc ?_ _ | with_reducible refine Blk.drewN ?_ _ | with_reducible refine Blk.drew ?_)), (by repeat (first | with_reducible exact Near.refl _ _ | with_reducible refine Near.push ?_ _ | with_reducible refine Near.alloc ?_ _ | with_reducible refine Near.drewN ?_ _ | with_reducible refine Near.drew ?_ | with_reducible refine Near.setCell ?_ _ _))⟩
end
end Go.Proofs.Ytacdfhgamjinbab
