/-
  CONTRACTS of a card's methods, for a card whose block is known whole: what they answer, and what the block holds behind them.
-/
import Derived.Test.YtacdfhgamjinbabCard2
import Derived.Laws.OwnMore
import Derived.Laws.Rows
import Derived.Deep.RegionWith
import Derived.Deep.QuietTactic
import Derived.BigQuiet
namespace Go.Proofs.Ytacdfhgamjinbab
open Go.RowKit
set_option linter.unusedVariables false
/-- A block that is known whole. -/
def Blk (w : World) (g : Nat) (t : TypeId) (cs : Array Value) : Prop := w.heap[g]? = some (.cells cs t (0, 0))
section
variable {w w' : World} {g : Nat} {t : TypeId} {cs : Array Value}
theorem Blk.lt (h : Blk w g t cs) : g < w.heap.size := by
  rcases Nat.lt_or_ge g w.heap.size with hlt | hge
  · exact hlt
  · unfold Blk at h; rw [Array.getElem?_eq_none hge] at h; cases h
theorem Blk.cell (h : Blk w g t cs) (i : Nat) : w.cell? ⟨g, i, none⟩ = cs[i]? := cell_of_row w g i cs t (0, 0) h
theorem Blk.frozen (h : Blk w g t cs) (i : Nat) : w.frozen? ⟨g, i, none⟩ = false := by
  unfold Blk at h
  simp [World.frozen?, h]
theorem Blk.new (w : World) (t : TypeId) (cs : Array Value) : Blk (w.alloc (.cells cs t)) w.heap.size t cs := heap_alloc_new w _
theorem Blk.drewN (h : Blk w g t cs) (n : Nat) : Blk (w.drewN n) g t cs := h
theorem Blk.drew (h : Blk w g t cs) : Blk w.drew g t cs := h
theorem Blk.alloc (h : Blk w g t cs) (o : Obj) : Blk (w.alloc o) g t cs := (Below.heap_alloc w o g h.lt).trans h
theorem Blk.set_ (h : Blk w g t cs) (i : Nat) (u : Value) : Blk (w.setCell ⟨g, i, none⟩ u) g t (cs.setIfInBounds i u) := by
  unfold Blk at h ⊢
  simp [World.setCell, Array.getElem?_modify, h]
theorem Blk.below {B : Nat} (h : Blk w g t cs) (hb : Below B w w') (hg : g < B) : Blk w' g t cs := (hb.block g hg).trans h
theorem Blk.push (h : Blk w g t cs) (l : List Obj) : Blk (push w l) g t cs := h.below (Pushed.push (Pushed.refl w) l).below h.lt
end
/-- Nothing below the block g has turned. -/
def Near (w : World) (g : Nat) (w' : World) : Prop := ∀ B, B ≤ g → B ≤ w.heap.size → Below B w w'
theorem Near.refl (w : World) (g : Nat) : Near w g w := fun _ _ _ => Below.refl _ _
theorem Near.alloc {w w' : World} {g : Nat} (h : Near w g w') (o : Obj) : Near w g (w'.alloc o) := fun B h1 h2 => (h B h1 h2).alloc (Nat.le_trans h2 (h B h1 h2).size) o
theorem Near.drewN {w w' : World} {g : Nat} (h : Near w g w') (n : Nat) : Near w g (w'.drewN n) := fun B h1 h2 => below_drewN (h B h1 h2) n
theorem Near.drew {w w' : World} {g : Nat} (h : Near w g w') : Near w g w'.drew := fun B h1 h2 => (h B h1 h2).drew
theorem Near.push {w w' : World} {g : Nat} (h : Near w g w') (l : List Obj) : Near w g (push w' l) := fun B h1 h2 => (h B h1 h2).trans (Below.mono (Pushed.push (Pushed.refl _) l).below (Nat.le_trans h2 (h B h1 h2).size))
theorem Near.setCell {w w' : World} {g : Nat} (h : Near w g w') (i : Nat) (u : Value) : Near w g (w'.setCell ⟨g, i, none⟩ u) := fun B h1 h2 => (h B h1 h2).setCell (p := ⟨g, i, none⟩) h1 u
section
variable (g : Nat) (w : World) (nm : ByteArray) (xp st ld ls lc d s c : Int)
set_option maxHeartbeats 800000 in
theorem do_ok (ev st' : Int) (h1 : nextS st ev = st') (h2 : nextE st ev = 0) (hb : Blk w g 57 #[.string nm, .int .i64 xp, .int .i64 st, .int .i64 ld, .int .i64 ls, .int .i64 lc, .int .i64 d, .int .i64 s, .int .i64 c]) :
    Calls Try.prog 20 #[.pointer (some ⟨g, 0, none⟩), .int .i64 ev] w fun e w' => e = .returned (.int .i64 0) ∧ Blk w' g 57 #[.string nm, .int .i64 xp, .int .i64 st', .int .i64 ld, .int .i64 ls, .int .i64 lc, .int .i64 d, .int .i64 s, .int .i64 c] ∧ Near w g w' := by
  have c0 := hb.cell 0
  have c1 := hb.cell 1
  have c2 := hb.cell 2
  have c3 := hb.cell 3
  have c4 := hb.cell 4
  have c5 := hb.cell 5
  have c6 := hb.cell 6
  have c7 := hb.cell 7
  have c8 := hb.cell 8
  have cf := hb.frozen
  have hg := hb.lt
  simp only [List.getElem?_toArray, List.getElem?_cons_zero, List.getElem?_cons_succ] at c0 c1 c2 c3 c4 c5 c6 c7 c8
  have HB := Lib.hid hb
  clear hb
  go_enter Try.func20, Try.ntmps20
  go_wp2_with (first | (go_at_call 18; refine (next_any _ _ _).mono ?_; rintro e w1 ⟨rfl, rfl⟩))
  go_ret
  exact ⟨rfl, (by
    have h := ((HB.out.set_ 2 (.int .i64 st')))
    simp only [List.setIfInBounds_toArray, List.set_cons_zero, List.set_cons_succ] at h
    repeat (first | with_reducible exact h | with_reducible refine Blk.push ?_ _ | with_reducible refine Blk.alloc ?_ _ | with_reducible refine Blk.drewN ?_ _ | with_reducible refine Blk.drew ?_)), (by repeat (first | with_reducible exact Near.refl _ _ | with_reducible refine Near.push ?_ _ | with_reducible refine Near.alloc ?_ _ | with_reducible refine Near.drewN ?_ _ | with_reducible refine Near.drew ?_ | with_reducible refine Near.setCell ?_ _ _))⟩
set_option maxHeartbeats 800000 in
theorem uses_same (date : Int) (hd : (d != date) = false) (hb : Blk w g 57 #[.string nm, .int .i64 xp, .int .i64 st, .int .i64 ld, .int .i64 ls, .int .i64 lc, .int .i64 d, .int .i64 s, .int .i64 c]) :
    Calls Try.prog 36 #[.pointer (some ⟨g, 0, none⟩), .int .i64 date] w fun e w' => e = .returned (.agg #[.int .i64 d, .int .i64 s, .int .i64 c]) ∧ Pushed w w' := by
  have c0 := hb.cell 0
  have c1 := hb.cell 1
  have c2 := hb.cell 2
  have c3 := hb.cell 3
  have c4 := hb.cell 4
  have c5 := hb.cell 5
  have c6 := hb.cell 6
  have c7 := hb.cell 7
  have c8 := hb.cell 8
  have cf := hb.frozen
  have hg := hb.lt
  simp only [List.getElem?_toArray, List.getElem?_cons_zero, List.getElem?_cons_succ] at c0 c1 c2 c3 c4 c5 c6 c7 c8
  have HB := Lib.hid hb
  clear hb
  go_enter Try.func36, Try.ntmps36
  go_wp2_with (first | fail)
  exact bodyPost_ret (v := .agg #[.int .i64 d, .int .i64 s, .int .i64 c]) (by simp [results, Try.results36, go_sem]) rfl ⟨rfl, (by repeat (first | with_reducible exact Pushed.refl _ | with_reducible refine Pushed.push ?_ _ | with_reducible refine Pushed.alloc ?_ _ | with_reducible refine Pushed.drewN ?_ _ | with_reducible refine Pushed.drew ?_))⟩
set_option maxHeartbeats 800000 in
theorem uses_new (date : Int) (hd : (d != date) = true) (hb : Blk w g 57 #[.string nm, .int .i64 xp, .int .i64 st, .int .i64 ld, .int .i64 ls, .int .i64 lc, .int .i64 d, .int .i64 s, .int .i64 c]) :
    Calls Try.prog 36 #[.pointer (some ⟨g, 0, none⟩), .int .i64 date] w fun e w' => e = .returned (.agg #[.int .i64 date, .int .i64 0, .int .i64 0]) ∧ Pushed w w' := by
  have c0 := hb.cell 0
  have c1 := hb.cell 1
  have c2 := hb.cell 2
  have c3 := hb.cell 3
  have c4 := hb.cell 4
  have c5 := hb.cell 5
  have c6 := hb.cell 6
  have c7 := hb.cell 7
  have c8 := hb.cell 8
  have cf := hb.frozen
  have hg := hb.lt
  simp only [List.getElem?_toArray, List.getElem?_cons_zero, List.getElem?_cons_succ] at c0 c1 c2 c3 c4 c5 c6 c7 c8
  have HB := Lib.hid hb
  clear hb
  go_enter Try.func36, Try.ntmps36
  go_wp2_with (first | fail)
  exact bodyPost_ret (v := .agg #[.int .i64 date, .int .i64 0, .int .i64 0]) (by simp [results, Try.results36, go_sem]) rfl ⟨rfl, (by repeat (first | with_reducible exact Pushed.refl _ | with_reducible refine Pushed.push ?_ _ | with_reducible refine Pushed.alloc ?_ _ | with_reducible refine Pushed.drewN ?_ _ | with_reducible refine Pushed.drew ?_))⟩
set_option maxHeartbeats 800000 in
theorem usable_ok (date : Int) (hs : (st != 2) = false) (h0 : okDate date = true) (h1 : date ≤ xp) (hb : Blk w g 57 #[.string nm, .int .i64 xp, .int .i64 st, .int .i64 ld, .int .i64 ls, .int .i64 lc, .int .i64 d, .int .i64 s, .int .i64 c]) :
    Calls Try.prog 31 #[.pointer (some ⟨g, 0, none⟩), .int .i64 date] w fun e w' => e = .returned (.int .i64 0) ∧ w = w' := by
  have c0 := hb.cell 0
  have c1 := hb.cell 1
  have c2 := hb.cell 2
  have c3 := hb.cell 3
  have c4 := hb.cell 4
  have c5 := hb.cell 5
  have c6 := hb.cell 6
  have c7 := hb.cell 7
  have c8 := hb.cell 8
  have cf := hb.frozen
  have hg := hb.lt
  simp only [List.getElem?_toArray, List.getElem?_cons_zero, List.getElem?_cons_succ] at c0 c1 c2 c3 c4 c5 c6 c7 c8
  have HB := Lib.hid hb
  clear hb
  go_enter Try.func31, Try.ntmps31
  go_wp2_with (first | (go_at_call 25; refine (isDate_any _ _).mono ?_; rintro e w1 ⟨rfl, rfl⟩))
  go_ret
  exact ⟨rfl, rfl⟩
set_option maxHeartbeats 800000 in
theorem use_same (date n : Int) (hs : (st != 2) = false) (h0 : okDate date = true) (h1 : date ≤ xp) (h2 : okAmt n = true) (b1 : 0 ≤ s ∧ s ≤ 9999999999999) (b2 : 0 ≤ c ∧ c ≤ 9999) (b3 : 0 ≤ n ∧ n ≤ 9999999999999) (hd : (d != date) = false) (hk : d ≤ date) (hl : s + n ≤ ls) (hc : c + 1 ≤ lc) (hb : Blk w g 57 #[.string nm, .int .i64 xp, .int .i64 st, .int .i64 ld, .int .i64 ls, .int .i64 lc, .int .i64 d, .int .i64 s, .int .i64 c]) :
    Calls Try.prog 21 #[.pointer (some ⟨g, 0, none⟩), .int .i64 date, .int .i64 n] w fun e w' => e = .returned (.int .i64 0) ∧ Blk w' g 57 #[.string nm, .int .i64 xp, .int .i64 st, .int .i64 ld, .int .i64 ls, .int .i64 lc, .int .i64 d, .int .i64 (s + n), .int .i64 (c + 1)] ∧ Near w g w' := by
  have c0 := hb.cell 0
  have c1 := hb.cell 1
  have c2 := hb.cell 2
  have c3 := hb.cell 3
  have c4 := hb.cell 4
  have c5 := hb.cell 5
  have c6 := hb.cell 6
  have c7 := hb.cell 7
  have c8 := hb.cell 8
  have cf := hb.frozen
  have hg := hb.lt
  simp only [List.getElem?_toArray, List.getElem?_cons_zero, List.getElem?_cons_succ] at c0 c1 c2 c3 c4 c5 c6 c7 c8
  have HB := Lib.hid hb
  clear hb
  go_enter Try.func21, Try.ntmps21
  go_wp2_with (first | (go_at_call 31; refine (usable_ok _ _ _ _ _ _ _ _ _ _ _ _ hs h0 h1 HB.out).mono ?_; rintro e w1 ⟨rfl, rfl⟩) | (go_at_call 26; refine (possible_any _ _).mono ?_; rintro e w1 ⟨rfl, rfl⟩) | (go_at_call 36; refine (uses_same _ _ _ _ _ _ _ _ _ _ _ _ hd HB.out).mono ?_; rintro e w1 ⟨rfl, l2, n2, rfl⟩; have hg2 : g < w.heap.size + l2.length := by omega))
  go_quiet (fail)
  go_wp2
  go_ret
  exact ⟨rfl, (by
    have h := ((((HB.out.set_ 6 (.int .i64 d)).set_ 7 (.int .i64 (s + n))).set_ 8 (.int .i64 (c + 1))))
    simp only [List.setIfInBounds_toArray, List.set_cons_zero, List.set_cons_succ] at h
    repeat (first | with_reducible exact h | with_reducible refine Blk.push ?_ _ | with_reducible refine Blk.alloc ?_ _ | with_reducible refine Blk.drewN ?_ _ | with_reducible refine Blk.drew ?_)), (by repeat (first | with_reducible exact Near.refl _ _ | with_reducible refine Near.push ?_ _ | with_reducible refine Near.alloc ?_ _ | with_reducible refine Near.drewN ?_ _ | with_reducible refine Near.drew ?_ | with_reducible refine Near.setCell ?_ _ _))⟩
set_option maxHeartbeats 800000 in
theorem use_new (date n : Int) (hs : (st != 2) = false) (h0 : okDate date = true) (h1 : date ≤ xp) (h2 : okAmt n = true) (b1 : 0 ≤ s ∧ s ≤ 9999999999999) (b2 : 0 ≤ c ∧ c ≤ 9999) (b3 : 0 ≤ n ∧ n ≤ 9999999999999) (hd : (d != date) = true) (hk : d ≤ date) (hl : n ≤ ls) (hc : 1 ≤ lc) (hb : Blk w g 57 #[.string nm, .int .i64 xp, .int .i64 st, .int .i64 ld, .int .i64 ls, .int .i64 lc, .int .i64 d, .int .i64 s, .int .i64 c]) :
    Calls Try.prog 21 #[.pointer (some ⟨g, 0, none⟩), .int .i64 date, .int .i64 n] w fun e w' => e = .returned (.int .i64 0) ∧ Blk w' g 57 #[.string nm, .int .i64 xp, .int .i64 st, .int .i64 ld, .int .i64 ls, .int .i64 lc, .int .i64 date, .int .i64 n, .int .i64 1] ∧ Near w g w' := by
  have c0 := hb.cell 0
  have c1 := hb.cell 1
  have c2 := hb.cell 2
  have c3 := hb.cell 3
  have c4 := hb.cell 4
  have c5 := hb.cell 5
  have c6 := hb.cell 6
  have c7 := hb.cell 7
  have c8 := hb.cell 8
  have cf := hb.frozen
  have hg := hb.lt
  simp only [List.getElem?_toArray, List.getElem?_cons_zero, List.getElem?_cons_succ] at c0 c1 c2 c3 c4 c5 c6 c7 c8
  have HB := Lib.hid hb
  clear hb
  go_enter Try.func21, Try.ntmps21
  go_wp2_with (first | (go_at_call 31; refine (usable_ok _ _ _ _ _ _ _ _ _ _ _ _ hs h0 h1 HB.out).mono ?_; rintro e w1 ⟨rfl, rfl⟩) | (go_at_call 26; refine (possible_any _ _).mono ?_; rintro e w1 ⟨rfl, rfl⟩) | (go_at_call 36; refine (uses_new _ _ _ _ _ _ _ _ _ _ _ _ hd HB.out).mono ?_; rintro e w1 ⟨rfl, l2, n2, rfl⟩; have hg2 : g < w.heap.size + l2.length := by omega))
  go_quiet (fail)
  go_wp2
  go_ret
  exact ⟨rfl, (by
    have h := ((((HB.out.set_ 6 (.int .i64 date)).set_ 7 (.int .i64 n)).set_ 8 (.int .i64 1)))
    simp only [List.setIfInBounds_toArray, List.set_cons_zero, List.set_cons_succ] at h
    repeat (first | with_reducible exact h | with_reducible refine Blk.push ?_ _ | with_reducible refine Blk.alloc ?_ _ | with_reducible refine Blk.drewN ?_ _ | with_reducible refine Blk.drew ?_)), (by repeat (first | with_reducible exact Near.refl _ _ | with_reducible refine Near.push ?_ _ | with_reducible refine Near.alloc ?_ _ | with_reducible refine Near.drewN ?_ _ | with_reducible refine Near.drew ?_ | with_reducible refine Near.setCell ?_ _ _))⟩
set_option maxHeartbeats 800000 in
theorem use_count (date n : Int) (hs : (st != 2) = false) (h0 : okDate date = true) (h1 : date ≤ xp) (h2 : okAmt n = true) (b1 : 0 ≤ s ∧ s ≤ 9999999999999) (b2 : 0 ≤ c ∧ c ≤ 9999) (b3 : 0 ≤ n ∧ n ≤ 9999999999999) (hd : (d != date) = false) (hk : d ≤ date) (hl : s + n ≤ ls) (hc : lc < c + 1) (hb : Blk w g 57 #[.string nm, .int .i64 xp, .int .i64 st, .int .i64 ld, .int .i64 ls, .int .i64 lc, .int .i64 d, .int .i64 s, .int .i64 c]) :
    Calls Try.prog 21 #[.pointer (some ⟨g, 0, none⟩), .int .i64 date, .int .i64 n] w fun e w' => e = .returned (.int .i64 10) ∧ Blk w' g 57 #[.string nm, .int .i64 xp, .int .i64 st, .int .i64 ld, .int .i64 ls, .int .i64 lc, .int .i64 d, .int .i64 s, .int .i64 c] ∧ Near w g w' := by
  have c0 := hb.cell 0
  have c1 := hb.cell 1
  have c2 := hb.cell 2
  have c3 := hb.cell 3
  have c4 := hb.cell 4
  have c5 := hb.cell 5
  have c6 := hb.cell 6
  have c7 := hb.cell 7
  have c8 := hb.cell 8
  have cf := hb.frozen
  have hg := hb.lt
  simp only [List.getElem?_toArray, List.getElem?_cons_zero, List.getElem?_cons_succ] at c0 c1 c2 c3 c4 c5 c6 c7 c8
  have HB := Lib.hid hb
  clear hb
  go_enter Try.func21, Try.ntmps21
  go_wp2_with (first | (go_at_call 31; refine (usable_ok _ _ _ _ _ _ _ _ _ _ _ _ hs h0 h1 HB.out).mono ?_; rintro e w1 ⟨rfl, rfl⟩) | (go_at_call 26; refine (possible_any _ _).mono ?_; rintro e w1 ⟨rfl, rfl⟩) | (go_at_call 36; refine (uses_same _ _ _ _ _ _ _ _ _ _ _ _ hd HB.out).mono ?_; rintro e w1 ⟨rfl, l2, n2, rfl⟩; have hg2 : g < w.heap.size + l2.length := by omega))
  go_quiet (fail)
  go_wp2
  go_ret
  exact ⟨rfl, (by
    have h := (HB.out)
    repeat (first | with_reducible exact h | with_reducible refine Blk.push ?_ _ | with_reducible refine Blk.alloc ?_ _ | with_reducible refine Blk.drewN ?_ _ | with_reducible refine Blk.drew ?_)), (by repeat (first | with_reducible exact Near.refl _ _ | with_reducible refine Near.push ?_ _ | with_reducible refine Near.alloc ?_ _ | with_reducible refine Near.drewN ?_ _ | with_reducible refine Near.drew ?_ | with_reducible refine Near.setCell ?_ _ _))⟩
set_option maxHeartbeats 800000 in
theorem use_time (date n : Int) (hs : (st != 2) = false) (h0 : okDate date = true) (h1 : date ≤ xp) (h2 : okAmt n = true) (hk : date < d) (hb : Blk w g 57 #[.string nm, .int .i64 xp, .int .i64 st, .int .i64 ld, .int .i64 ls, .int .i64 lc, .int .i64 d, .int .i64 s, .int .i64 c]) :
    Calls Try.prog 21 #[.pointer (some ⟨g, 0, none⟩), .int .i64 date, .int .i64 n] w fun e w' => e = .returned (.int .i64 14) ∧ Blk w' g 57 #[.string nm, .int .i64 xp, .int .i64 st, .int .i64 ld, .int .i64 ls, .int .i64 lc, .int .i64 d, .int .i64 s, .int .i64 c] ∧ Near w g w' := by
  have c0 := hb.cell 0
  have c1 := hb.cell 1
  have c2 := hb.cell 2
  have c3 := hb.cell 3
  have c4 := hb.cell 4
  have c5 := hb.cell 5
  have c6 := hb.cell 6
  have c7 := hb.cell 7
  have c8 := hb.cell 8
  have cf := hb.frozen
  have hg := hb.lt
  simp only [List.getElem?_toArray, List.getElem?_cons_zero, List.getElem?_cons_succ] at c0 c1 c2 c3 c4 c5 c6 c7 c8
  have HB := Lib.hid hb
  clear hb
  go_enter Try.func21, Try.ntmps21
  go_wp2_with (first | (go_at_call 31; refine (usable_ok _ _ _ _ _ _ _ _ _ _ _ _ hs h0 h1 HB.out).mono ?_; rintro e w1 ⟨rfl, rfl⟩) | (go_at_call 26; refine (possible_any _ _).mono ?_; rintro e w1 ⟨rfl, rfl⟩))
  go_ret
  exact ⟨rfl, (by
    have h := (HB.out)
    repeat (first | with_reducible exact h | with_reducible refine Blk.push ?_ _ | with_reducible refine Blk.alloc ?_ _ | with_reducible refine Blk.drewN ?_ _ | with_reducible refine Blk.drew ?_)), (by repeat (first | with_reducible exact Near.refl _ _ | with_reducible refine Near.push ?_ _ | with_reducible refine Near.alloc ?_ _ | with_reducible refine Near.drewN ?_ _ | with_reducible refine Near.drew ?_ | with_reducible refine Near.setCell ?_ _ _))⟩
set_option maxHeartbeats 800000 in
theorem used_same (date : Int) (hd : (d != date) = false) (hb : Blk w g 57 #[.string nm, .int .i64 xp, .int .i64 st, .int .i64 ld, .int .i64 ls, .int .i64 lc, .int .i64 d, .int .i64 s, .int .i64 c]) :
    Calls Try.prog 22 #[.pointer (some ⟨g, 0, none⟩), .int .i64 date] w fun e w' => e = .returned (.tuple #[.int .i64 s, .int .i64 c]) ∧ Blk w' g 57 #[.string nm, .int .i64 xp, .int .i64 st, .int .i64 ld, .int .i64 ls, .int .i64 lc, .int .i64 d, .int .i64 s, .int .i64 c] ∧ Near w g w' := by
  have c0 := hb.cell 0
  have c1 := hb.cell 1
  have c2 := hb.cell 2
  have c3 := hb.cell 3
  have c4 := hb.cell 4
  have c5 := hb.cell 5
  have c6 := hb.cell 6
  have c7 := hb.cell 7
  have c8 := hb.cell 8
  have cf := hb.frozen
  have hg := hb.lt
  simp only [List.getElem?_toArray, List.getElem?_cons_zero, List.getElem?_cons_succ] at c0 c1 c2 c3 c4 c5 c6 c7 c8
  have HB := Lib.hid hb
  clear hb
  go_enter Try.func22, Try.ntmps22
  go_wp2_with (first | (go_at_call 36; refine (uses_same _ _ _ _ _ _ _ _ _ _ _ _ hd HB.out).mono ?_; rintro e w1 ⟨rfl, l2, n2, rfl⟩; have hg2 : g < w.heap.size + l2.length := by omega))
  go_quiet (fail)
  go_wp2
  go_ret2
  exact ⟨rfl, (by
    have h := (HB.out)
    repeat (first | with_reducible exact h | with_reducible refine Blk.push ?_ _ | with_reducible refine Blk.alloc ?_ _ | with_reducible refine Blk.drewN ?_ _ | with_reducible refine Blk.drew ?_)), (by repeat (first | with_reducible exact Near.refl _ _ | with_reducible refine Near.push ?_ _ | with_reducible refine Near.alloc ?_ _ | with_reducible refine Near.drewN ?_ _ | with_reducible refine Near.drew ?_ | with_reducible refine Near.setCell ?_ _ _))⟩
end
end Go.Proofs.Ytacdfhgamjinbab
