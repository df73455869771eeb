/-
  THE WALK of the law AuthParts, for an authorization that New accepts and at most eight amounts: the loop's relation is carried round after round.
-/
import Derived.Test.YtmigodjkenhedaaParts1
import Derived.Deep.RegionWith
import Derived.Deep.RegionHeld3
import Derived.Deep.DeepCutAuto
namespace Go.Proofs.Ytmigodjkenhedaa
open Go.RowKit
set_option linter.unusedVariables false
structure CutB (wr wx : World) (amount : Int) (k : Nat) (U' : Int) (g : Nat) : Prop where
  blk : Blk wx g 24 #[.string sX, .string sEur, .int .i64 amount, .int .i64 0, .int .i64 U', .int .i64 0, .int .i64 (auState amount 0 U' 0), .int .i64 0, .int .i64 10, .int .i64 ((k : Int) + 1)]
  new : wr.heap.size ≤ g
  push : Pushed wr wx
theorem cutB_1 (wr : World) (amount : Int) (k : Nat) (U' : Int) (l : List Obj) (n : Nat) : CutB wr (((push wr l).alloc (.cells #[.string sX, .string sEur, .int .i64 amount, .int .i64 0, .int .i64 U', .int .i64 0, .int .i64 (auState amount 0 U' 0), .int .i64 0, .int .i64 10, .int .i64 ((k : Int) + 1)] 24)).drewN n) amount k U' (wr.heap.size + l.length) := by
  refine ⟨?_, by omega, (by repeat (first | with_reducible exact Pushed.refl _ | with_reducible refine Pushed.alloc ?_ _ | with_reducible refine Pushed.push ?_ _ | with_reducible refine Pushed.drewN ?_ _ | with_reducible refine Pushed.drew ?_))⟩
  have h := (Blk.new (push wr l) 24 #[.string sX, .string sEur, .int .i64 amount, .int .i64 0, .int .i64 U', .int .i64 0, .int .i64 (auState amount 0 U' 0), .int .i64 0, .int .i64 10, .int .i64 ((k : Int) + 1)]).drewN n
  rwa [size_push] at h
theorem cutB_2 (wr : World) (amount : Int) (k : Nat) (U' : Int) (l : List Obj) (n : Nat) : CutB wr ((push (wr.alloc (.cells #[.string sX, .string sEur, .int .i64 amount, .int .i64 0, .int .i64 U', .int .i64 0, .int .i64 (auState amount 0 U' 0), .int .i64 0, .int .i64 10, .int .i64 ((k : Int) + 1)] 24)) l).drewN n) amount k U' wr.heap.size :=
  ⟨((Blk.new wr 24 _).push l).drewN n, Nat.le_refl _, (by repeat (first | with_reducible exact Pushed.refl _ | with_reducible refine Pushed.alloc ?_ _ | with_reducible refine Pushed.push ?_ _ | with_reducible refine Pushed.drewN ?_ _ | with_reducible refine Pushed.drew ?_))⟩
theorem prel_next {w wr wc : World} {gA : Nat} {amount S S' U U' n p : Int} {k : Nat} (hA : Blk wc gA 24 #[.string sX, .string sEur, .int .i64 amount, .int .i64 0, .int .i64 U, .int .i64 0, .int .i64 (auState amount 0 U 0), .int .i64 0, .int .i64 10, .int .i64 k]) (R : PRel w gA amount k S U wr) (X : Pushed wr wc)
    (hU : U < amount) (hn : n = min p (amount - U)) (hU' : U' = U + n) (hp : 1 ≤ p) (hp' : p ≤ 999999999999) (hS : S' = S + p) :
    PRel w gA amount (k + 1) S' U' ((((((((((wc.setCell ⟨gA, 0, none⟩ (.string sX)).setCell ⟨gA, 1, none⟩ (.string sEur)).setCell ⟨gA, 2, none⟩ (.int .i64 amount)).setCell ⟨gA, 3, none⟩ (.int .i64 0)).setCell ⟨gA, 4, none⟩ (.int .i64 U')).setCell ⟨gA, 5, none⟩ (.int .i64 0)).setCell ⟨gA, 6, none⟩ (.int .i64 (auState amount 0 U' 0))).setCell ⟨gA, 7, none⟩ (.int .i64 0)).setCell ⟨gA, 8, none⟩ (.int .i64 10)).setCell ⟨gA, 9, none⟩ (.int .i64 ((k : Int) + 1))) := by
  obtain ⟨_, bel, old, ⟨b1, b2, b3, b4⟩, ⟨b5, b6⟩, b7, b8⟩ := R
  refine ⟨?_, ?_, old, ?_, ?_, ?_⟩
  · have h := ((((((((((hA.set_ 0 (.string sX)).set_ 1 (.string sEur)).set_ 2 (.int .i64 amount)).set_ 3 (.int .i64 0)).set_ 4 (.int .i64 U')).set_ 5 (.int .i64 0)).set_ 6 (.int .i64 (auState amount 0 U' 0))).set_ 7 (.int .i64 0)).set_ 8 (.int .i64 10)).set_ 9 (.int .i64 ((k : Int) + 1)))
    have e : (((k + 1 : Nat) : Int)) = (k : Int) + 1 := by omega
    simp only [List.setIfInBounds_toArray, List.set_cons_zero, List.set_cons_succ] at h
    rw [e]
    exact h
  · have h0 : Below w.heap.size w wc := bel.trans (Below.mono X.below bel.size)
    exact (((((((((h0.setCell (by exact old) _).setCell (by exact old) _).setCell (by exact old) _).setCell (by exact old) _).setCell (by exact old) _).setCell (by exact old) _).setCell (by exact old) _).setCell (by exact old) _).setCell (by exact old) _).setCell (by exact old) _
  · omega
  · omega
  · omega
theorem val_int {a b : Int} (h : a = b) : Value.int .i64 a = Value.int .i64 b := by rw [h]
set_option maxRecDepth 100000 in
set_option maxHeartbeats 2000000 in
theorem parts_walk (amount : Int) (A : Option Addr) (len cap : Nat) (zs : List Int) (w : World) (ha : 1 ≤ amount) (ha' : amount ≤ 999999999999) (hl : (len : Int) ≤ 8) (hc : ∀ j, j < len → ∃ b off, A = some ⟨b, off, none⟩ ∧ w.cell? ⟨b, off + j, none⟩ = some (.int .i64 (zs.getD j 0))) (HC : Hid (0 = auCheck (identB sX.data.toList 16) (curB sEur.data.toList) amount 0 0 0 1 0 10 0)) :
    Calls Try.prog 7 #[.int .i64 amount, .slice A len cap] w fun e w' => e = .returned (.bool true) ∧ Below w.heap.size w w' := by
  have hl8 : len ≤ 8 := by omega
  have HCell := Lib.hid hc
  clear hc
  go_enter Try.func7, Try.ntmps7
  go_wp2_with fail
  refine (new_ok sX sEur _ amount 0 10 (by decide) (by decide) HC).mono ?_
  rintro e w1 ⟨rfl, l1, n1, rfl⟩
  go_wp2_with fail
  go_loopw [7, 8, 9] (fun s u i wr => ∃ (k : Nat) (S U : Int), k ≤ len ∧ s = .int .i64 S ∧ u = .int .i64 U ∧ i = .int .i64 k ∧ PRel w (w.heap.size + l1.length) amount k S U wr) (fun _ _ i _ => len - (intOf i).toNat)
  case atStart =>
    have hs := state_open (amount := amount) (U := 0) (by omega)
    refine ⟨0, 0, 0, Nat.zero_le _, rfl, rfl, rfl, ⟨?_, ?_, ?_, ?_, ?_, ?_⟩⟩
    · rw [hs]
      have h := ((Blk.new (push w l1) 24 #[.string sX, .string sEur, .int .i64 amount, .int .i64 0, .int .i64 0, .int .i64 0, .int .i64 1, .int .i64 0, .int .i64 10, .int .i64 0]).drewN n1)
      rw [size_push] at h
      exact h
    · exact below_drewN (Below.alloc (Pushed.below (Pushed.push (Pushed.refl w) l1)) (by rw [size_push]; omega) _) n1
    · omega
    · omega
    · omega
    · omega
  case round =>
    obtain ⟨k, S, U, hk, rfl, rfl, rfl, R⟩ := hrel
    have kg : w.heap.size + l1.length < wr.heap.size := R.blk.lt
    have c0 := R.blk.cell 0
    have c1 := R.blk.cell 1
    have c2 := R.blk.cell 2
    have c3 := R.blk.cell 3
    have c4 := R.blk.cell 4
    have c5 := R.blk.cell 5
    have c6 := R.blk.cell 6
    have c7 := R.blk.cell 7
    have c8 := R.blk.cell 8
    have c9 := R.blk.cell 9
    have cf := R.blk.frozen
    simp only [List.getElem?_toArray, List.getElem?_cons_zero, List.getElem?_cons_succ] at c0 c1 c2 c3 c4 c5 c6 c7 c8 c9
    have RB := Lib.hid R
    obtain ⟨b1, b2, b3, b4⟩ := R.b1
    obtain ⟨b5, b6⟩ := R.b3
    have B2 := Lib.hid R.b2
    have B4 := Lib.hid b4
    clear R b4
    by_cases hlt : k < len
    · obtain ⟨b, off, rfl, h1⟩ := HCell.out k hlt
      have hpc : wr.cell? ⟨b, off + k, none⟩ = some (.int .i64 (zs.getD k 0)) := by
        rw [RB.out.bel.cell (p := ⟨b, off + k, none⟩) (World.block_lt_of_cell? w _ h1)]
        exact h1
      have kb : b < wr.heap.size := World.block_lt_of_cell? wr _ hpc
      have hk0 : (0 : Int) ≤ (k : Int) := Int.natCast_nonneg _
      have hk1 : (k : Int) < (len : Int) := by omega
      generalize hp : zs.getD k 0 = p at hpc
      clear hp
      by_cases p1 : p < 1
      · go_wp2_with (go_at_call 9; refine (awake_any _).mono ?_; rintro e w1 ⟨rfl, l3, n3, rfl⟩)
        go_ret
        exact ⟨rfl, RB.out.bel.trans (Below.mono (Pushed.below (by repeat (first | with_reducible exact Pushed.refl _ | with_reducible refine Pushed.push ?_ _ | with_reducible refine Pushed.drewN ?_ _ | with_reducible refine Pushed.drew ?_))) RB.out.bel.size)⟩
      by_cases p2 : 999999999999 < p
      · go_wp2_with (go_at_call 9; refine (awake_any _).mono ?_; rintro e w1 ⟨rfl, l3, n3, rfl⟩)
        go_ret
        exact ⟨rfl, RB.out.bel.trans (Below.mono (Pushed.below (by repeat (first | with_reducible exact Pushed.refl _ | with_reducible refine Pushed.alloc ?_ _ | with_reducible refine Pushed.push ?_ _ | with_reducible refine Pushed.drewN ?_ _ | with_reducible refine Pushed.drew ?_))) RB.out.bel.size)⟩
      by_cases hU : U < amount
      · have hs := state_open hU
        rw [hs] at c6
        obtain ⟨U', n, hn, hU'⟩ : ∃ U' n, n = min p (amount - U) ∧ U' = U + n := ⟨_, _, rfl, rfl⟩
        have CL := fun W => clear_round (U' := U') (n := n) W ha ha' (by omega) b1 hU b3 B4.out (by omega) (by omega) hn hU'
        have HN := Lib.hid hn
        have HU := Lib.hid hU'
        have nb : 1 ≤ n ∧ n ≤ p ∧ n ≤ amount - U := by omega
        clear hn hU' hs
        go_upto_region 10 with fail
        go_cut [10, 11, 12, 13] (fun s10 s11 s12 s13 wx => ∃ g : Nat, s10 = .pointer (some ⟨g, 0, none⟩) ∧ s11 = .int .i64 n ∧ s12 = .int .i64 0 ∧ s13 = .int .i64 0 ∧ CutB wr wx amount k U' g)
        case first =>
          go_region_with (first | (go_at_call 19; refine (CL _).mono ?_; rintro e w1 ⟨rfl, l2, n2, rfl⟩))
          all_goals go_wp2_with fail
          all_goals go_meet
          all_goals first | exact ⟨_, rfl, rfl, rfl, rfl, cutB_1 _ _ _ _ _ _⟩ | exact ⟨_, rfl, rfl, rfl, rfl, cutB_2 _ _ _ _ _ _⟩ 
        case rest =>
          obtain ⟨g, rfl, rfl, rfl, rfl, X⟩ := hcut
          have hA := RB.out.blk.below X.push.below RB.out.blk.lt
          have hpc2 : wc.cell? ⟨b, off + k, none⟩ = some (.int .i64 p) := by rw [X.push.below.cell (p := ⟨b, off + k, none⟩) kb]; exact hpc
          clear c0 c1 c2 c3 c4 c5 c6 c7 c8 c9 cf hpc CL
          have c0 := hA.cell 0
          have c1 := hA.cell 1
          have c2 := hA.cell 2
          have c3 := hA.cell 3
          have c4 := hA.cell 4
          have c5 := hA.cell 5
          have c6 := hA.cell 6
          have c7 := hA.cell 7
          have c8 := hA.cell 8
          have c9 := hA.cell 9
          have cf := hA.frozen
          have x0 := X.blk.cell 0
          have x1 := X.blk.cell 1
          have x2 := X.blk.cell 2
          have x3 := X.blk.cell 3
          have x4 := X.blk.cell 4
          have x5 := X.blk.cell 5
          have x6 := X.blk.cell 6
          have x7 := X.blk.cell 7
          have x8 := X.blk.cell 8
          have x9 := X.blk.cell 9
          simp only [List.getElem?_toArray, List.getElem?_cons_zero, List.getElem?_cons_succ] at c0 c1 c2 c3 c4 c5 c6 c7 c8 c9 x0 x1 x2 x3 x4 x5 x6 x7 x8 x9
          have ng : ¬ (w.heap.size + l1.length = g) := by have := X.new; omega
          have ng' : ¬ (g = w.heap.size + l1.length) := by have := X.new; omega
          have HA := Lib.hid hA
          have HX := Lib.hid X
          have bS : 0 ≤ S + p ∧ S + p ≤ 9999999999999 := by omega
          clear hA X
          go_wp2
          all_goals have q1 := HN.out
          all_goals have q2 := HU.out
          all_goals have q3 := B2.out
          · exact ⟨⟨k + 1, S + p, U', by omega, rfl, val_int (by omega), by go_num, prel_next HA.out RB.out HX.out.push hU q1 q2 (by omega) (by omega) rfl⟩, by simp [intOf]; omega⟩
          · exfalso; omega
          · exact ⟨⟨k + 1, S + p, U', by omega, rfl, val_int (by omega), by go_num, prel_next HA.out RB.out HX.out.push hU q1 q2 (by omega) (by omega) rfl⟩, by simp [intOf]; omega⟩
          · exfalso; omega
      have hUa : U = amount := by omega
      have hk3 : k ≠ 0 := fun h => by have := B4.out h; omega
      have hSa : amount ≤ S := by have := B2.out.1; omega
      subst hUa
      rw [state_done ha] at c6
      have CL := fun W => clear_done (p := p) (k := k) W ha ha' (by omega) b3 hk3
      clear hk3 hU
      go_upto_region 10 with fail
      go_cut [10, 11, 12, 13] (fun s10 s11 s12 s13 wx => s11 = .int .i64 0 ∧ s12 = .int .i64 0 ∧ s13 = .int .i64 8 ∧ Pushed wr wx)
      case first =>
        go_region_with (first | (go_at_call 19; refine (CL _).mono ?_; rintro e w1 ⟨rfl, l2, n2, rfl⟩))
        all_goals go_wp2_with fail
        all_goals go_meet
        all_goals exact ⟨rfl, rfl, rfl, (by repeat (first | with_reducible exact Pushed.refl _ | with_reducible refine Pushed.alloc ?_ _ | with_reducible refine Pushed.push ?_ _ | with_reducible refine Pushed.drewN ?_ _ | with_reducible refine Pushed.drew ?_))⟩
      case rest =>
        obtain ⟨rfl, rfl, rfl, X⟩ := hcut
        go_wp2_with (go_at_call 9; refine (awake_any _).mono ?_; rintro e w1 ⟨rfl, l3, n3, rfl⟩)
        go_ret
        exact ⟨rfl, RB.out.bel.trans (Below.mono (Pushed.below (X.trans (by repeat (first | with_reducible exact Pushed.refl _ | with_reducible refine Pushed.alloc ?_ _ | with_reducible refine Pushed.push ?_ _ | with_reducible refine Pushed.drewN ?_ _ | with_reducible refine Pushed.drew ?_)))) RB.out.bel.size)⟩
    · go_wp2_with (go_at_call 9; refine (awake_any _).mono ?_; rintro e w1 ⟨rfl, l3, n3, rfl⟩)
      go_ret
      exact ⟨rfl, RB.out.bel.trans (Below.mono (Pushed.below (by repeat (first | with_reducible exact Pushed.refl _ | with_reducible refine Pushed.push ?_ _ | with_reducible refine Pushed.drewN ?_ _ | with_reducible refine Pushed.drew ?_))) RB.out.bel.size)⟩
end Go.Proofs.Ytmigodjkenhedaa
