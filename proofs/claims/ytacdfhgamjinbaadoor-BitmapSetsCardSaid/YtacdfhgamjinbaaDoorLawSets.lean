/-
  PROVED: for every bitmap and every number, the law BitmapSets returns true: Set, Clear, Has, List and Count return what is specified, and the example holds; the card ties the listed tables to the program's text. Conditions: none besides the form's own reach.
-/
import Derived.Test.YtacdfhgamjinbaaDoorCards
import Derived.Test.YtacdfhgamjinbaaDoorTie
import Derived.WalkKit
import Derived.ProofKit
import Derived.OpenShut
import Derived.ShutString
import Derived.ChangeOld
import Derived.Below
import Derived.Deep.DeepHandedRow
import Derived.Lib.LaidTab
import Derived.LaidMore
import Derived.Stop.LaidErr
import Derived.Stop.Joined
import Derived.LaidHandle
import Derived.ChangeSlices
import Derived.SliceStrings
import Derived.WideKeyPair
import Derived.Deep.RegionHeld3
import Derived.Deep.DeepCutAuto
import Derived.Test.YtacdfhgamjinbaaDoorB15
import Derived.Deep.QuietTactic
import Derived.Test.YtacdfhgamjinbaaDoorB5
namespace Go.Proofs.YtacdfhgamjinbaaDoor.bitmapSets
open Go.ChangeShapes Go.WideShapes Go.ChangeAt Go.RowKit
open Go.ChangeMaps (open_string shut_string)
set_option linter.unusedVariables false
theorem arrBm : Go.WideMaps.ArrKey Tryd.prog 24 22 2 := ⟨by kernel_rfl, by kernel_rfl, by kernel_rfl, by kernel_rfl⟩
theorem u64_nat {x : Int} (h : (Lit.int .u64 x).wf = true) : ∃ n : Nat, x = n ∧ n < 18446744073709551616 := by
  simp [Lit.wf, IntKind.min, IntKind.max, IntKind.signed, IntKind.bits] at h
  exact ⟨x.toNat, by omega, by omega⟩
theorem has_same (a b n : Nat) (ha : a < 18446744073709551616) (hb : b < 18446744073709551616) (h2 : 2 ≤ n) (h : n ≤ 128) : decide (clrN (a ||| hiN n) = clrN a ∧ b ||| loN n = b) = hasN a b n := by
  rw [Bool.eq_iff_iff, decide_eq_true_eq]
  by_cases h4 : n ≤ 64
  · rw [hasN_lo _ _ _ h4, lo_0 n h4]
    constructor
    · rintro ⟨h1, -⟩
      have h5 : (clrN (a ||| hiN n)).testBit (64 - n) = (clrN a).testBit (64 - n) := by rw [h1]
      rw [clrN_bit, clrN_bit, Nat.testBit_or, hiN_bit] at h5
      simpa [h4, show 64 - n ≤ 62 by omega] using h5
    · intro h1
      refine ⟨Nat.eq_of_testBit_eq fun i => ?_, by simp⟩
      rw [clrN_bit, clrN_bit, Nat.testBit_or, hiN_bit]
      by_cases e : 64 - n = i
      · subst e; simp [h1]
      · simp [e]
  · rw [hasN_hi _ _ _ h4, hi_0 n h4]
    constructor
    · rintro ⟨-, h1⟩
      have h5 : (b ||| loN n).testBit (128 - n) = b.testBit (128 - n) := by rw [h1]
      rw [Nat.testBit_or, loN_bit] at h5
      simpa [h4] using h5
    · intro h1
      refine ⟨by simp, Nat.eq_of_testBit_eq fun i => ?_⟩
      rw [Nat.testBit_or, loN_bit]
      by_cases e : 128 - n = i
      · subst e; simp [h1]
      · simp [e]
set_option maxHeartbeats 4000000 in
theorem walk_gen (a b X1 Y1 X2 Y2 : Nat) (n E : Int) (hv : Bool) (ha : a < 18446744073709551616) (hb : b < 18446744073709551616)
    (CS : ∀ w, Calls Tryd.prog 9 #[bmV a b, .int .i64 n] w fun e w' => e = .returned (.tuple #[bmV X1 Y1, .int .i64 E]) ∧ Below w.heap.size w w')
    (CRS : ∀ w, Calls Tryd.prog 10 #[bmV a b, .int .i64 n] w fun e w' => e = .returned (.tuple #[bmV X1 Y1, .int .i64 E]) ∧ Below w.heap.size w w')
    (CC : ∀ w, Calls Tryd.prog 11 #[bmV a b, .int .i64 n] w fun e w' => e = .returned (.tuple #[bmV X2 Y2, .int .i64 E]) ∧ Below w.heap.size w w')
    (CRC : ∀ w, Calls Tryd.prog 12 #[bmV a b, .int .i64 n] w fun e w' => e = .returned (.tuple #[bmV X2 Y2, .int .i64 E]) ∧ Below w.heap.size w w')
    (CH : ∀ w, Calls Tryd.prog 13 #[bmV a b, .int .i64 n] w fun e w' => e = .returned (.bool hv) ∧ Below w.heap.size w w')
    (CRH : ∀ w, Calls Tryd.prog 14 #[bmV a b, .int .i64 n] w fun e w' => e = .returned (.bool hv) ∧ Below w.heap.size w w')
    (w : World) (hT : Tab w) :
    Calls Tryd.prog 3 #[bmV a b, .int .i64 n] w fun e w' => e = .returned (.bool true) ∧ Below w.heap.size w w' := by
  have he : ∀ (x y : Int) (w : World), (Op.equalIn 10000 24 (.agg #[.int .u64 x, .int .u64 y]) (.agg #[.int .u64 x, .int .u64 y])).run Tryd.prog w = .ok true w := fun x y w => by rw [eq_arr]; simp
  have LP := Lib.hid (fun w => plist_any 0 a b ha hb w (Nat.zero_le _))
  have LR := Lib.hid (fun w => rlist_any 0 a b ha hb w (Nat.zero_le _))
  have NP := Lib.hid (fun w => count_any a b ha hb w)
  have NR := Lib.hid (fun w => rcount_any a b ha hb w)
  have hl1 := fl_len (hasN a b) 127
  obtain ⟨l, hl⟩ : ∃ l, l = fl (hasN a b) 127 := ⟨_, rfl⟩
  rw [← hl] at LP LR NP NR hl1
  have KCS := Lib.hid CS
  have KCRS := Lib.hid CRS
  have KCC := Lib.hid CC
  have KCRC := Lib.hid CRC
  have KCH := Lib.hid CH
  have KCRH := Lib.hid CRH
  have HT := Lib.hid hT
  have hT1 := Lib.hid hT.1
  clear hl ha hb CS CRS CC CRC CH CRH hT
  go_enter Tryd.func3, Tryd.ntmps3
  go_wp2_with fail
  refine (KCS.out _).mono ?_
  rintro e w1 ⟨rfl, hb1⟩
  have hA : Blk w1 w.heap.size 24 #[.int .u64 (a : Int), .int .u64 (b : Int)] := (Blk.new _ _ _).bel hb1
  have a0 := hA.cell 0
  have a1 := hA.cell 1
  have hlt1 := hA.lt
  have hne1 : ¬ w.heap.size = w1.heap.size := by omega
  have HA1 := Lib.hid hA
  have HW1 := Lib.hid (((Below.refl _ _).alloc (Nat.le_refl _) _).trans (hb1.mono (by simp)) : Below w.heap.size w w1)
  clear hA hb1
  go_wp2_with fail
  refine (KCRS.out _).mono ?_
  rintro e w2 ⟨rfl, hb2⟩
  have hA : Blk w2 w.heap.size 24 #[.int .u64 (a : Int), .int .u64 (b : Int)] := (HA1.out.alloc _).bel hb2
  have hX : Blk w2 w1.heap.size 24 #[.int .u64 (X1 : Int), .int .u64 (Y1 : Int)] := Blk.newB hb2
  have hlt2 := hX.lt
  have hne2 : ¬ w1.heap.size = w2.heap.size := by omega
  have hne3 : ¬ w.heap.size = w2.heap.size := by omega
  have hlt3 : w.heap.size < w2.heap.size := by omega
  have HA2 := Lib.hid hA
  have HX2 := Lib.hid hX
  have HW2 := Lib.hid ((HW1.out.alloc HW1.out.size _).trans (hb2.mono (by simp; omega)) : Below w.heap.size w w2)
  clear a0 a1 hb2 HA1 HW1
  have a0 := hA.cell 0
  have a1 := hA.cell 1
  have x0 := hX.cell 0
  have x1 := hX.cell 1
  clear hA hX
  go_wp2_with fail
  refine (KCC.out _).mono ?_
  rintro e w3 ⟨rfl, hb3⟩
  have hA : Blk w3 w.heap.size 24 #[.int .u64 (a : Int), .int .u64 (b : Int)] := (HA2.out.alloc _).bel hb3
  have hX : Blk w3 w1.heap.size 24 #[.int .u64 (X1 : Int), .int .u64 (Y1 : Int)] := (HX2.out.alloc _).bel hb3
  have hY : Blk w3 w2.heap.size 24 #[.int .u64 (X1 : Int), .int .u64 (Y1 : Int)] := Blk.newB hb3
  have HA3 := Lib.hid hA
  have HX3 := Lib.hid hX
  have HY3 := Lib.hid hY
  have HW3 := Lib.hid ((HW2.out.alloc HW2.out.size _).trans (hb3.mono (by simp; omega)) : Below w.heap.size w w3)
  clear a0 a1 x0 x1 hb3 HA2 HX2 HW2
  have a0 := hA.cell 0
  have a1 := hA.cell 1
  have x0 := hX.cell 0
  have x1 := hX.cell 1
  have x2 := hX.frozen 0
  have x3 := hX.frozen 1
  clear hA hX hY
  go_wp2_with fail
  refine (KCRC.out _).mono ?_
  rintro e w4 ⟨rfl, hb4⟩
  have hA : Blk w4 w.heap.size 24 #[.int .u64 (a : Int), .int .u64 (b : Int)] := Blk.bel ((HA3.out.far hne1 _).far hne1 _) hb4
  have hX : Blk w4 w1.heap.size 24 #[.int .u64 (X2 : Int), .int .u64 (Y2 : Int)] := Blk.bel (Blk.set2 HX3.out _ _) hb4
  have hY : Blk w4 w2.heap.size 24 #[.int .u64 (X1 : Int), .int .u64 (Y1 : Int)] := Blk.bel ((HY3.out.far (Ne.symm hne2) _).far (Ne.symm hne2) _) hb4
  have HA4 := Lib.hid hA
  have HX4 := Lib.hid hX
  have HY4 := Lib.hid hY
  have HW4 := Lib.hid (((HW3.out.setCell (by simp; omega) _).setCell (by simp; omega) _).trans (hb4.mono (by have := HW3.out.size; simp [World.setCell]; omega)) : Below w.heap.size w w4)
  clear a0 a1 x0 x1 x2 x3 hb4 HA3 HX3 HY3 HW3
  have a0 := hA.cell 0
  have a1 := hA.cell 1
  have x0 := hX.cell 0
  have x1 := hX.cell 1
  have y0 := hY.cell 0
  have y1 := hY.cell 1
  have y2 := hY.frozen 0
  have y3 := hY.frozen 1
  clear hA hX hY
  go_wp2_with fail
  have hA : Blk ((w4.setCell ⟨w2.heap.size, 0, none⟩ (.int .u64 (X2 : Int))).setCell ⟨w2.heap.size, 1, none⟩ (.int .u64 (Y2 : Int))) w.heap.size 24 #[.int .u64 (a : Int), .int .u64 (b : Int)] := (HA4.out.far hne3 _).far hne3 _
  have hX : Blk ((w4.setCell ⟨w2.heap.size, 0, none⟩ (.int .u64 (X2 : Int))).setCell ⟨w2.heap.size, 1, none⟩ (.int .u64 (Y2 : Int))) w1.heap.size 24 #[.int .u64 (X2 : Int), .int .u64 (Y2 : Int)] := (HX4.out.far hne2 _).far hne2 _
  have hY : Blk ((w4.setCell ⟨w2.heap.size, 0, none⟩ (.int .u64 (X2 : Int))).setCell ⟨w2.heap.size, 1, none⟩ (.int .u64 (Y2 : Int))) w2.heap.size 24 #[.int .u64 (X2 : Int), .int .u64 (Y2 : Int)] := Blk.set2 HY4.out _ _
  have HW : Hid (Below w.heap.size w ((w4.setCell ⟨w2.heap.size, 0, none⟩ (.int .u64 (X2 : Int))).setCell ⟨w2.heap.size, 1, none⟩ (.int .u64 (Y2 : Int)))) := Lib.hid ((HW4.out.setCell (by simp; omega) _).setCell (by simp; omega) _)
  clear a0 a1 x0 x1 y0 y1 y2 y3
  have a0 := hA.cell 0
  have a1 := hA.cell 1
  have x0 := hX.cell 0
  have x1 := hX.cell 1
  have y0 := hY.cell 0
  have y1 := hY.cell 1
  generalize (w4.setCell ⟨w2.heap.size, 0, none⟩ (.int .u64 (X2 : Int))).setCell ⟨w2.heap.size, 1, none⟩ (.int .u64 (Y2 : Int)) = V at *
  have hVB : V.heap.size ≤ V.heap.size := Nat.le_refl _
  have KS : Hid (∀ w', Below V.heap.size V w' → Below V.heap.size V w' ∧ w'.cell? ⟨w.heap.size, 0, none⟩ = some (.int .u64 (a : Int)) ∧ w'.cell? ⟨w.heap.size, 1, none⟩ = some (.int .u64 (b : Int)) ∧ w'.cell? ⟨w1.heap.size, 0, none⟩ = some (.int .u64 (X2 : Int)) ∧ w'.cell? ⟨w1.heap.size, 1, none⟩ = some (.int .u64 (Y2 : Int)) ∧ w'.cell? ⟨w2.heap.size, 0, none⟩ = some (.int .u64 (X2 : Int)) ∧ w'.cell? ⟨w2.heap.size, 1, none⟩ = some (.int .u64 (Y2 : Int))) :=
    Lib.hid fun w' h => ⟨h, (hA.bel h).cell 0, (hA.bel h).cell 1, (hX.bel h).cell 0, (hX.bel h).cell 1, (hY.bel h).cell 0, (hY.bel h).cell 1⟩
  have KT : Hid (∀ w', Below V.heap.size V w' → Tab w' ∧ Below w.heap.size w w') := Lib.hid fun w' h => have := HW.out.trans (h.mono HW.out.size); ⟨HT.out.below this hT1.out, this⟩
  clear hA hX hY
  go_region_held3 (fun w' => Below V.heap.size V w' ∧ w'.cell? ⟨w.heap.size, 0, none⟩ = some (.int .u64 (a : Int)) ∧ w'.cell? ⟨w.heap.size, 1, none⟩ = some (.int .u64 (b : Int)) ∧ w'.cell? ⟨w1.heap.size, 0, none⟩ = some (.int .u64 (X2 : Int)) ∧ w'.cell? ⟨w1.heap.size, 1, none⟩ = some (.int .u64 (Y2 : Int)) ∧ w'.cell? ⟨w2.heap.size, 0, none⟩ = some (.int .u64 (X2 : Int)) ∧ w'.cell? ⟨w2.heap.size, 1, none⟩ = some (.int .u64 (Y2 : Int))) (exact KS.out _ (by repeat (first | with_reducible assumption | with_reducible exact Below.refl _ _ | with_reducible refine Below.drew ?_ | with_reducible refine Below.allocV ?_ hVB _ | with_reducible refine Below.step ?_ hVB (by assumption)))) (first
    | (go_at_call 13; (with_reducible refine (KCH.out _).mono ?_); rintro e v1 ⟨rfl, hc1⟩)
    | (go_at_call 14; (with_reducible refine (KCRH.out _).mono ?_); rintro e v2 ⟨rfl, hc2⟩)
    | (go_at_call 16; (with_reducible refine (LP.out _).mono ?_); rintro e v3 ⟨A1, k1, rfl, hk1, ho1, hc3⟩)
    | (go_at_call 17; (with_reducible refine (LR.out _).mono ?_); rintro e v4 ⟨A2, k2, rfl, hk2, ho2, hc4⟩)
    | (go_at_call 15; (with_reducible refine (lnumbers_any A1 A2 l.length k1 k2 l _ (ints_of_own (own_below (B' := 0) ho1 hc4)) (ints_of_own ho2) (by omega) hk1 hk2).mono ?_); rintro e v5 ⟨rfl, hc5⟩)
    | (go_at_call 18; (with_reducible refine (NP.out _).mono ?_); rintro e v6 ⟨rfl, hc6⟩)
    | (go_at_call 19; (with_reducible refine (NR.out _).mono ?_); rintro e v7 ⟨rfl, hc7⟩)
    | (go_at_call 20; (with_reducible refine (awake_any _ (KT.out _ (by repeat (first | with_reducible assumption | with_reducible exact Below.refl _ _ | with_reducible refine Below.drew ?_ | with_reducible refine Below.allocV ?_ hVB _ | with_reducible refine Below.step ?_ hVB (by assumption)))).1).mono ?_); rintro e v8 ⟨rfl, hc8⟩)
    | fail)
  all_goals go_wp2
  all_goals go_ret
  all_goals exact ⟨rfl, (KT.out _ (by repeat (first | with_reducible assumption | with_reducible exact Below.refl _ _ | with_reducible refine Below.drew ?_ | with_reducible refine Below.allocV ?_ hVB _ | with_reducible refine Below.step ?_ hVB (by assumption)))).2⟩
theorem walk (x0 y0 n : Int) (w : World) (wx0 : (Lit.int .u64 x0).wf = true) (wy0 : (Lit.int .u64 y0).wf = true) (wn : (Lit.int .i64 n).wf = true) (hT : Tab w) :
    Calls Tryd.prog 3 #[.agg #[.int .u64 x0, .int .u64 y0], .int .i64 n] w fun e w' => e = .returned (.bool true) ∧ Below w.heap.size w w' := by
  obtain ⟨a, rfl, ha⟩ := u64_nat wx0
  obtain ⟨b, rfl, hb⟩ := u64_nat wy0
  by_cases h : n < 2 ∨ 128 < n
  · exact walk_gen a b 0 0 0 0 n 4 false ha hb (set_out a b n h) (rset_out a b ha hb n h) (clear_out a b n h) (rclear_out a b n h) (has_out a b n h) (rhas_out a b n h) w hT
  · obtain ⟨m, rfl⟩ : ∃ m : Nat, n = m := ⟨n.toNat, by omega⟩
    have h2 : 2 ≤ m := by omega
    have h3 : m ≤ 128 := by omega
    exact walk_gen a b _ _ _ _ m 0 (hasN a b m) ha hb (set_in a b m ha hb h2 h3) (rset_in a b m ha hb h2 h3) (clear_in a b m ha hb h2 h3) (rclear_in a b m ha hb h2 h3) (fun w => by rw [← has_same a b m ha hb h2 h3]; exact has_in a b m ha hb h2 h3 w) (rhas_in a b m ha hb h2 h3) w hT

theorem own : ownKnob Tryd.prog.godebug = none := by kernel_rfl
theorem laidOut : laidOutB Tryd.prog = true := by kernel_rfl
theorem tab_of_cell {W : World} (h : W.cell? ⟨4, 15, none⟩ = some (.int .u8 4)) : Tab W := by
  refine ⟨?_, h⟩
  rcases Nat.lt_or_ge 4 W.heap.size with hl | hl
  · exact hl
  · simp [World.cell?, Array.getElem?_eq_none hl] at h
theorem gTab : Tryd.prog.globalNamed "math/bits.deBruijn64tab" = some 4 := by kernel_rfl
theorem gTabType : (Tryd.prog.globals[4]?).map (·.type) = some 89 := by kernel_rfl
theorem cellsTab : Tryd.prog.cellsOf 89 = 64 := by kernel_rfl
theorem cellsOne : Tryd.prog.cellsOf 5 = 1 := by kernel_rfl
theorem table {W : World} (h : laidMetH Tryd.prog Rows.bitmapSetsRow.laid W) : Tab W := by
  rw [MakeChecks.laidMetH_plain _ _ _ (by kernel_rfl)] at h
  have h1 := h
  have hc := (Lib.tabIs_of_head (k := .u8) (zs := [0, 1, 56, 2, 57, 49, 28, 3, 61, 58, 42, 50, 38, 29, 17, 4, 62, 47, 59, 36, 45, 43, 51, 22, 53, 39, 33, 30, 24, 18, 12, 5, 63, 55, 48, 27, 60, 41, 37, 16, 46, 35, 44, 21, 52, 32, 23, 11, 54, 26, 40, 15, 34, 20, 31, 10, 25, 14, 19, 9, 13, 8, 7, 6]) gTab gTabType Tryd.underlying89 Tryd.underlying5 cellsOne cellsTab h1.tail).cell gTab 15 (by decide)
  exact tab_of_cell hc

noncomputable def laidWorld (os : Os) : World := World.doorLaid Tryd.prog 400 os
theorem laid_met (os : Os) : laidMetH Tryd.prog Rows.bitmapSetsRow.laid ((laidWorld os).forCall (fun _ _ => 0) ⟨#[], #[.agg #[.int .u64 0, .int .u64 0], .int .i64 0], []⟩).memory :=
  laidMetH_of_parts3 (fuel := 8) (laidMet_of_run' 8 (by kernel_rfl) (by kernel_rfl)) (by kernel_rfl) (by kernel_rfl)
theorem reads (os : Os) {H : Type} (enc : TypeId × Value → H) : ∃ places, DataW.whole enc Tryd.prog ((laidWorld os).forCall (fun _ _ => 0) ⟨#[], #[.agg #[.int .u64 0, .int .u64 0], .int .i64 0], []⟩).memory Tryd.f3.params.toList Rows.bitmapSetsSpec.vars false (#[.agg #[.int .u64 0, .int .u64 0], .int .i64 0] : Array Value).toList 8 = some ([.agg [.lit (.int .u64 0), .lit (.int .u64 0)], .lit (.int .i64 0)], [], places) :=
  ⟨[], by kernel_rfl⟩
theorem contract (H : Type) (enc : TypeId × Value → H) (W : World) (base : Nat) (args : Array Value) (ds gs : List (DataW H)) (before : List MemPlace)
    (hval0 : ∀ (j : Nat) t v, Tryd.f3.params[j]? = some t → args[j]? = some v → Value.okWide Tryd.prog W .any base t v)
    (hW : DataW.Whole enc Tryd.prog Tryd.f3.params.toList Rows.bitmapSetsSpec.vars false W args.toList ds gs before) (hL : laidMetH Tryd.prog Rows.bitmapSetsRow.laid W) :
    Calls Tryd.prog 3 args W fun e W' => ∃ v, e = .returned v ∧ Rows.bitmapSetsSpec.post enc Tryd.prog Tryd.f3 false true false false W args v W' := by
  have hval : ∀ (j : Nat) t v, Tryd.f3.params[j]? = some t → args[j]? = some v → Value.okWide Tryd.prog W .any base t v := hval0
  have hW' := hW
  obtain ⟨p, q, hA0, hV, rfl, hfz, hnd⟩ := hW
  have hA : DataW.TrodAll enc Tryd.prog W 0 (fun _ => true) true Tryd.f3.params.toList args.toList ds p := hA0
  rw [Tryd.params3] at hA hval
  obtain ⟨v0, vs0, d0, ds0, p0, q0, hargs, rfl, rfl, h0, r0⟩ := trodAll_cons hA
  obtain ⟨v1, vs1, d1, ds1, p1, q1, rfl, rfl, rfl, h1, r1⟩ := trodAll_cons r0
  obtain ⟨rfl, rfl, rfl⟩ := trodAll_nil r1
  obtain rfl : args = #[v0, v1] := by cases args; simp_all
  obtain ⟨rfl, rfl⟩ := trodVars_none hV
  have k0 := h0
  have lt0 : ∀ x ∈ p0, x.block < W.heap.size := by obtain ⟨m, hm⟩ := k0; exact DataW.trod_lt m _ _ _ hm
  obtain ⟨x0, y0, rfl, -, -, wx0, wy0⟩ := Go.WideMaps.open_pair arrBm Tryd.underlying22 (hval 0 24 v0 rfl rfl) h0
  have k1 := h1
  have lt1 : ∀ x ∈ p1, x.block < W.heap.size := by obtain ⟨m, hm⟩ := k1; exact DataW.trod_lt m _ _ _ hm
  obtain ⟨a1, rfl, -, -, w1⟩ := open_int Tryd.underlying3 (hval 1 3 v1 rfl rfl) h1
  clear hA0 hval0
  refine (walk x0 y0 a1 W wx0 wy0 w1 (table hL)).mono fun e W' ⟨he, bel⟩ => ?_
  subst he
  exact ⟨_, rfl, _, _, _, [], _, [], hW', trodAll_mk1 (shut_bool Tryd.underlying4 _), (trodAll_cons_mk (Below.trod laidOut (by kernel_rfl) (of_decide_eq_true (by kernel_rfl)) k0 bel lt0) (trodAll_cons_mk (Below.trod laidOut (by kernel_rfl) (of_decide_eq_true (by kernel_rfl)) k1 bel lt1) trodAll_mk0)), rfl, bel.frame _, fun h => by cases h⟩

set_option maxRecDepth 100000 in
theorem lifted (os : Os) (started : os.Started) (H : Type) (enc : TypeId × Value → H) (F : Stop.Interp) :
    ReturnsInHanded {} Tryd.checked os 3 .any ((OpenSpec.ofChange Rows.bitmapSetsSpec).preRow enc Tryd.prog Tryd.f3 Rows.bitmapSetsRow.domain false Rows.bitmapSetsRow.laid) (((OpenSpec.ofChange Rows.bitmapSetsSpec).at F).post enc Tryd.prog Tryd.f3 false true false false) := by
  obtain ⟨places, hx⟩ := reads os enc
  refine returnsInHanded_of_row (C := Tryd.checked) (s := OpenSpec.ofChange Rows.bitmapSetsSpec) own started (by kernel_rfl) Tryd.func3
    (witness_row_at (enc := enc) (C := Tryd.checked) false (laidWorld os) #[.agg #[.int .u64 0, .int .u64 0], .int .i64 0] rfl (by kernel_rfl) (by kernel_rfl) (by kernel_rfl)
      (OpenSpec.preRow_of_cond 8 hx (by kernel_rfl) (fun k hk => by cases hk) (by kernel_rfl) (laid_met os))) ?_
  intro W base args ds gs before hval hW _ _ _ hL _ _
  exact contract H enc W base args ds gs before hval hW hL
theorem said : Rows.BitmapSetsSaid :=
  OpenClaim.holds_of_cond 3 Tryd.f3 rfl rfl rfl rfl rfl rfl rfl ⟨rfl, rfl, rfl, rfl, rfl⟩ rfl rfl rfl rfl rfl (by kernel_rfl) Tryd.func3 (by kernel_rfl)
    (of_decide_eq_true (by kernel_rfl)) (by unfold Func.isWrapper; first | (rw [if_pos (by decide +kernel)]; kernel_rfl) | (rw [if_neg (by decide +kernel)]; exact ⟨rfl, rfl⟩))
    (fun os started H enc _ F => by rw [OpenClaim.pre_eq_preRow]; exact lifted os started H enc F)
/-- No parameter wants a stand-in; the program's own looks are off. -/
theorem plain (f : FuncId) (fn : Func) (hf : Tryd.pinned.checked.prog.funcNamed "cardnet/cardnetlaw05.BitmapSets" = some f) (hfn : Tryd.pinned.checked.prog.funcs[f]? = some fn) :
    true = Tryd.pinned.checked.prog.looks [] ∧ ∀ (j : Nat) t, fn.params[j]? = some t → Tryd.pinned.checked.prog.wantsStandIn t = false := by
  obtain rfl : f = 3 := Option.some.inj ((show Tryd.prog.funcNamed "cardnet/cardnetlaw05.BitmapSets" = some 3 by kernel_rfl).symm.trans hf) |>.symm
  obtain rfl : fn = Tryd.f3 := (Option.some.inj (Tryd.func3.symm.trans hfn)).symm
  refine ⟨by kernel_rfl, fun j t ht => ?_⟩
  rw [Tryd.params3] at ht
  have hm : t ∈ [24, 3] := by simpa using Array.mem_of_getElem? ht
  have hall : ([24, 3].all fun u => !Tryd.prog.wantsStandIn u) = true := by kernel_rfl
  exact (show Tryd.prog.wantsStandIn t = false by simpa using List.all_eq_true.1 hall t hm)
/-- THE CARD: the statement. -/
theorem proved : Rows.BitmapSetsCardSaid :=
  Claim7.holds_tied_plain_at .later [] _ _ _ _ said (fun _ h => by cases h) (by kernel_rfl) (fun _ h => by cases h) bitmapSets_row_tie rfl ⟨rfl, rfl⟩ (by kernel_rfl) rfl plain (by kernel_rfl)
#print axioms proved
end Go.Proofs.YtacdfhgamjinbaaDoor.bitmapSets
