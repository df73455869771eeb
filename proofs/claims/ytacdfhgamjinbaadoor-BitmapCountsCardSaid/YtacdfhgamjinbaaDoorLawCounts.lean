/-
  PROVED: for all bitmaps, the law BitmapCounts returns true: the bitmap of the list of a bitmap has the same numbers, the numbers of a union and a difference add up, and the example holds; the card ties the listed tables to the program's text. Conditions: none besides the form's own reach.
-/
import Derived.Test.YtacdfhgamjinbaaDoorCards
import Derived.Test.YtacdfhgamjinbaaDoorTie
import Derived.WalkKit
import Derived.ProofKit
import Derived.OpenShut
import Derived.ShutString
import Derived.ChangeOld
import Derived.Below
import Derived.Deep.DeepHandedRow
import Derived.Lib.LaidTab
import Derived.LaidMore
import Derived.Stop.LaidErr
import Derived.Stop.Joined
import Derived.LaidHandle
import Derived.ChangeSlices
import Derived.SliceStrings
import Derived.WideKeyPair
import Derived.Deep.RegionHeld3
import Derived.Deep.DeepCutAuto
import Derived.Test.YtacdfhgamjinbaaDoorB15
import Derived.Test.YtacdfhgamjinbaaDoorBMath4
import Derived.Test.YtacdfhgamjinbaaDoorB5
namespace Go.Proofs.YtacdfhgamjinbaaDoor.bitmapCounts
open Go.ChangeShapes Go.WideShapes Go.ChangeAt Go.RowKit
open Go.ChangeMaps (open_string shut_string)
set_option linter.unusedVariables false
theorem arrBm : Go.WideMaps.ArrKey Tryd.prog 24 22 2 := ⟨by kernel_rfl, by kernel_rfl, by kernel_rfl, by kernel_rfl⟩
theorem u64_nat {x : Int} (h : (Lit.int .u64 x).wf = true) : ∃ n : Nat, x = n ∧ n < 18446744073709551616 := by
  simp [Lit.wf, IntKind.min, IntKind.max, IntKind.signed, IntKind.bits] at h
  exact ⟨x.toNat, by omega, by omega⟩
theorem ofL_self (a b : Nat) (hb : b < 18446744073709551616) : ofL (fl (hasN a b) 127) 0 0 = some (clrN a, b) := by
  rw [of_list a b hb, Nat.zero_or, Nat.zero_or]
set_option maxHeartbeats 4000000 in
theorem walk (x0 y0 x1 y1 : Int) (w : World) (wx0 : (Lit.int .u64 x0).wf = true) (wy0 : (Lit.int .u64 y0).wf = true) (wx1 : (Lit.int .u64 x1).wf = true) (wy1 : (Lit.int .u64 y1).wf = true) (hT : Tab w) :
    Calls Tryd.prog 8 #[.agg #[.int .u64 x0, .int .u64 y0], .agg #[.int .u64 x1, .int .u64 y1]] w fun e w' => e = .returned (.bool true) ∧ Below w.heap.size w w' := by
  obtain ⟨a, rfl, ha⟩ := u64_nat wx0
  obtain ⟨b, rfl, hb⟩ := u64_nat wy0
  obtain ⟨c, rfl, hc⟩ := u64_nat wx1
  obtain ⟨d, rfl, hd⟩ := u64_nat wy1
  clear wx0 wy0 wx1 wy1
  have he : ∀ (x y : Int) (w : World), (Op.equalIn 10000 24 (.agg #[.int .u64 x, .int .u64 y]) (.agg #[.int .u64 x, .int .u64 y])).run Tryd.prog w = .ok true w := fun x y w => by rw [eq_arr]; simp
  have hA64 : clrN a < 18446744073709551616 := Nat.lt_trans (clrN_lt a) (by decide)
  have hU1 : clrN (a ||| c) < 18446744073709551616 := Nat.lt_trans (clrN_lt _) (by decide)
  have hU2 : b ||| d < 18446744073709551616 := or64 hb hd
  have LP := Lib.hid (fun w => plist_any 0 a b ha hb w (Nat.zero_le _))
  have LX : Hid (∀ w, Calls Tryd.prog 16 #[bmV (clrN a) b] w (RetInts 0 w (fl (hasN a b) 127))) := Lib.hid (fun w => by have := plist_any 0 (clrN a) b hA64 hb w (Nat.zero_le _); rw [fl_clr] at this; exact this)
  have HOF := Lib.hid (ofL_self a b hb)
  have CU := Lib.hid (fun w => union_any a b c d ha hb hc hd w)
  have CV : Hid (∀ w, Calls Tryd.prog 23 #[bmV c d, bmV a b] w fun e w' => e = .returned (bmV (clrN (a ||| c)) (b ||| d)) ∧ Below w.heap.size w w') := Lib.hid (fun w => by have := union_any c d a b hc hd ha hb w; rw [Nat.or_comm c a, Nat.or_comm d b] at this; exact this)
  have CM := Lib.hid (fun w => minus_any c d a b hc hd ha hb w)
  have CZ := Lib.hid (fun w => minus_any a b a b ha hb ha hb w)
  have NA := Lib.hid (fun w => count_any a b ha hb w)
  have NU := Lib.hid (fun w => count_any (clrN (a ||| c)) (b ||| d) hU1 hU2 w)
  have NM := Lib.hid (fun w => count_any (clrN (minN c a)) (minN d b) (Nat.lt_trans (clrN_lt _) (by decide)) (minN_lt _ _ hd) w)
  have NZ := Lib.hid (fun w => count_any (clrN (minN a a)) (minN b b) (Nat.lt_trans (clrN_lt _) (by decide)) (minN_lt _ _ hb) w)
  have hadd := cnt_add a b c d ha hb
  have hzero := cnt_none a b ha hb
  have hl1 := fl_len (hasN a b) 127
  have hl2 := fl_len (hasN (clrN (minN c a)) (minN d b)) 127
  rw [hadd] at NU
  rw [hzero] at NZ
  obtain ⟨l, hl⟩ : ∃ l, l = fl (hasN a b) 127 := ⟨_, rfl⟩
  rw [← hl] at LP LX NA NU hl1 HOF
  obtain ⟨nA, hnA⟩ : ∃ n, n = l.length := ⟨_, rfl⟩
  obtain ⟨nM, hnM⟩ : ∃ n, n = (fl (hasN (clrN (minN c a)) (minN d b)) 127).length := ⟨_, rfl⟩
  rw [← hnM] at NM NU hl2
  rw [← hnA] at NA NU
  have hnA2 : nA ≤ 127 := hnA ▸ hl1
  obtain ⟨nU, hnU⟩ : ∃ n : Int, n = ((nA + nM : Nat) : Int) := ⟨_, rfl⟩
  rw [← hnU] at NU
  have hwr : IntKind.i64.wrap ((nA : Int) + (nM : Int)) = nU := by rw [hnU, Int.natCast_add]; exact IntWalk.i64_in _ (by omega)
  obtain ⟨A, hA⟩ : ∃ x, x = clrN a := ⟨_, rfl⟩
  rw [← hA] at LX HOF
  obtain ⟨U1, hU1e⟩ : ∃ x, x = clrN (a ||| c) := ⟨_, rfl⟩
  obtain ⟨U2, hU2e⟩ : ∃ x, x = b ||| d := ⟨_, rfl⟩
  obtain ⟨M1, hM1⟩ : ∃ x, x = clrN (minN c a) := ⟨_, rfl⟩
  obtain ⟨M2, hM2⟩ : ∃ x, x = minN d b := ⟨_, rfl⟩
  obtain ⟨Z1, hZ1⟩ : ∃ x, x = clrN (minN a a) := ⟨_, rfl⟩
  obtain ⟨Z2, hZ2⟩ : ∃ x, x = minN b b := ⟨_, rfl⟩
  rw [← hU1e, ← hU2e] at CU CV NU
  rw [← hM1, ← hM2] at CM NM
  rw [← hZ1, ← hZ2] at CZ NZ
  have HT := Lib.hid hT
  have hT1 := Lib.hid hT.1
  clear hl ha hb hc hd hA64 hU1 hU2 hadd hzero hnA hnM hnU hA hU1e hU2e hM1 hM2 hZ1 hZ2 hT
  go_enter Tryd.func8, Tryd.ntmps8
  go_wp2_with fail
  have hA0 : Blk ((w.alloc (.cells #[.int .u64 (a : Int), .int .u64 (b : Int)] 24)).alloc (.cells #[.int .u64 (c : Int), .int .u64 (d : Int)] 24)) w.heap.size 24 #[.int .u64 (a : Int), .int .u64 (b : Int)] := (Blk.new _ _ _).alloc _
  have hC0 : Blk ((w.alloc (.cells #[.int .u64 (a : Int), .int .u64 (b : Int)] 24)).alloc (.cells #[.int .u64 (c : Int), .int .u64 (d : Int)] 24)) (w.heap.size + 1) 24 #[.int .u64 (c : Int), .int .u64 (d : Int)] := Blk.newAt (by simp)
  have HW0 : Hid (Below w.heap.size w ((w.alloc (.cells #[.int .u64 (a : Int), .int .u64 (b : Int)] 24)).alloc (.cells #[.int .u64 (c : Int), .int .u64 (d : Int)] 24))) := Lib.hid (((Below.refl _ _).alloc (Nat.le_refl _) _).alloc (by simp) _)
  refine (LP.out _).mono ?_
  rintro e w1 ⟨A0, k0, rfl, hk0, ho0, hb1⟩
  have hA1 := hA0.bel hb1
  have hC1 := hC0.bel hb1
  have HW1 := Lib.hid (HW0.out.trans (hb1.mono HW0.out.size))
  clear hA0 hC0 HW0
  go_wp2_with fail
  refine (of_any A0 l.length k0 l _ (ints_of_own ho0) (by omega) hk0 HOF).mono ?_
  rintro e w2 ⟨rfl, hb2⟩
  have hA2 := hA1.bel hb2
  have hC2 := hC1.bel hb2
  have HW2 := Lib.hid (HW1.out.trans (hb2.mono HW1.out.size))
  clear hA1 hC1 HW1
  simp only [ofV]
  go_wp2_with fail
  have hX : Blk (w2.alloc (.cells #[.int .u64 (A : Int), .int .u64 (b : Int)] 24)) w2.heap.size 24 #[.int .u64 (A : Int), .int .u64 (b : Int)] := Blk.new _ _ _
  have hA := hA2.alloc (.cells #[.int .u64 (A : Int), .int .u64 (b : Int)] 24)
  have hC := hC2.alloc (.cells #[.int .u64 (A : Int), .int .u64 (b : Int)] 24)
  have HW := Lib.hid (HW2.out.alloc HW2.out.size (.cells #[.int .u64 (A : Int), .int .u64 (b : Int)] 24))
  clear hA2 hC2 HW2 ho0 hb1 hb2
  have a0 := hA.cell 0
  have a1 := hA.cell 1
  have c0 := hC.cell 0
  have c1 := hC.cell 1
  have z0 := hX.cell 0
  have z1 := hX.cell 1
  generalize w2.alloc (.cells #[.int .u64 (A : Int), .int .u64 (b : Int)] 24) = V at *
  have hVB : V.heap.size ≤ V.heap.size := Nat.le_refl _
  have KS : Hid (∀ w', Below V.heap.size V w' → Below V.heap.size V w' ∧ w'.cell? ⟨w.heap.size, 0, none⟩ = some (.int .u64 (a : Int)) ∧ w'.cell? ⟨w.heap.size, 1, none⟩ = some (.int .u64 (b : Int)) ∧ w'.cell? ⟨w.heap.size + 1, 0, none⟩ = some (.int .u64 (c : Int)) ∧ w'.cell? ⟨w.heap.size + 1, 1, none⟩ = some (.int .u64 (d : Int)) ∧ w'.cell? ⟨w2.heap.size, 0, none⟩ = some (.int .u64 (A : Int)) ∧ w'.cell? ⟨w2.heap.size, 1, none⟩ = some (.int .u64 (b : Int))) :=
    Lib.hid fun w' h => ⟨h, (hA.bel h).cell 0, (hA.bel h).cell 1, (hC.bel h).cell 0, (hC.bel h).cell 1, (hX.bel h).cell 0, (hX.bel h).cell 1⟩
  have KT : Hid (∀ w', Below V.heap.size V w' → Tab w' ∧ Below w.heap.size w w') := Lib.hid fun w' h => have := HW.out.trans (h.mono HW.out.size); ⟨HT.out.below this hT1.out, this⟩
  clear hA hC hX
  go_region_held3 (fun w' => Below V.heap.size V w' ∧ w'.cell? ⟨w.heap.size, 0, none⟩ = some (.int .u64 (a : Int)) ∧ w'.cell? ⟨w.heap.size, 1, none⟩ = some (.int .u64 (b : Int)) ∧ w'.cell? ⟨w.heap.size + 1, 0, none⟩ = some (.int .u64 (c : Int)) ∧ w'.cell? ⟨w.heap.size + 1, 1, none⟩ = some (.int .u64 (d : Int)) ∧ w'.cell? ⟨w2.heap.size, 0, none⟩ = some (.int .u64 (A : Int)) ∧ w'.cell? ⟨w2.heap.size, 1, none⟩ = some (.int .u64 (b : Int))) (exact KS.out _ (by repeat (first | with_reducible assumption | with_reducible exact Below.refl _ _ | with_reducible refine Below.drew ?_ | with_reducible refine Below.allocV ?_ hVB _ | with_reducible refine Below.step ?_ hVB (by assumption)))) (first
    | (go_at_call 16; (with_reducible refine (LX.out _).mono ?_); rintro e v3 ⟨A1, k1, rfl, hk1, ho1, hc3⟩)
    | (go_at_call 16; (with_reducible refine (LP.out _).mono ?_); rintro e v4 ⟨A2, k2, rfl, hk2, ho2, hc4⟩)
    | (go_at_call 15; (with_reducible refine (lnumbers_any A1 A2 l.length k1 k2 l _ (ints_of_own (own_below (B' := 0) ho1 hc4)) (ints_of_own ho2) (by omega) hk1 hk2).mono ?_); rintro e v5 ⟨rfl, hc5⟩)
    | (go_at_call 23; (with_reducible refine (CU.out _).mono ?_); rintro e v6 ⟨rfl, hc6⟩)
    | (go_at_call 23; (with_reducible refine (CV.out _).mono ?_); rintro e v7 ⟨rfl, hc7⟩)
    | (go_at_call 25; (with_reducible refine (CM.out _).mono ?_); rintro e v8 ⟨rfl, hc8⟩)
    | (go_at_call 25; (with_reducible refine (CZ.out _).mono ?_); rintro e v9 ⟨rfl, hc9⟩)
    | (go_at_call 18; (with_reducible refine (NA.out _).mono ?_); rintro e v10 ⟨rfl, hc10⟩)
    | (go_at_call 18; (with_reducible refine (NU.out _).mono ?_); rintro e v11 ⟨rfl, hc11⟩)
    | (go_at_call 18; (with_reducible refine (NM.out _).mono ?_); rintro e v12 ⟨rfl, hc12⟩)
    | (go_at_call 18; (with_reducible refine (NZ.out _).mono ?_); rintro e v13 ⟨rfl, hc13⟩)
    | (go_at_call 20; (with_reducible refine (awake_any _ (KT.out _ (by repeat (first | with_reducible assumption | with_reducible exact Below.refl _ _ | with_reducible refine Below.drew ?_ | with_reducible refine Below.allocV ?_ hVB _ | with_reducible refine Below.step ?_ hVB (by assumption)))).1).mono ?_); rintro e v14 ⟨rfl, hc14⟩)
    | fail)
  all_goals go_wp2
  all_goals go_ret
  all_goals exact ⟨rfl, (KT.out _ (by repeat (first | with_reducible assumption | with_reducible exact Below.refl _ _ | with_reducible refine Below.drew ?_ | with_reducible refine Below.allocV ?_ hVB _ | with_reducible refine Below.step ?_ hVB (by assumption)))).2⟩

theorem own : ownKnob Tryd.prog.godebug = none := by kernel_rfl
theorem laidOut : laidOutB Tryd.prog = true := by kernel_rfl
theorem tab_of_cell {W : World} (h : W.cell? ⟨4, 15, none⟩ = some (.int .u8 4)) : Tab W := by
  refine ⟨?_, h⟩
  rcases Nat.lt_or_ge 4 W.heap.size with hl | hl
  · exact hl
  · simp [World.cell?, Array.getElem?_eq_none hl] at h
theorem gTab : Tryd.prog.globalNamed "math/bits.deBruijn64tab" = some 4 := by kernel_rfl
theorem gTabType : (Tryd.prog.globals[4]?).map (·.type) = some 89 := by kernel_rfl
theorem cellsTab : Tryd.prog.cellsOf 89 = 64 := by kernel_rfl
theorem cellsOne : Tryd.prog.cellsOf 5 = 1 := by kernel_rfl
theorem table {W : World} (h : laidMetH Tryd.prog Rows.bitmapCountsRow.laid W) : Tab W := by
  rw [MakeChecks.laidMetH_plain _ _ _ (by kernel_rfl)] at h
  have h1 := h
  have hc := (Lib.tabIs_of_head (k := .u8) (zs := [0, 1, 56, 2, 57, 49, 28, 3, 61, 58, 42, 50, 38, 29, 17, 4, 62, 47, 59, 36, 45, 43, 51, 22, 53, 39, 33, 30, 24, 18, 12, 5, 63, 55, 48, 27, 60, 41, 37, 16, 46, 35, 44, 21, 52, 32, 23, 11, 54, 26, 40, 15, 34, 20, 31, 10, 25, 14, 19, 9, 13, 8, 7, 6]) gTab gTabType Tryd.underlying89 Tryd.underlying5 cellsOne cellsTab h1.tail).cell gTab 15 (by decide)
  exact tab_of_cell hc

noncomputable def laidWorld (os : Os) : World := World.doorLaid Tryd.prog 400 os
theorem laid_met (os : Os) : laidMetH Tryd.prog Rows.bitmapCountsRow.laid ((laidWorld os).forCall (fun _ _ => 0) ⟨#[], #[.agg #[.int .u64 0, .int .u64 0], .agg #[.int .u64 0, .int .u64 0]], []⟩).memory :=
  laidMetH_of_parts3 (fuel := 8) (laidMet_of_run' 8 (by kernel_rfl) (by kernel_rfl)) (by kernel_rfl) (by kernel_rfl)
theorem reads (os : Os) {H : Type} (enc : TypeId × Value → H) : ∃ places, DataW.whole enc Tryd.prog ((laidWorld os).forCall (fun _ _ => 0) ⟨#[], #[.agg #[.int .u64 0, .int .u64 0], .agg #[.int .u64 0, .int .u64 0]], []⟩).memory Tryd.f8.params.toList Rows.bitmapCountsSpec.vars false (#[.agg #[.int .u64 0, .int .u64 0], .agg #[.int .u64 0, .int .u64 0]] : Array Value).toList 8 = some ([.agg [.lit (.int .u64 0), .lit (.int .u64 0)], .agg [.lit (.int .u64 0), .lit (.int .u64 0)]], [], places) :=
  ⟨[], by kernel_rfl⟩
theorem contract (H : Type) (enc : TypeId × Value → H) (W : World) (base : Nat) (args : Array Value) (ds gs : List (DataW H)) (before : List MemPlace)
    (hval0 : ∀ (j : Nat) t v, Tryd.f8.params[j]? = some t → args[j]? = some v → Value.okWide Tryd.prog W .any base t v)
    (hW : DataW.Whole enc Tryd.prog Tryd.f8.params.toList Rows.bitmapCountsSpec.vars false W args.toList ds gs before) (hL : laidMetH Tryd.prog Rows.bitmapCountsRow.laid W) :
    Calls Tryd.prog 8 args W fun e W' => ∃ v, e = .returned v ∧ Rows.bitmapCountsSpec.post enc Tryd.prog Tryd.f8 false true false false W args v W' := by
  have hval : ∀ (j : Nat) t v, Tryd.f8.params[j]? = some t → args[j]? = some v → Value.okWide Tryd.prog W .any base t v := hval0
  have hW' := hW
  obtain ⟨p, q, hA0, hV, rfl, hfz, hnd⟩ := hW
  have hA : DataW.TrodAll enc Tryd.prog W 0 (fun _ => true) true Tryd.f8.params.toList args.toList ds p := hA0
  rw [Tryd.params8] at hA hval
  obtain ⟨v0, vs0, d0, ds0, p0, q0, hargs, rfl, rfl, h0, r0⟩ := trodAll_cons hA
  obtain ⟨v1, vs1, d1, ds1, p1, q1, rfl, rfl, rfl, h1, r1⟩ := trodAll_cons r0
  obtain ⟨rfl, rfl, rfl⟩ := trodAll_nil r1
  obtain rfl : args = #[v0, v1] := by cases args; simp_all
  obtain ⟨rfl, rfl⟩ := trodVars_none hV
  have k0 := h0
  have lt0 : ∀ x ∈ p0, x.block < W.heap.size := by obtain ⟨m, hm⟩ := k0; exact DataW.trod_lt m _ _ _ hm
  obtain ⟨x0, y0, rfl, -, -, wx0, wy0⟩ := Go.WideMaps.open_pair arrBm Tryd.underlying22 (hval 0 24 v0 rfl rfl) h0
  have k1 := h1
  have lt1 : ∀ x ∈ p1, x.block < W.heap.size := by obtain ⟨m, hm⟩ := k1; exact DataW.trod_lt m _ _ _ hm
  obtain ⟨x1, y1, rfl, -, -, wx1, wy1⟩ := Go.WideMaps.open_pair arrBm Tryd.underlying22 (hval 1 24 v1 rfl rfl) h1
  clear hA0 hval0
  refine (walk x0 y0 x1 y1 W wx0 wy0 wx1 wy1 (table hL)).mono fun e W' ⟨he, bel⟩ => ?_
  subst he
  exact ⟨_, rfl, _, _, _, [], _, [], hW', trodAll_mk1 (shut_bool Tryd.underlying4 _), (trodAll_cons_mk (Below.trod laidOut (by kernel_rfl) (of_decide_eq_true (by kernel_rfl)) k0 bel lt0) (trodAll_cons_mk (Below.trod laidOut (by kernel_rfl) (of_decide_eq_true (by kernel_rfl)) k1 bel lt1) trodAll_mk0)), rfl, bel.frame _, fun h => by cases h⟩

set_option maxRecDepth 100000 in
theorem lifted (os : Os) (started : os.Started) (H : Type) (enc : TypeId × Value → H) (F : Stop.Interp) :
    ReturnsInHanded {} Tryd.checked os 8 .any ((OpenSpec.ofChange Rows.bitmapCountsSpec).preRow enc Tryd.prog Tryd.f8 Rows.bitmapCountsRow.domain false Rows.bitmapCountsRow.laid) (((OpenSpec.ofChange Rows.bitmapCountsSpec).at F).post enc Tryd.prog Tryd.f8 false true false false) := by
  obtain ⟨places, hx⟩ := reads os enc
  refine returnsInHanded_of_row (C := Tryd.checked) (s := OpenSpec.ofChange Rows.bitmapCountsSpec) own started (by kernel_rfl) Tryd.func8
    (witness_row_at (enc := enc) (C := Tryd.checked) false (laidWorld os) #[.agg #[.int .u64 0, .int .u64 0], .agg #[.int .u64 0, .int .u64 0]] rfl (by kernel_rfl) (by kernel_rfl) (by kernel_rfl)
      (OpenSpec.preRow_of_cond 8 hx (by kernel_rfl) (fun k hk => by cases hk) (by kernel_rfl) (laid_met os))) ?_
  intro W base args ds gs before hval hW _ _ _ hL _ _
  exact contract H enc W base args ds gs before hval hW hL
theorem said : Rows.BitmapCountsSaid :=
  OpenClaim.holds_of_cond 8 Tryd.f8 rfl rfl rfl rfl rfl rfl rfl ⟨rfl, rfl, rfl, rfl, rfl⟩ rfl rfl rfl rfl rfl (by kernel_rfl) Tryd.func8 (by kernel_rfl)
    (of_decide_eq_true (by kernel_rfl)) (by unfold Func.isWrapper; first | (rw [if_pos (by decide +kernel)]; kernel_rfl) | (rw [if_neg (by decide +kernel)]; exact ⟨rfl, rfl⟩))
    (fun os started H enc _ F => by rw [OpenClaim.pre_eq_preRow]; exact lifted os started H enc F)
/-- No parameter wants a stand-in; the program's own looks are off. -/
theorem plain (f : FuncId) (fn : Func) (hf : Tryd.pinned.checked.prog.funcNamed "cardnet/cardnetlaw05.BitmapCounts" = some f) (hfn : Tryd.pinned.checked.prog.funcs[f]? = some fn) :
    true = Tryd.pinned.checked.prog.looks [] ∧ ∀ (j : Nat) t, fn.params[j]? = some t → Tryd.pinned.checked.prog.wantsStandIn t = false := by
  obtain rfl : f = 8 := Option.some.inj ((show Tryd.prog.funcNamed "cardnet/cardnetlaw05.BitmapCounts" = some 8 by kernel_rfl).symm.trans hf) |>.symm
  obtain rfl : fn = Tryd.f8 := (Option.some.inj (Tryd.func8.symm.trans hfn)).symm
  refine ⟨by kernel_rfl, fun j t ht => ?_⟩
  rw [Tryd.params8] at ht
  have hm : t ∈ [24, 24] := by simpa using Array.mem_of_getElem? ht
  have hall : ([24, 24].all fun u => !Tryd.prog.wantsStandIn u) = true := by kernel_rfl
  exact (show Tryd.prog.wantsStandIn t = false by simpa using List.all_eq_true.1 hall t hm)
/-- THE CARD: the statement. -/
theorem proved : Rows.BitmapCountsCardSaid :=
  Claim7.holds_tied_plain_at .later [] _ _ _ _ said (fun _ h => by cases h) (by kernel_rfl) (fun _ h => by cases h) bitmapCounts_row_tie rfl ⟨rfl, rfl⟩ (by kernel_rfl) rfl plain (by kernel_rfl)
#print axioms proved
end Go.Proofs.YtacdfhgamjinbaaDoor.bitmapCounts
