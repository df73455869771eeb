/-
  PROVED: for every bitmap and every string, the law BitmapRoundTrip returns true: a bitmap is decoded from its encoding, whatever follows, and what is accepted is the encoding of the result, and the example holds; the card ties the listed tables and variables to the program's text. Conditions: none besides the form's own reach.
-/
import Derived.Test.YtacdfhgamjinbaaDoorCards
import Derived.Test.YtacdfhgamjinbaaDoorTie
import Derived.WalkKit
import Derived.ProofKit
import Derived.OpenShut
import Derived.ShutString
import Derived.ChangeOld
import Derived.Below
import Derived.Deep.DeepHandedRow
import Derived.Lib.LaidTab
import Derived.LaidMore
import Derived.Stop.LaidErr
import Derived.Stop.Joined
import Derived.LaidHandle
import Derived.ChangeSlices
import Derived.SliceStrings
import Derived.WideKeyPair
import Derived.Deep.RegionHeld3
import Derived.Deep.DeepCutAuto
import Derived.Test.YtacdfhgamjinbaaDoorB20
import Derived.Test.YtacdfhgamjinbaaDoorBMath4
import Derived.Test.YtacdfhgamjinbaaDoorB5
namespace Go.Proofs.YtacdfhgamjinbaaDoor.bitmapRoundTrip
open Go.ChangeShapes Go.WideShapes Go.ChangeAt Go.RowKit
open Go.ChangeMaps (open_string shut_string)
set_option linter.unusedVariables false
theorem arrBm : Go.WideMaps.ArrKey Tryd.prog 24 22 2 := ⟨by kernel_rfl, by kernel_rfl, by kernel_rfl, by kernel_rfl⟩
theorem u64_nat {x : Int} (h : (Lit.int .u64 x).wf = true) : ∃ n : Nat, x = n ∧ n < 18446744073709551616 := by
  simp [Lit.wf, IntKind.min, IntKind.max, IntKind.signed, IntKind.bits] at h
  exact ⟨x.toNat, by omega, by omega⟩
theorem clr_top (a : Nat) : ((clrN a : Nat) : Int) / 9223372036854775808 = 0 := by have := clrN_lt a; omega
set_option maxRecDepth 100000 in
set_option maxHeartbeats 4000000 in
theorem walk (x0 y0 : Int) (s : ByteArray) (w : World) (wx0 : (Lit.int .u64 x0).wf = true) (wy0 : (Lit.int .u64 y0).wf = true) (hs : s.size ≤ maxLen) (hT : Tab w) (hE : Errs w) :
    Calls Tryd.prog 7 #[.agg #[.int .u64 x0, .int .u64 y0], .string s] w fun e w' => e = .returned (.bool true) ∧ Below w.heap.size w w' := by
  obtain ⟨a, rfl, ha⟩ := u64_nat wx0
  obtain ⟨b, rfl, hb⟩ := u64_nat wy0
  clear wx0 wy0
  have HT := Lib.hid hT
  have hT1 := Lib.hid hT.1
  have HEr := Lib.hid hE
  have hE1 := Lib.hid hE.1
  clear hT hE
  unfold maxLen at hs
  by_cases hl : 300 < s.size
  · go_enter Tryd.func7, Tryd.ntmps7
    go_wp2_with fail
    refine (awake_any _ (HT.out.below ((Below.refl w.heap.size w).alloc (Nat.le_refl _) _) hT1.out)).mono ?_
    rintro e w1 ⟨rfl, hb1⟩
    go_wp2
    go_ret
    exact ⟨rfl, ((Below.refl _ _).alloc (Nat.le_refl _) _).trans (hb1.mono (by simp))⟩
  have hl2 : s.size ≤ 300 := by omega
  clear hl
  obtain ⟨A, B, m, er, hP, DC, -⟩ := dec_total s (by omega)
  have he : ∀ (x y : Int) (w : World), (Op.equalIn 10000 24 (.agg #[.int .u64 x, .int .u64 y]) (.agg #[.int .u64 x, .int .u64 y])).run Tryd.prog w = .ok true w := fun x y w => by rw [eq_arr]; simp
  have KDS := Lib.hid DC
  have KDT := Lib.hid (dec_enc a b ha hb s (by omega))
  have CE := Lib.hid (fun w h => encode_any a b ha hb w h)
  have htz := encS_size a b
  have htz2 : (encS a b).size ≤ 32 := by rw [htz]; split <;> omega
  have hX64 : clrN a < 18446744073709551616 := Nat.lt_trans (clrN_lt a) (by decide)
  have LP := Lib.hid (fun w => plist_any 0 a b ha hb w (Nat.zero_le _))
  have LX : Hid (∀ w, Calls Tryd.prog 16 #[bmV (clrN a) b] w (RetInts 0 w (fl (hasN a b) 127))) := Lib.hid (fun w => by have := plist_any 0 (clrN a) b hX64 hb w (Nat.zero_le _); rw [fl_clr] at this; exact this)
  have HO := Lib.hid (fun w => has_out (clrN a) b 1 (by omega) w)
  have htop := clr_top a
  have hl1 := fl_len (hasN a b) 127
  obtain ⟨l, hl⟩ : ∃ l, l = fl (hasN a b) 127 := ⟨_, rfl⟩
  rw [← hl] at LP LX hl1
  obtain ⟨X, hX⟩ : ∃ x, x = clrN a := ⟨_, rfl⟩
  rw [← hX] at LX HO htop KDT
  generalize encS a b = t at *
  have hts : t.size + s.size ≤ 9223372036854775807 := by omega
  have HP := Lib.hid hP
  clear DC hl hX hX64 htz hP ha hb
  go_enter Tryd.func7, Tryd.ntmps7
  go_wp2_with fail
  have hA0 : Blk (w.alloc (.cells #[.int .u64 (a : Int), .int .u64 (b : Int)] 24)) w.heap.size 24 #[.int .u64 (a : Int), .int .u64 (b : Int)] := Blk.new _ _ _
  have HW0 : Hid (Below w.heap.size w (w.alloc (.cells #[.int .u64 (a : Int), .int .u64 (b : Int)] 24))) := Lib.hid ((Below.refl _ _).alloc (Nat.le_refl _) _)
  refine (CE.out _ (HT.out.below HW0.out hT1.out)).mono ?_
  rintro e w1 ⟨rfl, hb1⟩
  have hA1 := hA0.bel hb1
  have HW1 := Lib.hid (HW0.out.trans (hb1.mono HW0.out.size))
  clear hA0 HW0
  go_wp2_with fail
  refine (KDT.out _ (HEr.out.upto HW1.out hE1.out)).mono ?_
  rintro e w2 ⟨rfl, hb2⟩
  have hA2 := hA1.bel hb2
  have HW2 := Lib.hid (HW1.out.trans (hb2.mono HW1.out.size))
  clear hA1 HW1
  go_wp2_with fail
  have hA := hA2.alloc (.cells #[.int .u64 (X : Int), .int .u64 (b : Int)] 24)
  have hX : Blk (w2.alloc (.cells #[.int .u64 (X : Int), .int .u64 (b : Int)] 24)) w2.heap.size 24 #[.int .u64 (X : Int), .int .u64 (b : Int)] := Blk.new _ _ _
  have HW := Lib.hid (HW2.out.alloc HW2.out.size (.cells #[.int .u64 (X : Int), .int .u64 (b : Int)] 24))
  clear hA2 HW2 hb1 hb2
  have a0 := hA.cell 0
  have a1 := hA.cell 1
  have x0 := hX.cell 0
  have x1 := hX.cell 1
  generalize w2.alloc (.cells #[.int .u64 (X : Int), .int .u64 (b : Int)] 24) = V at *
  have hVB : V.heap.size ≤ V.heap.size := Nat.le_refl _
  have KS : Hid (∀ w', Below V.heap.size V w' → Below V.heap.size V w' ∧ w'.cell? ⟨w.heap.size, 0, none⟩ = some (.int .u64 (a : Int)) ∧ w'.cell? ⟨w.heap.size, 1, none⟩ = some (.int .u64 (b : Int)) ∧ w'.cell? ⟨w2.heap.size, 0, none⟩ = some (.int .u64 (X : Int)) ∧ w'.cell? ⟨w2.heap.size, 1, none⟩ = some (.int .u64 (b : Int))) :=
    Lib.hid fun w' h => ⟨h, (hA.bel h).cell 0, (hA.bel h).cell 1, (hX.bel h).cell 0, (hX.bel h).cell 1⟩
  have KT : Hid (∀ w', Below V.heap.size V w' → Errs w' ∧ Below w.heap.size w w') := Lib.hid fun w' h => have := HW.out.trans (h.mono HW.out.size); ⟨HEr.out.upto this hE1.out, this⟩
  clear hA hX
  go_cut [51] (fun c wx => c = .bool false ∧ Below V.heap.size V wx)
  case first =>
    go_region_held3 (fun w' => Below V.heap.size V w' ∧ w'.cell? ⟨w.heap.size, 0, none⟩ = some (.int .u64 (a : Int)) ∧ w'.cell? ⟨w.heap.size, 1, none⟩ = some (.int .u64 (b : Int)) ∧ w'.cell? ⟨w2.heap.size, 0, none⟩ = some (.int .u64 (X : Int)) ∧ w'.cell? ⟨w2.heap.size, 1, none⟩ = some (.int .u64 (b : Int))) (exact KS.out _ (by repeat (first | with_reducible assumption | with_reducible exact Below.refl _ _ | with_reducible refine Below.drew ?_ | with_reducible refine Below.allocV ?_ hVB _ | with_reducible refine Below.step ?_ hVB (by assumption)))) (first
      | (go_at_call 16; (with_reducible refine (LX.out _).mono ?_); rintro e v3 ⟨A1, k1, rfl, hk1, ho1, hc3⟩)
      | (go_at_call 16; (with_reducible refine (LP.out _).mono ?_); rintro e v4 ⟨A2, k2, rfl, hk2, ho2, hc4⟩)
      | (go_at_call 15; (with_reducible refine (lnumbers_any A1 A2 l.length k1 k2 l _ (ints_of_own (own_below (B' := 0) ho1 hc4)) (ints_of_own ho2) (by omega) hk1 hk2).mono ?_); rintro e v5 ⟨rfl, hc5⟩)
      | (go_at_call 13; (with_reducible refine (HO.out _).mono ?_); rintro e v6 ⟨rfl, hc6⟩)
      | fail)
    all_goals (go_wp2_with fail; go_meet; exact ⟨rfl, (by repeat (first | with_reducible assumption | with_reducible exact Below.refl _ _ | with_reducible refine Below.drew ?_ | with_reducible refine Below.allocV ?_ hVB _ | with_reducible refine Below.step ?_ hVB (by assumption)))⟩)
  case rest =>
    obtain ⟨rfl, hcb⟩ := hcut
    have HK := Lib.hid (KT.out _ hcb)
    clear a0 a1 x0 x1 hcb KS KT HW
    go_wp2_with fail
    refine (KDS.out _ HK.out.1).mono ?_
    rintro e w3 ⟨rfl, hb3⟩
    have HW3 : Hid (Below w.heap.size w w3) := Lib.hid (HK.out.2.trans (hb3.mono HK.out.2.size))
    clear hb3 HK
    rcases HP.out with ⟨hne, rfl, rfl, rfl⟩ | ⟨rfl, hA64, hB64, k, rfl, hk1, hk2, hk3⟩
    · have hne2 : (er != 0) = true := by simpa using hne
      have he0 := he 0 0
      go_wp2_with fail
      refine (awake_any _ ((HT.out.below (HW3.out.alloc HW3.out.size _) hT1.out))).mono ?_
      rintro e w4 ⟨rfl, hb4⟩
      go_wp2
      go_ret
      exact ⟨rfl, (HW3.out.alloc HW3.out.size _).trans (hb4.mono (by have := HW3.out.size; simp; omega))⟩
    · have CE2 := Lib.hid (fun w h => encode_any A B hA64 hB64 w h)
      have hg1 : (0 : Int) ≤ (k : Int) := by omega
      have hg2 : (k : Int) ≤ (s.size : Int) := by omega
      have hg3 : (16 : Int) ≤ (k : Int) := by omega
      have hsl : s.extract 0 k = encS A B := hk3.symm
      generalize encS A B = t2 at *
      go_wp2_with fail
      have hY : Blk (w3.alloc (.cells #[.int .u64 (A : Int), .int .u64 (B : Int)] 24)) w3.heap.size 24 #[.int .u64 (A : Int), .int .u64 (B : Int)] := Blk.new _ _ _
      have HW4 := Lib.hid (HW3.out.alloc HW3.out.size (.cells #[.int .u64 (A : Int), .int .u64 (B : Int)] 24))
      clear HW3
      have y0 := hY.cell 0
      have y1 := hY.cell 1
      generalize w3.alloc (.cells #[.int .u64 (A : Int), .int .u64 (B : Int)] 24) = U at *
      have hUB : U.heap.size ≤ U.heap.size := Nat.le_refl _
      have KS : Hid (∀ w', Below U.heap.size U w' → Below U.heap.size U w' ∧ w'.cell? ⟨w3.heap.size, 0, none⟩ = some (.int .u64 (A : Int)) ∧ w'.cell? ⟨w3.heap.size, 1, none⟩ = some (.int .u64 (B : Int))) := Lib.hid fun w' h => ⟨h, (hY.bel h).cell 0, (hY.bel h).cell 1⟩
      have KT : Hid (∀ w', Below U.heap.size U w' → Tab w' ∧ Below w.heap.size w w') := Lib.hid fun w' h => have := HW4.out.trans (h.mono HW4.out.size); ⟨HT.out.below this hT1.out, this⟩
      clear hY hk3
      go_region_held3 (fun w' => Below U.heap.size U w' ∧ w'.cell? ⟨w3.heap.size, 0, none⟩ = some (.int .u64 (A : Int)) ∧ w'.cell? ⟨w3.heap.size, 1, none⟩ = some (.int .u64 (B : Int))) (exact KS.out _ (by repeat (first | with_reducible assumption | with_reducible exact Below.refl _ _ | with_reducible refine Below.drew ?_ | with_reducible refine Below.allocV ?_ hUB _ | with_reducible refine Below.step ?_ hUB (by assumption)))) (first
        | (go_at_call 29; (with_reducible refine (CE2.out _ (KT.out _ (by repeat (first | with_reducible assumption | with_reducible exact Below.refl _ _ | with_reducible refine Below.drew ?_ | with_reducible refine Below.allocV ?_ hUB _ | with_reducible refine Below.step ?_ hUB (by assumption)))).1).mono ?_); rintro e v7 ⟨rfl, hc7⟩)
        | (go_at_call 20; (with_reducible refine (awake_any _ (KT.out _ (by repeat (first | with_reducible assumption | with_reducible exact Below.refl _ _ | with_reducible refine Below.drew ?_ | with_reducible refine Below.allocV ?_ hUB _ | with_reducible refine Below.step ?_ hUB (by assumption)))).1).mono ?_); rintro e v8 ⟨rfl, hc8⟩)
        | fail)
      all_goals go_wp2
      all_goals go_ret
      all_goals exact ⟨rfl, (KT.out _ (by repeat (first | with_reducible assumption | with_reducible exact Below.refl _ _ | with_reducible refine Below.drew ?_ | with_reducible refine Below.allocV ?_ hUB _ | with_reducible refine Below.step ?_ hUB (by assumption)))).2⟩

theorem own : ownKnob Tryd.prog.godebug = none := by kernel_rfl
theorem laidOut : laidOutB Tryd.prog = true := by kernel_rfl
theorem tab_of_cell {W : World} (h : W.cell? ⟨4, 15, none⟩ = some (.int .u8 4)) : Tab W := by
  refine ⟨?_, h⟩
  rcases Nat.lt_or_ge 4 W.heap.size with hl | hl
  · exact hl
  · simp [World.cell?, Array.getElem?_eq_none hl] at h
theorem gTab : Tryd.prog.globalNamed "math/bits.deBruijn64tab" = some 4 := by kernel_rfl
theorem gTabType : (Tryd.prog.globals[4]?).map (·.type) = some 89 := by kernel_rfl
theorem cellsTab : Tryd.prog.cellsOf 89 = 64 := by kernel_rfl
theorem cellsOne : Tryd.prog.cellsOf 5 = 1 := by kernel_rfl
theorem table {W : World} (h : laidMetH Tryd.prog Rows.bitmapRoundTripRow.laid W) : Tab W := by
  rw [MakeChecks.laidMetH_plain _ _ _ (by kernel_rfl)] at h
  have h1 := h
  have hc := (Lib.tabIs_of_head (k := .u8) (zs := [0, 1, 56, 2, 57, 49, 28, 3, 61, 58, 42, 50, 38, 29, 17, 4, 62, 47, 59, 36, 45, 43, 51, 22, 53, 39, 33, 30, 24, 18, 12, 5, 63, 55, 48, 27, 60, 41, 37, 16, 46, 35, 44, 21, 52, 32, 23, 11, 54, 26, 40, 15, 34, 20, 31, 10, 25, 14, 19, 9, 13, 8, 7, 6]) gTab gTabType Tryd.underlying89 Tryd.underlying5 cellsOne cellsTab h1.tail).cell gTab 15 (by decide)
  exact tab_of_cell hc
theorem star : "*" ++ "errors.errorString" = "*errors.errorString" := by decide
theorem rowES (u : TypeId) (h : Tryd.prog.typeName? 3 u = some "*errors.errorString") : u = 83 :=
  typeName_ptr_named (nm := "errors.errorString") (by rw [star]; kernel_rfl) (by kernel_rfl) (by decide) u (by rw [star]; exact h)
theorem gSyn : Tryd.prog.globalNamed "strconv.ErrSyntax" = some 0 := by kernel_rfl
theorem gRan : Tryd.prog.globalNamed "strconv.ErrRange" = some 1 := by kernel_rfl
theorem errs {W : World} (hT : Tab W) (h : laidMetH Tryd.prog Rows.bitmapRoundTripRow.laid W) : Errs W := by
  rw [MakeChecks.laidMetH_plain _ _ _ (by kernel_rfl)] at h
  have hr := h.tail.tail.tail
  have hy := hr.tail
  refine ⟨Nat.lt_of_le_of_lt (by decide) hT.1, ?_, ?_⟩
  · obtain ⟨a, x, hv, -, -, -⟩ := laid_sentinel hy gSyn (by kernel_rfl) Tryd.underlying53 rowES Tryd.underlying83 Tryd.underlying85 rfl rfl Tryd.underlying9 (by kernel_rfl) (by kernel_rfl)
    exact ⟨_, _, by simpa using World.var?_cell gSyn hv 0⟩
  · obtain ⟨a, x, hv, -, -, -⟩ := laid_sentinel hr gRan (by kernel_rfl) Tryd.underlying53 rowES Tryd.underlying83 Tryd.underlying85 rfl rfl Tryd.underlying9 (by kernel_rfl) (by kernel_rfl)
    exact ⟨_, _, by simpa using World.var?_cell gRan hv 0⟩

noncomputable def laidWorld (os : Os) : World := World.doorLaid Tryd.prog 400 os
theorem laid_met (os : Os) : laidMetH Tryd.prog Rows.bitmapRoundTripRow.laid ((laidWorld os).forCall (fun _ _ => 0) ⟨#[], #[.agg #[.int .u64 0, .int .u64 0], .string ByteArray.empty], []⟩).memory :=
  laidMetH_of_parts3 (fuel := 8) (laidMet_of_run' 8 (by kernel_rfl) (by kernel_rfl)) (by kernel_rfl) (by kernel_rfl)
theorem reads (os : Os) {H : Type} (enc : TypeId × Value → H) : ∃ places, DataW.whole enc Tryd.prog ((laidWorld os).forCall (fun _ _ => 0) ⟨#[], #[.agg #[.int .u64 0, .int .u64 0], .string ByteArray.empty], []⟩).memory Tryd.f7.params.toList Rows.bitmapRoundTripSpec.vars false (#[.agg #[.int .u64 0, .int .u64 0], .string ByteArray.empty] : Array Value).toList 8 = some ([.agg [.lit (.int .u64 0), .lit (.int .u64 0)], .lit (.string [])], [], places) :=
  ⟨[], by kernel_rfl⟩
theorem contract (H : Type) (enc : TypeId × Value → H) (W : World) (base : Nat) (args : Array Value) (ds gs : List (DataW H)) (before : List MemPlace)
    (hval0 : ∀ (j : Nat) t v, Tryd.f7.params[j]? = some t → args[j]? = some v → Value.okWide Tryd.prog W .any base t v)
    (hW : DataW.Whole enc Tryd.prog Tryd.f7.params.toList Rows.bitmapRoundTripSpec.vars false W args.toList ds gs before) (hL : laidMetH Tryd.prog Rows.bitmapRoundTripRow.laid W) :
    Calls Tryd.prog 7 args W fun e W' => ∃ v, e = .returned v ∧ Rows.bitmapRoundTripSpec.post enc Tryd.prog Tryd.f7 false true false false W args v W' := by
  have hval : ∀ (j : Nat) t v, Tryd.f7.params[j]? = some t → args[j]? = some v → Value.okWide Tryd.prog W .any base t v := hval0
  have hW' := hW
  obtain ⟨p, q, hA0, hV, rfl, hfz, hnd⟩ := hW
  have hA : DataW.TrodAll enc Tryd.prog W 0 (fun _ => true) true Tryd.f7.params.toList args.toList ds p := hA0
  rw [Tryd.params7] at hA hval
  obtain ⟨v0, vs0, d0, ds0, p0, q0, hargs, rfl, rfl, h0, r0⟩ := trodAll_cons hA
  obtain ⟨v1, vs1, d1, ds1, p1, q1, rfl, rfl, rfl, h1, r1⟩ := trodAll_cons r0
  obtain ⟨rfl, rfl, rfl⟩ := trodAll_nil r1
  obtain rfl : args = #[v0, v1] := by cases args; simp_all
  obtain ⟨rfl, rfl⟩ := trodVars_none hV
  have k0 := h0
  have lt0 : ∀ x ∈ p0, x.block < W.heap.size := by obtain ⟨m, hm⟩ := k0; exact DataW.trod_lt m _ _ _ hm
  obtain ⟨x0, y0, rfl, -, -, wx0, wy0⟩ := Go.WideMaps.open_pair arrBm Tryd.underlying22 (hval 0 24 v0 rfl rfl) h0
  have k1 := h1
  have lt1 : ∀ x ∈ p1, x.block < W.heap.size := by obtain ⟨m, hm⟩ := k1; exact DataW.trod_lt m _ _ _ hm
  obtain ⟨a1, rfl, -, -, w1⟩ := open_string Tryd.underlying9 (hval 1 9 v1 rfl rfl) h1
  clear hA0 hval0
  refine (walk x0 y0 a1 W wx0 wy0 w1 (table hL) (errs (table hL) hL)).mono fun e W' ⟨he, bel⟩ => ?_
  subst he
  exact ⟨_, rfl, _, _, _, [], _, [], hW', trodAll_mk1 (shut_bool Tryd.underlying4 _), (trodAll_cons_mk (Below.trod laidOut (by kernel_rfl) (of_decide_eq_true (by kernel_rfl)) k0 bel lt0) (trodAll_cons_mk (Below.trod laidOut (by kernel_rfl) (of_decide_eq_true (by kernel_rfl)) k1 bel lt1) trodAll_mk0)), rfl, bel.frame _, fun h => by cases h⟩

set_option maxRecDepth 100000 in
theorem lifted (os : Os) (started : os.Started) (H : Type) (enc : TypeId × Value → H) (F : Stop.Interp) :
    ReturnsInHanded {} Tryd.checked os 7 .any ((OpenSpec.ofChange Rows.bitmapRoundTripSpec).preRow enc Tryd.prog Tryd.f7 Rows.bitmapRoundTripRow.domain false Rows.bitmapRoundTripRow.laid) (((OpenSpec.ofChange Rows.bitmapRoundTripSpec).at F).post enc Tryd.prog Tryd.f7 false true false false) := by
  obtain ⟨places, hx⟩ := reads os enc
  refine returnsInHanded_of_row (C := Tryd.checked) (s := OpenSpec.ofChange Rows.bitmapRoundTripSpec) own started (by kernel_rfl) Tryd.func7
    (witness_row_at (enc := enc) (C := Tryd.checked) false (laidWorld os) #[.agg #[.int .u64 0, .int .u64 0], .string ByteArray.empty] rfl (by kernel_rfl) (by kernel_rfl) (by kernel_rfl)
      (OpenSpec.preRow_of_cond 8 hx (by kernel_rfl) (fun k hk => by cases hk) (by kernel_rfl) (laid_met os))) ?_
  intro W base args ds gs before hval hW _ _ _ hL _ _
  exact contract H enc W base args ds gs before hval hW hL
theorem said : Rows.BitmapRoundTripSaid :=
  OpenClaim.holds_of_cond 7 Tryd.f7 rfl rfl rfl rfl rfl rfl rfl ⟨rfl, rfl, rfl, rfl, rfl⟩ rfl rfl rfl rfl rfl (by kernel_rfl) Tryd.func7 (by kernel_rfl)
    (of_decide_eq_true (by kernel_rfl)) (by unfold Func.isWrapper; first | (rw [if_pos (by decide +kernel)]; kernel_rfl) | (rw [if_neg (by decide +kernel)]; exact ⟨rfl, rfl⟩))
    (fun os started H enc _ F => by rw [OpenClaim.pre_eq_preRow]; exact lifted os started H enc F)
/-- No parameter wants a stand-in; the program's own looks are off. -/
theorem plain (f : FuncId) (fn : Func) (hf : Tryd.pinned.checked.prog.funcNamed "cardnet/cardnetlaw05.BitmapRoundTrip" = some f) (hfn : Tryd.pinned.checked.prog.funcs[f]? = some fn) :
    true = Tryd.pinned.checked.prog.looks [] ∧ ∀ (j : Nat) t, fn.params[j]? = some t → Tryd.pinned.checked.prog.wantsStandIn t = false := by
  obtain rfl : f = 7 := Option.some.inj ((show Tryd.prog.funcNamed "cardnet/cardnetlaw05.BitmapRoundTrip" = some 7 by kernel_rfl).symm.trans hf) |>.symm
  obtain rfl : fn = Tryd.f7 := (Option.some.inj (Tryd.func7.symm.trans hfn)).symm
  refine ⟨by kernel_rfl, fun j t ht => ?_⟩
  rw [Tryd.params7] at ht
  have hm : t ∈ [24, 9] := by simpa using Array.mem_of_getElem? ht
  have hall : ([24, 9].all fun u => !Tryd.prog.wantsStandIn u) = true := by kernel_rfl
  exact (show Tryd.prog.wantsStandIn t = false by simpa using List.all_eq_true.1 hall t hm)
/-- THE CARD: the statement. -/
theorem proved : Rows.BitmapRoundTripCardSaid :=
  Claim7.holds_tied_plain_at .later [] _ _ _ _ said (fun _ h => by cases h) (by kernel_rfl) (fun _ h => by cases h) bitmapRoundTrip_row_tie rfl ⟨rfl, rfl⟩ (by kernel_rfl) rfl plain (by kernel_rfl)
#print axioms proved
end Go.Proofs.YtacdfhgamjinbaaDoor.bitmapRoundTrip
