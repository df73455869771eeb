/-
  PROVED: for every key and all strings, the law KeyedChecks returns true: Verify and Number accept and return what is specified, and the examples hold; the card ties the listed tables and variables to the program's text. Conditions: none besides the form's own reach.
-/
import Derived.Test.YtkobhepiacfehaaDoorCards
import Derived.Test.YtkobhepiacfehaaDoorTie
import Derived.WalkKit
import Derived.ProofKit
import Derived.OpenShut
import Derived.ShutString
import Derived.ChangeOld
import Derived.Below
import Derived.Deep.DeepHandedRow
import Derived.Lib.LaidTab
import Derived.LaidMore
import Derived.Stop.LaidErr
import Derived.Stop.Joined
import Derived.LaidHandle
import Derived.Test.YtkobhepiacfehaaDoorKAwake
import Derived.Test.YtkobhepiacfehaaDoorKChk2
namespace Go.Proofs.YtkobhepiacfehaaDoor.keyedChecks
open Go.ChangeShapes Go.WideShapes Go.ChangeAt Go.RowKit
open Go.ChangeMaps (open_string shut_string)
set_option linter.unusedVariables false
set_option maxHeartbeats 2000000 in
theorem walk (a : Int) (s c : ByteArray) (w : World) (w0 : (Lit.int .u64 a).wf = true) (hs : s.size ≤ maxLen) (hcm : c.size ≤ maxLen) (hTE : Std w ∧ Errs w) :
    Calls Tryd.prog 4 #[.int .u64 a, .string s, .string c] w fun e w' => e = .returned (.bool true) ∧ Below w.heap.size w w' := by
  obtain ⟨hT, hEr⟩ := hTE
  have HE := Lib.hid hEr
  clear hEr
  obtain ⟨key, rfl⟩ : ∃ p : Nat, a = p := ⟨a.toNat, by simp [Lit.wf, IntKind.min, IntKind.max, IntKind.signed, IntKind.bits] at w0; omega⟩
  have hk : key < 18446744073709551616 := by simp [Lit.wf, IntKind.min, IntKind.max, IntKind.signed, IntKind.bits] at w0; omega
  have HK := Lib.hid hk
  have HM := Lib.hid hs
  have HT := Lib.hid hT
  unfold maxLen at hs
  clear hT w0
  have HMC := Lib.hid hcm
  unfold maxLen at hcm
  clear hk
  by_cases hl : 1000 < s.size
  · go_enter Tryd.func4, Tryd.ntmps4
    go_wp2_with (go_at_call 7; refine (awake_any _ HT.out).mono ?_; rintro e w1 ⟨rfl, hb⟩)
    go_ret
    exact ⟨rfl, by assumption⟩
  have hl2 : s.size ≤ 1000 := by omega
  clear hl
  by_cases hlc : 1000 < c.size
  · go_enter Tryd.func4, Tryd.ntmps4
    go_wp2_with (go_at_call 7; refine (awake_any _ HT.out).mono ?_; rintro e w1 ⟨rfl, hb⟩)
    go_ret
    exact ⟨rfl, by assumption⟩
  have hlc2 : c.size ≤ 1000 := by omega
  clear hlc
  by_cases hn : hexS (numN c) 16 = c
  · have HB : Hid (true = ((hexS (numN c) 16).toList == c.toList)) := Lib.hid (by rw [hn]; simp)
    have hnum : ∀ w' : World, Calls Tryd.prog 16 #[.string c] w' fun e w'' => e = .returned (.tuple #[.int .u64 (numN c : Int), .int .i64 0]) ∧ Below w'.heap.size w' w'' := fun w' => by
      have := number_any (numN c) (numN_lt c) w'
      rw [hn] at this
      exact this
    have HNUM := Lib.hid hnum
    clear hnum hn
    by_cases hv : c.size < 1 ∨ 12 < c.size
    · skip
      have HO := Lib.hid hv
      clear hv
      go_enter Tryd.func4, Tryd.ntmps4
      have hc0 : Below w.heap.size w w := Below.refl _ _
      have HT0 := HT
      have HE0 := HE
      go_wp2_with fail
      refine (HNUM.out _).mono ?_
      rintro e w1 ⟨rfl, hb1⟩
      have HT1 := Lib.hid (HT0.out.below hb1)
      have HE1 := Lib.hid (HE0.out.below hb1)
      have hc1 := hc0.trans (hb1.mono hc0.size)
      clear hb1 hc0 HT0 HE0
      go_wp2_with fail
      refine (rnumber_any c (by omega) _ HB).mono ?_
      rintro e w2 ⟨rfl, hb2⟩
      have HT2 := Lib.hid (HT1.out.below hb2)
      have HE2 := Lib.hid (HE1.out.below hb2)
      have hc2 := hc1.trans (hb2.mono hc1.size)
      clear hb2 hc1 HT1 HE1
      go_wp2_with fail
      refine (verify_out key HK.out s c (by omega) HMC.out HO.out _).mono ?_
      rintro e w3 ⟨rfl, hb3⟩
      have HT3 := Lib.hid (HT2.out.below hb3)
      have HE3 := Lib.hid (HE2.out.below hb3)
      have hc3 := hc2.trans (hb3.mono hc2.size)
      clear hb3 hc2 HT2 HE2
      go_wp2_with fail
      refine (rverify_out key HK.out s c (by omega) HMC.out HO.out _).mono ?_
      rintro e w4 ⟨rfl, hb4⟩
      have HT4 := Lib.hid (HT3.out.below hb4)
      have HE4 := Lib.hid (HE3.out.below hb4)
      have hc4 := hc3.trans (hb4.mono hc3.size)
      clear hb4 hc3 HT3 HE3
      go_wp2_with fail
      refine (awake_any _ HT4.out).mono ?_
      rintro e wz ⟨rfl, hbz⟩
      have hcz := hc4.trans (hbz.mono hc4.size)
      clear hbz hc4 HT4
      go_wp2
      go_ret
      exact ⟨rfl, hcz⟩
    · skip
      have h1 : 1 ≤ c.size := by omega
      have h2 : c.size ≤ 12 := by omega
      clear hv
      obtain ⟨bv, hbv⟩ : ∃ bv : Bool, bv = (c.toList == (decS (macN key s) c.size).toList) := ⟨_, rfl⟩
      have HV1 := Lib.hid hbv
      have HV2 : Hid (bv = ((decS (macN key s) c.size).toList == c.toList)) := Lib.hid (by rw [hbv, Bool.eq_iff_iff, beq_iff_eq, beq_iff_eq]; exact eq_comm)
      clear hbv
      go_enter Tryd.func4, Tryd.ntmps4
      have hc0 : Below w.heap.size w w := Below.refl _ _
      have HT0 := HT
      have HE0 := HE
      go_wp2_with fail
      refine (HNUM.out _).mono ?_
      rintro e w1 ⟨rfl, hb1⟩
      have HT1 := Lib.hid (HT0.out.below hb1)
      have HE1 := Lib.hid (HE0.out.below hb1)
      have hc1 := hc0.trans (hb1.mono hc0.size)
      clear hb1 hc0 HT0 HE0
      go_wp2_with fail
      refine (rnumber_any c (by omega) _ HB).mono ?_
      rintro e w2 ⟨rfl, hb2⟩
      have HT2 := Lib.hid (HT1.out.below hb2)
      have HE2 := Lib.hid (HE1.out.below hb2)
      have hc2 := hc1.trans (hb2.mono hc1.size)
      clear hb2 hc1 HT1 HE1
      go_wp2_with fail
      refine (verify_in key HK.out s c (by omega) h1 h2 _ HT2.out.2 HT2.out.pos HV1).mono ?_
      rintro e w3 ⟨rfl, hb3⟩
      have HT3 := Lib.hid (HT2.out.below hb3)
      have HE3 := Lib.hid (HE2.out.below hb3)
      have hc3 := hc2.trans (hb3.mono hc2.size)
      clear hb3 hc2 HT2 HE2
      go_wp2_with fail
      refine (rverify_in key HK.out s c (by omega) h1 h2 _ HV2).mono ?_
      rintro e w4 ⟨rfl, hb4⟩
      have HT4 := Lib.hid (HT3.out.below hb4)
      have HE4 := Lib.hid (HE3.out.below hb4)
      have hc4 := hc3.trans (hb4.mono hc3.size)
      clear hb4 hc3 HT3 HE3
      go_wp2_with fail
      refine (awake_any _ HT4.out).mono ?_
      rintro e wz ⟨rfl, hbz⟩
      have hcz := hc4.trans (hbz.mono hc4.size)
      clear hbz hc4 HT4
      go_wp2
      go_ret
      exact ⟨rfl, hcz⟩
  · have HB : Hid (false = ((hexS (numN c) 16).toList == c.toList)) := Lib.hid (by
      symm
      rw [beq_eq_false_iff_ne]
      intro e
      rw [ByteArray.toList_eq, ByteArray.toList_eq] at e
      exact hn (ByteArray.ext (Array.toList_inj.1 e)))
    have HNE := Lib.hid hn
    clear hn
    by_cases hv : c.size < 1 ∨ 12 < c.size
    · skip
      have HO := Lib.hid hv
      clear hv
      go_enter Tryd.func4, Tryd.ntmps4
      have hc0 : Below w.heap.size w w := Below.refl _ _
      have HT0 := HT
      have HE0 := HE
      go_wp2_with fail
      refine (number_bad c (by omega) HNE.out _ HE0.out).mono ?_
      rintro e w1 ⟨rfl, hb1⟩
      have HT1 := Lib.hid (HT0.out.below hb1)
      have HE1 := Lib.hid (HE0.out.below hb1)
      have hc1 := hc0.trans (hb1.mono hc0.size)
      clear hb1 hc0 HT0 HE0
      go_wp2_with fail
      refine (rnumber_any c (by omega) _ HB).mono ?_
      rintro e w2 ⟨rfl, hb2⟩
      have HT2 := Lib.hid (HT1.out.below hb2)
      have HE2 := Lib.hid (HE1.out.below hb2)
      have hc2 := hc1.trans (hb2.mono hc1.size)
      clear hb2 hc1 HT1 HE1
      go_wp2_with fail
      refine (verify_out key HK.out s c (by omega) HMC.out HO.out _).mono ?_
      rintro e w3 ⟨rfl, hb3⟩
      have HT3 := Lib.hid (HT2.out.below hb3)
      have HE3 := Lib.hid (HE2.out.below hb3)
      have hc3 := hc2.trans (hb3.mono hc2.size)
      clear hb3 hc2 HT2 HE2
      go_wp2_with fail
      refine (rverify_out key HK.out s c (by omega) HMC.out HO.out _).mono ?_
      rintro e w4 ⟨rfl, hb4⟩
      have HT4 := Lib.hid (HT3.out.below hb4)
      have HE4 := Lib.hid (HE3.out.below hb4)
      have hc4 := hc3.trans (hb4.mono hc3.size)
      clear hb4 hc3 HT3 HE3
      go_wp2_with fail
      refine (awake_any _ HT4.out).mono ?_
      rintro e wz ⟨rfl, hbz⟩
      have hcz := hc4.trans (hbz.mono hc4.size)
      clear hbz hc4 HT4
      go_wp2
      go_ret
      exact ⟨rfl, hcz⟩
    · skip
      have h1 : 1 ≤ c.size := by omega
      have h2 : c.size ≤ 12 := by omega
      clear hv
      obtain ⟨bv, hbv⟩ : ∃ bv : Bool, bv = (c.toList == (decS (macN key s) c.size).toList) := ⟨_, rfl⟩
      have HV1 := Lib.hid hbv
      have HV2 : Hid (bv = ((decS (macN key s) c.size).toList == c.toList)) := Lib.hid (by rw [hbv, Bool.eq_iff_iff, beq_iff_eq, beq_iff_eq]; exact eq_comm)
      clear hbv
      go_enter Tryd.func4, Tryd.ntmps4
      have hc0 : Below w.heap.size w w := Below.refl _ _
      have HT0 := HT
      have HE0 := HE
      go_wp2_with fail
      refine (number_bad c (by omega) HNE.out _ HE0.out).mono ?_
      rintro e w1 ⟨rfl, hb1⟩
      have HT1 := Lib.hid (HT0.out.below hb1)
      have HE1 := Lib.hid (HE0.out.below hb1)
      have hc1 := hc0.trans (hb1.mono hc0.size)
      clear hb1 hc0 HT0 HE0
      go_wp2_with fail
      refine (rnumber_any c (by omega) _ HB).mono ?_
      rintro e w2 ⟨rfl, hb2⟩
      have HT2 := Lib.hid (HT1.out.below hb2)
      have HE2 := Lib.hid (HE1.out.below hb2)
      have hc2 := hc1.trans (hb2.mono hc1.size)
      clear hb2 hc1 HT1 HE1
      go_wp2_with fail
      refine (verify_in key HK.out s c (by omega) h1 h2 _ HT2.out.2 HT2.out.pos HV1).mono ?_
      rintro e w3 ⟨rfl, hb3⟩
      have HT3 := Lib.hid (HT2.out.below hb3)
      have HE3 := Lib.hid (HE2.out.below hb3)
      have hc3 := hc2.trans (hb3.mono hc2.size)
      clear hb3 hc2 HT2 HE2
      go_wp2_with fail
      refine (rverify_in key HK.out s c (by omega) h1 h2 _ HV2).mono ?_
      rintro e w4 ⟨rfl, hb4⟩
      have HT4 := Lib.hid (HT3.out.below hb4)
      have HE4 := Lib.hid (HE3.out.below hb4)
      have hc4 := hc3.trans (hb4.mono hc3.size)
      clear hb4 hc3 HT3 HE3
      go_wp2_with fail
      refine (awake_any _ HT4.out).mono ?_
      rintro e wz ⟨rfl, hbz⟩
      have hcz := hc4.trans (hbz.mono hc4.size)
      clear hbz hc4 HT4
      go_wp2
      go_ret
      exact ⟨rfl, hcz⟩

theorem own : ownKnob Tryd.prog.godebug = none := by kernel_rfl
theorem laidOut : laidOutB Tryd.prog = true := by kernel_rfl
theorem tab_of_cell {W : World} (h : W.cell? ⟨4, 15, none⟩ = some (.int .u8 4)) : Tab W := by
  refine ⟨?_, h⟩
  rcases Nat.lt_or_ge 4 W.heap.size with hl | hl
  · exact hl
  · simp [World.cell?, Array.getElem?_eq_none hl] at h
theorem gTab : Tryd.prog.globalNamed "math/bits.deBruijn64tab" = some 4 := by kernel_rfl
theorem gTabType : (Tryd.prog.globals[4]?).map (·.type) = some 77 := by kernel_rfl
theorem cellsTab : Tryd.prog.cellsOf 77 = 64 := by kernel_rfl
theorem cellsOne : Tryd.prog.cellsOf 5 = 1 := by kernel_rfl
theorem gPow : Tryd.prog.globalNamed "internal/strconv.uint64pow10" = some 0 := by kernel_rfl
theorem gPowType : (Tryd.prog.globals[0]?).map (·.type) = some 62 := by kernel_rfl
theorem cellsPow : Tryd.prog.cellsOf 62 = 20 := by kernel_rfl
theorem cellsU64 : Tryd.prog.cellsOf 22 = 1 := by kernel_rfl
theorem table {W : World} (h : laidMetH Tryd.prog Rows.keyedChecksRow.laid W) : Std W := by
  rw [MakeChecks.laidMetH_plain _ _ _ (by kernel_rfl)] at h
  have h1 := h
  have hc := (Lib.tabIs_of_head (k := .u8) (zs := [0, 1, 56, 2, 57, 49, 28, 3, 61, 58, 42, 50, 38, 29, 17, 4, 62, 47, 59, 36, 45, 43, 51, 22, 53, 39, 33, 30, 24, 18, 12, 5, 63, 55, 48, 27, 60, 41, 37, 16, 46, 35, 44, 21, 52, 32, 23, 11, 54, 26, 40, 15, 34, 20, 31, 10, 25, 14, 19, 9, 13, 8, 7, 6]) gTab gTabType Tryd.underlying77 Tryd.underlying5 cellsOne cellsTab h1.tail).cell gTab 15 (by decide)
  exact ⟨tab_of_cell hc, Lib.tabIs_of_head (k := .u64) (zs := Lib.pow10Tab) gPow gPowType Tryd.underlying62 Tryd.underlying22 cellsU64 cellsPow h1.tail.tail⟩
theorem star : "*" ++ "errors.errorString" = "*errors.errorString" := by decide
theorem rowES (u : TypeId) (h : Tryd.prog.typeName? 3 u = some "*errors.errorString") : u = 73 :=
  typeName_ptr_named (nm := "errors.errorString") (by rw [star]; kernel_rfl) (by kernel_rfl) (by decide) u (by rw [star]; exact h)
theorem gSyn : Tryd.prog.globalNamed "strconv.ErrSyntax" = some 1 := by kernel_rfl
theorem gRan : Tryd.prog.globalNamed "strconv.ErrRange" = some 2 := by kernel_rfl
theorem errs {W : World} (hT : Std W) (h : laidMetH Tryd.prog Rows.keyedChecksRow.laid W) : Errs W := by
  rw [MakeChecks.laidMetH_plain _ _ _ (by kernel_rfl)] at h
  have hr := h.tail.tail.tail
  have hy := hr.tail
  refine ⟨Nat.lt_of_le_of_lt (by decide) hT.1.1, ?_, ?_⟩
  · obtain ⟨a, x, hv, -, -, -⟩ := laid_sentinel hy gSyn (by kernel_rfl) Tryd.underlying41 rowES Tryd.underlying73 Tryd.underlying75 rfl rfl Tryd.underlying9 (by kernel_rfl) (by kernel_rfl)
    exact ⟨_, _, by simpa using World.var?_cell gSyn hv 0⟩
  · obtain ⟨a, x, hv, -, -, -⟩ := laid_sentinel hr gRan (by kernel_rfl) Tryd.underlying41 rowES Tryd.underlying73 Tryd.underlying75 rfl rfl Tryd.underlying9 (by kernel_rfl) (by kernel_rfl)
    exact ⟨_, _, by simpa using World.var?_cell gRan hv 0⟩

noncomputable def laidWorld (os : Os) : World := World.doorLaid Tryd.prog 400 os
theorem laid_met (os : Os) : laidMetH Tryd.prog Rows.keyedChecksRow.laid ((laidWorld os).forCall (fun _ _ => 0) ⟨#[], #[.int .u64 0, .string ByteArray.empty, .string ByteArray.empty], []⟩).memory :=
  laidMetH_of_parts3 (fuel := 8) (laidMet_of_run' 8 (by kernel_rfl) (by kernel_rfl)) (by kernel_rfl) (by kernel_rfl)
theorem reads (os : Os) {H : Type} (enc : TypeId × Value → H) : ∃ places, DataW.whole enc Tryd.prog ((laidWorld os).forCall (fun _ _ => 0) ⟨#[], #[.int .u64 0, .string ByteArray.empty, .string ByteArray.empty], []⟩).memory Tryd.f4.params.toList Rows.keyedChecksSpec.vars false (#[.int .u64 0, .string ByteArray.empty, .string ByteArray.empty] : Array Value).toList 8 = some ([.lit (.int .u64 0), .lit (.string []), .lit (.string [])], [], places) :=
  ⟨[], by kernel_rfl⟩
theorem contract (H : Type) (enc : TypeId × Value → H) (W : World) (base : Nat) (args : Array Value) (ds gs : List (DataW H)) (before : List MemPlace)
    (hval0 : ∀ (j : Nat) t v, Tryd.f4.params[j]? = some t → args[j]? = some v → Value.okWide Tryd.prog W .any base t v)
    (hW : DataW.Whole enc Tryd.prog Tryd.f4.params.toList Rows.keyedChecksSpec.vars false W args.toList ds gs before) (hL : laidMetH Tryd.prog Rows.keyedChecksRow.laid W) :
    Calls Tryd.prog 4 args W fun e W' => ∃ v, e = .returned v ∧ Rows.keyedChecksSpec.post enc Tryd.prog Tryd.f4 false true false false W args v W' := by
  have hval : ∀ (j : Nat) t v, Tryd.f4.params[j]? = some t → args[j]? = some v → Value.okWide Tryd.prog W .any base t v := hval0
  have hW' := hW
  obtain ⟨p, q, hA0, hV, rfl, hfz, hnd⟩ := hW
  have hA : DataW.TrodAll enc Tryd.prog W 0 (fun _ => true) true Tryd.f4.params.toList args.toList ds p := hA0
  rw [Tryd.params4] at hA hval
  obtain ⟨v0, vs0, d0, ds0, p0, q0, hargs, rfl, rfl, h0, r0⟩ := trodAll_cons hA
  obtain ⟨v1, vs1, d1, ds1, p1, q1, rfl, rfl, rfl, h1, r1⟩ := trodAll_cons r0
  obtain ⟨v2, vs2, d2, ds2, p2, q2, rfl, rfl, rfl, h2, r2⟩ := trodAll_cons r1
  obtain ⟨rfl, rfl, rfl⟩ := trodAll_nil r2
  obtain rfl : args = #[v0, v1, v2] := by cases args; simp_all
  obtain ⟨rfl, rfl⟩ := trodVars_none hV
  have k0 := h0
  have lt0 : ∀ x ∈ p0, x.block < W.heap.size := by obtain ⟨m, hm⟩ := k0; exact DataW.trod_lt m _ _ _ hm
  obtain ⟨a0, rfl, -, -, w0⟩ := open_int Tryd.underlying22 (hval 0 22 v0 rfl rfl) h0
  have k1 := h1
  have lt1 : ∀ x ∈ p1, x.block < W.heap.size := by obtain ⟨m, hm⟩ := k1; exact DataW.trod_lt m _ _ _ hm
  obtain ⟨a1, rfl, -, -, w1⟩ := open_string Tryd.underlying9 (hval 1 9 v1 rfl rfl) h1
  have k2 := h2
  have lt2 : ∀ x ∈ p2, x.block < W.heap.size := by obtain ⟨m, hm⟩ := k2; exact DataW.trod_lt m _ _ _ hm
  obtain ⟨a2, rfl, -, -, w2⟩ := open_string Tryd.underlying9 (hval 2 9 v2 rfl rfl) h2
  clear hA0 hval0
  refine (walk a0 a1 a2 W w0 w1 w2 ⟨table hL, errs (table hL) hL⟩).mono fun e W' ⟨he, bel⟩ => ?_
  subst he
  exact ⟨_, rfl, _, _, _, [], _, [], hW', trodAll_mk1 (shut_bool Tryd.underlying4 _), (trodAll_cons_mk (Below.trod laidOut (by kernel_rfl) (of_decide_eq_true (by kernel_rfl)) k0 bel lt0) (trodAll_cons_mk (Below.trod laidOut (by kernel_rfl) (of_decide_eq_true (by kernel_rfl)) k1 bel lt1) (trodAll_cons_mk (Below.trod laidOut (by kernel_rfl) (of_decide_eq_true (by kernel_rfl)) k2 bel lt2) trodAll_mk0))), rfl, bel.frame _, fun h => by cases h⟩

set_option maxRecDepth 100000 in
theorem lifted (os : Os) (started : os.Started) (H : Type) (enc : TypeId × Value → H) (F : Stop.Interp) :
    ReturnsInHanded {} Tryd.checked os 4 .any ((OpenSpec.ofChange Rows.keyedChecksSpec).preRow enc Tryd.prog Tryd.f4 Rows.keyedChecksRow.domain false Rows.keyedChecksRow.laid) (((OpenSpec.ofChange Rows.keyedChecksSpec).at F).post enc Tryd.prog Tryd.f4 false true false false) := by
  obtain ⟨places, hx⟩ := reads os enc
  refine returnsInHanded_of_row (C := Tryd.checked) (s := OpenSpec.ofChange Rows.keyedChecksSpec) own started (by kernel_rfl) Tryd.func4
    (witness_row_at (enc := enc) (C := Tryd.checked) false (laidWorld os) #[.int .u64 0, .string ByteArray.empty, .string ByteArray.empty] rfl (by kernel_rfl) (by kernel_rfl) (by kernel_rfl)
      (OpenSpec.preRow_of_cond 8 hx (by kernel_rfl) (fun k hk => by cases hk) (by kernel_rfl) (laid_met os))) ?_
  intro W base args ds gs before hval hW _ _ _ hL _ _
  exact contract H enc W base args ds gs before hval hW hL
theorem said : Rows.KeyedChecksSaid :=
  OpenClaim.holds_of_cond 4 Tryd.f4 rfl rfl rfl rfl rfl rfl rfl ⟨rfl, rfl, rfl, rfl, rfl⟩ rfl rfl rfl rfl rfl (by kernel_rfl) Tryd.func4 (by kernel_rfl)
    (of_decide_eq_true (by kernel_rfl)) (by unfold Func.isWrapper; first | (rw [if_pos (by decide +kernel)]; kernel_rfl) | (rw [if_neg (by decide +kernel)]; exact ⟨rfl, rfl⟩))
    (fun os started H enc _ F => by rw [OpenClaim.pre_eq_preRow]; exact lifted os started H enc F)
/-- No parameter wants a stand-in; the program's own looks are off. -/
theorem plain (f : FuncId) (fn : Func) (hf : Tryd.pinned.checked.prog.funcNamed "cardnet/cardnetlaw09.KeyedChecks" = some f) (hfn : Tryd.pinned.checked.prog.funcs[f]? = some fn) :
    true = Tryd.pinned.checked.prog.looks [] ∧ ∀ (j : Nat) t, fn.params[j]? = some t → Tryd.pinned.checked.prog.wantsStandIn t = false := by
  obtain rfl : f = 4 := Option.some.inj ((show Tryd.prog.funcNamed "cardnet/cardnetlaw09.KeyedChecks" = some 4 by kernel_rfl).symm.trans hf) |>.symm
  obtain rfl : fn = Tryd.f4 := (Option.some.inj (Tryd.func4.symm.trans hfn)).symm
  refine ⟨by kernel_rfl, fun j t ht => ?_⟩
  rw [Tryd.params4] at ht
  have hm : t ∈ [22, 9, 9] := by simpa using Array.mem_of_getElem? ht
  have hall : ([22, 9, 9].all fun u => !Tryd.prog.wantsStandIn u) = true := by kernel_rfl
  exact (show Tryd.prog.wantsStandIn t = false by simpa using List.all_eq_true.1 hall t hm)
/-- THE CARD: the statement. -/
theorem proved : Rows.KeyedChecksCardSaid :=
  Claim7.holds_tied_plain_at .later [] _ _ _ _ said (fun _ h => by cases h) (by kernel_rfl) (fun _ h => by cases h) keyedChecks_row_tie rfl ⟨rfl, rfl⟩ (by kernel_rfl) rfl plain (by kernel_rfl)
#print axioms proved
end Go.Proofs.YtkobhepiacfehaaDoor.keyedChecks
