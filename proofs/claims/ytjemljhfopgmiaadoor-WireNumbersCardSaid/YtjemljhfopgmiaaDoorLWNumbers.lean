/-
  PROVED: for every two numbers and every width, the law WireNumbers returns true: numbers are read back from their digits, digits of one width are ordered as their numbers are, and the examples hold; the card ties the listed tables and variables to the program's text. Conditions: none besides the form's own reach.
-/
import Derived.Test.YtjemljhfopgmiaaDoorCards
import Derived.Test.YtjemljhfopgmiaaDoorTie
import Derived.WalkKit
import Derived.ProofKit
import Derived.OpenShut
import Derived.ShutString
import Derived.ChangeOld
import Derived.Below
import Derived.Deep.DeepHandedRow
import Derived.Lib.LaidTab
import Derived.LaidMore
import Derived.Stop.LaidErr
import Derived.Stop.Joined
import Derived.LaidHandle
import Derived.Test.YtjemljhfopgmiaaDoorW18
namespace Go.Proofs.YtjemljhfopgmiaaDoor.wireNumbers
open Go.ChangeShapes Go.WideShapes Go.ChangeAt Go.RowKit
open Go.ChangeMaps (open_string shut_string)
set_option linter.unusedVariables false
theorem i64_in {x : Int} (h : (Lit.int .i64 x).wf = true) : -9223372036854775808 ≤ x ∧ x ≤ 9223372036854775807 := by
  simp [Lit.wf, IntKind.min, IntKind.max, IntKind.signed, IntKind.bits] at h
  exact ⟨by omega, by omega⟩
theorem u8_in {x : Int} (h : (Lit.int .u8 x).wf = true) : 0 ≤ x ∧ x ≤ 255 := by
  simp [Lit.wf, IntKind.min, IntKind.max, IntKind.signed, IntKind.bits] at h
  exact ⟨by omega, by omega⟩
set_option maxHeartbeats 4000000 in
set_option maxRecDepth 5000 in
theorem walk (n m x : Int) (w : World) (wn : (Lit.int .i64 n).wf = true) (wm : (Lit.int .i64 m).wf = true) (wx : (Lit.int .u8 x).wf = true) (hT : Pow w ∧ 1 ≤ w.heap.size) :
    Calls Tryd.prog 5 #[.int .i64 n, .int .i64 m, .int .u8 x] w fun e w' => e = .returned (.bool true) ∧ Below w.heap.size w w' := by
  obtain ⟨hP, hw⟩ := hT
  obtain ⟨n0, n1⟩ := i64_in wn
  obtain ⟨m0, m1⟩ := i64_in wm
  obtain ⟨x0, x1⟩ := u8_in wx
  clear wn wm wx
  obtain ⟨k, hk⟩ : ∃ k : Nat, x.tmod 15 = (k : Int) - 1 ∧ 1 ≤ k ∧ k ≤ 15 := by
    obtain ⟨u, rfl⟩ := Int.eq_ofNat_of_zero_le x0
    refine ⟨u % 15 + 1, ?_, by omega, by omega⟩
    rw [Int.tmod_eq_emod_of_nonneg (by omega)]
    omega
  obtain ⟨hx, k1, k2⟩ := hk
  have hwr : IntKind.u8.wrap ((k : Int) - 1) = (k : Int) - 1 := by rw [IntKind.wrap_u8]; omega
  obtain ⟨a, c, A, M1⟩ := num_tot n k k1 k2 n1
  obtain ⟨b, d, B, M2⟩ := num_tot m k k1 k2 m1
  replace M1 := Lib.hid M1
  replace M2 := Lib.hid M2
  have ek : (k : Int) - 1 + 1 = (k : Int) := by omega
  rcases A with ⟨rfl, A0, A1, rfl⟩ | ⟨rfl, rfl⟩
  · obtain ⟨u, rfl⟩ := Int.eq_ofNat_of_zero_le A0
    rcases B with ⟨rfl, B0, B1, rfl⟩ | ⟨rfl, rfl⟩
    · obtain ⟨v, rfl⟩ := Int.eq_ofNat_of_zero_le B0
      rw [Int.toNat_natCast] at *
      have hlt := less_dec A1 B1
      have hz1 := decS_size u k
      have hz2 := decS_size v k
      have O1 : binOp .lss 9 (.string (decS u k)) (.string (decS v k)) = pure (.bool (decide ((u : Int) < (v : Int)))) := by rw [binOp_string_lss, hlt]; simp
      have R1 := Lib.hid (fun (v' c : Int) h => numbP_dec (t := decS v k) (v := v') (c := c) A1 h)
      have R2 := Lib.hid (fun (v' c : Int) h => numbP_dec (t := ByteArray.empty) (v := v') (c := c) B1 h)
      have E1 := Lib.hid (app_post (decS u k) (decS v k) hz1)
      have E2 := Lib.hid (app_post (decS v k) ByteArray.empty hz2)
      rw [ByteArray.append_empty] at R2 E2
      clear hlt A0 B0 A1 B1
      generalize decS u k = a at *
      generalize decS v k = b at *
      go_enter Tryd.func5, Tryd.ntmps5
      go_wp2_with fail
      go_at_call 7
      refine (M1.out _ hP).mono ?_
      rintro e w1 ⟨rfl, hb1⟩
      go_wp2_with fail
      go_at_call 7
      refine (M2.out _ (hP.later hb1 hw)).mono ?_
      rintro e w2 ⟨rfl, hb2⟩
      have hB2 := hb1.trans (hb2.mono hb1.size)
      go_wp2_with fail
      go_at_call 18
      refine (newReader_any _ _).mono ?_
      rintro e w3 ⟨rfl, hr, hb3⟩
      have hB3 := hB2.trans (hb3.mono hB2.size)
      go_wp2_with fail
      go_at_call 19
      refine (rd_num w2.heap.size _ k k1 k2 (by rw [ByteArray.size_append]; omega) w.heap.size _ hr hB2.size).mono ?_
      rintro e w4 ⟨v1, c1, hN, rfl, hr4, hb4⟩
      obtain ⟨rfl, rfl⟩ := R1.out _ _ hN
      rw [if_pos rfl, E1.out] at hr4
      clear hN
      have hB4 := hB3.trans hb4
      go_wp2_with fail
      go_at_call 19
      refine (rd_num w2.heap.size _ k k1 k2 (by omega) w.heap.size _ hr4 hB2.size).mono ?_
      rintro e w5 ⟨v1, c1, hN, rfl, hr5, hb5⟩
      obtain ⟨rfl, rfl⟩ := R2.out _ _ hN
      rw [if_pos rfl, E2.out] at hr5
      clear hN
      have hB5 := hB4.trans hb5
      go_wp2_with fail
      go_at_call 22
      refine (rd_end _ _ _ _ hr5).mono ?_
      rintro e w6 ⟨rfl, rfl⟩
      go_wp2_with fail
      go_at_call 6
      refine (awake_any _ (hP.later hB5 hw) (Nat.le_trans hw hB5.size)).mono ?_
      rintro e w7 ⟨rfl, hb7⟩
      go_wp2
      go_ret
      exact ⟨rfl, hB5.trans (hb7.mono hB5.size)⟩
    · skip
      rcases Int.lt_or_le m 0 with hm | hm
      · skip
        go_enter Tryd.func5, Tryd.ntmps5
        go_wp2_with fail
        go_at_call 7
        refine (M1.out _ hP).mono ?_
        rintro e w1 ⟨rfl, hb1⟩
        go_wp2_with fail
        go_at_call 7
        refine (M2.out _ (hP.later hb1 hw)).mono ?_
        rintro e w2 ⟨rfl, hb2⟩
        have hB2 := hb1.trans (hb2.mono hb1.size)
        go_wp2_with fail
        go_at_call 6
        refine (awake_any _ (hP.later hB2 hw) (Nat.le_trans hw hB2.size)).mono ?_
        rintro e w3 ⟨rfl, hb3⟩
        go_wp2
        go_ret
        exact ⟨rfl, hB2.trans (hb3.mono hB2.size)⟩
      · skip
        go_enter Tryd.func5, Tryd.ntmps5
        go_wp2_with fail
        go_at_call 7
        refine (M1.out _ hP).mono ?_
        rintro e w1 ⟨rfl, hb1⟩
        go_wp2_with fail
        go_at_call 7
        refine (M2.out _ (hP.later hb1 hw)).mono ?_
        rintro e w2 ⟨rfl, hb2⟩
        have hB2 := hb1.trans (hb2.mono hb1.size)
        go_wp2_with fail
        go_at_call 6
        refine (awake_any _ (hP.later hB2 hw) (Nat.le_trans hw hB2.size)).mono ?_
        rintro e w3 ⟨rfl, hb3⟩
        go_wp2
        go_ret
        exact ⟨rfl, hB2.trans (hb3.mono hB2.size)⟩
  · rcases B with ⟨rfl, B0, B1, rfl⟩ | ⟨rfl, rfl⟩
    · obtain ⟨v, rfl⟩ := Int.eq_ofNat_of_zero_le B0
      rcases Int.lt_or_le n 0 with hn | hn
      · skip
        go_enter Tryd.func5, Tryd.ntmps5
        go_wp2_with fail
        go_at_call 7
        refine (M1.out _ hP).mono ?_
        rintro e w1 ⟨rfl, hb1⟩
        go_wp2_with fail
        go_at_call 7
        refine (M2.out _ (hP.later hb1 hw)).mono ?_
        rintro e w2 ⟨rfl, hb2⟩
        have hB2 := hb1.trans (hb2.mono hb1.size)
        go_wp2_with fail
        go_at_call 6
        refine (awake_any _ (hP.later hB2 hw) (Nat.le_trans hw hB2.size)).mono ?_
        rintro e w3 ⟨rfl, hb3⟩
        go_wp2
        go_ret
        exact ⟨rfl, hB2.trans (hb3.mono hB2.size)⟩
      · skip
        go_enter Tryd.func5, Tryd.ntmps5
        go_wp2_with fail
        go_at_call 7
        refine (M1.out _ hP).mono ?_
        rintro e w1 ⟨rfl, hb1⟩
        go_wp2_with fail
        go_at_call 7
        refine (M2.out _ (hP.later hb1 hw)).mono ?_
        rintro e w2 ⟨rfl, hb2⟩
        have hB2 := hb1.trans (hb2.mono hb1.size)
        go_wp2_with fail
        go_at_call 6
        refine (awake_any _ (hP.later hB2 hw) (Nat.le_trans hw hB2.size)).mono ?_
        rintro e w3 ⟨rfl, hb3⟩
        go_wp2
        go_ret
        exact ⟨rfl, hB2.trans (hb3.mono hB2.size)⟩
    · skip
      rcases Int.lt_or_le n 0 with hn | hn
      · skip
        rcases Int.lt_or_le m 0 with hm | hm
        · skip
          go_enter Tryd.func5, Tryd.ntmps5
          go_wp2_with fail
          go_at_call 7
          refine (M1.out _ hP).mono ?_
          rintro e w1 ⟨rfl, hb1⟩
          go_wp2_with fail
          go_at_call 7
          refine (M2.out _ (hP.later hb1 hw)).mono ?_
          rintro e w2 ⟨rfl, hb2⟩
          have hB2 := hb1.trans (hb2.mono hb1.size)
          go_wp2_with fail
          go_at_call 6
          refine (awake_any _ (hP.later hB2 hw) (Nat.le_trans hw hB2.size)).mono ?_
          rintro e w3 ⟨rfl, hb3⟩
          go_wp2
          go_ret
          exact ⟨rfl, hB2.trans (hb3.mono hB2.size)⟩
        · skip
          go_enter Tryd.func5, Tryd.ntmps5
          go_wp2_with fail
          go_at_call 7
          refine (M1.out _ hP).mono ?_
          rintro e w1 ⟨rfl, hb1⟩
          go_wp2_with fail
          go_at_call 7
          refine (M2.out _ (hP.later hb1 hw)).mono ?_
          rintro e w2 ⟨rfl, hb2⟩
          have hB2 := hb1.trans (hb2.mono hb1.size)
          go_wp2_with fail
          go_at_call 6
          refine (awake_any _ (hP.later hB2 hw) (Nat.le_trans hw hB2.size)).mono ?_
          rintro e w3 ⟨rfl, hb3⟩
          go_wp2
          go_ret
          exact ⟨rfl, hB2.trans (hb3.mono hB2.size)⟩
      · skip
        rcases Int.lt_or_le m 0 with hm | hm
        · skip
          go_enter Tryd.func5, Tryd.ntmps5
          go_wp2_with fail
          go_at_call 7
          refine (M1.out _ hP).mono ?_
          rintro e w1 ⟨rfl, hb1⟩
          go_wp2_with fail
          go_at_call 7
          refine (M2.out _ (hP.later hb1 hw)).mono ?_
          rintro e w2 ⟨rfl, hb2⟩
          have hB2 := hb1.trans (hb2.mono hb1.size)
          go_wp2_with fail
          go_at_call 6
          refine (awake_any _ (hP.later hB2 hw) (Nat.le_trans hw hB2.size)).mono ?_
          rintro e w3 ⟨rfl, hb3⟩
          go_wp2
          go_ret
          exact ⟨rfl, hB2.trans (hb3.mono hB2.size)⟩
        · skip
          go_enter Tryd.func5, Tryd.ntmps5
          go_wp2_with fail
          go_at_call 7
          refine (M1.out _ hP).mono ?_
          rintro e w1 ⟨rfl, hb1⟩
          go_wp2_with fail
          go_at_call 7
          refine (M2.out _ (hP.later hb1 hw)).mono ?_
          rintro e w2 ⟨rfl, hb2⟩
          have hB2 := hb1.trans (hb2.mono hb1.size)
          go_wp2_with fail
          go_at_call 6
          refine (awake_any _ (hP.later hB2 hw) (Nat.le_trans hw hB2.size)).mono ?_
          rintro e w3 ⟨rfl, hb3⟩
          go_wp2
          go_ret
          exact ⟨rfl, hB2.trans (hb3.mono hB2.size)⟩

theorem own : ownKnob Tryd.prog.godebug = none := by kernel_rfl
theorem laidOut : laidOutB Tryd.prog = true := by kernel_rfl
theorem gPow : Tryd.prog.globalNamed "internal/strconv.uint64pow10" = some 0 := by kernel_rfl
theorem gPowType : (Tryd.prog.globals[0]?).map (·.type) = some 109 := by kernel_rfl
theorem cellsPow : Tryd.prog.cellsOf 109 = 20 := by kernel_rfl
theorem cellsU64 : Tryd.prog.cellsOf 85 = 1 := by kernel_rfl
theorem room {W : World} (h : Pow W) : 1 ≤ W.heap.size := by
  have hc := Lib.TabIs.cell h gPow 0 (by decide)
  rcases Nat.lt_or_ge 0 W.heap.size with hl | hl
  · omega
  · simp [World.cell?, Array.getElem?_eq_none hl] at hc
theorem table {W : World} (h : laidMetH Tryd.prog Rows.wireNumbersRow.laid W) : Pow W ∧ 1 ≤ W.heap.size := by
  rw [MakeChecks.laidMetH_plain _ _ _ (by kernel_rfl)] at h
  have h1 := h
  have hp : Pow W := Lib.tabIs_of_head (k := .u64) (zs := Lib.pow10Tab) gPow gPowType Tryd.underlying109 Tryd.underlying85 cellsU64 cellsPow h1.tail.tail
  exact ⟨hp, room hp⟩

noncomputable def laidWorld (os : Os) : World := World.doorLaid Tryd.prog 400 os
theorem laid_met (os : Os) : laidMetH Tryd.prog Rows.wireNumbersRow.laid ((laidWorld os).forCall (fun _ _ => 0) ⟨#[], #[.int .i64 0, .int .i64 0, .int .u8 0], []⟩).memory :=
  laidMetH_of_parts3 (fuel := 8) (laidMet_of_run' 8 (by kernel_rfl) (by kernel_rfl)) (by kernel_rfl) (by kernel_rfl)
theorem reads (os : Os) {H : Type} (enc : TypeId × Value → H) : ∃ places, DataW.whole enc Tryd.prog ((laidWorld os).forCall (fun _ _ => 0) ⟨#[], #[.int .i64 0, .int .i64 0, .int .u8 0], []⟩).memory Tryd.f5.params.toList Rows.wireNumbersSpec.vars false (#[.int .i64 0, .int .i64 0, .int .u8 0] : Array Value).toList 8 = some ([.lit (.int .i64 0), .lit (.int .i64 0), .lit (.int .u8 0)], [], places) :=
  ⟨[], by kernel_rfl⟩
set_option maxRecDepth 100000 in
theorem contract (H : Type) (enc : TypeId × Value → H) (W : World) (base : Nat) (args : Array Value) (ds gs : List (DataW H)) (before : List MemPlace)
    (hval0 : ∀ (j : Nat) t v, Tryd.f5.params[j]? = some t → args[j]? = some v → Value.okWide Tryd.prog W .any base t v)
    (hW : DataW.Whole enc Tryd.prog Tryd.f5.params.toList Rows.wireNumbersSpec.vars false W args.toList ds gs before) (hL : laidMetH Tryd.prog Rows.wireNumbersRow.laid W) :
    Calls Tryd.prog 5 args W fun e W' => ∃ v, e = .returned v ∧ Rows.wireNumbersSpec.post enc Tryd.prog Tryd.f5 false true false false W args v W' := by
  have hval : ∀ (j : Nat) t v, Tryd.f5.params[j]? = some t → args[j]? = some v → Value.okWide Tryd.prog W .any base t v := hval0
  have hW' := hW
  obtain ⟨p, q, hA0, hV, rfl, hfz, hnd⟩ := hW
  have hA : DataW.TrodAll enc Tryd.prog W 0 (fun _ => true) true Tryd.f5.params.toList args.toList ds p := hA0
  rw [Tryd.params5] at hA hval
  obtain ⟨v0, vs0, d0, ds0, p0, q0, hargs, rfl, rfl, h0, r0⟩ := trodAll_cons hA
  obtain ⟨v1, vs1, d1, ds1, p1, q1, rfl, rfl, rfl, h1, r1⟩ := trodAll_cons r0
  obtain ⟨v2, vs2, d2, ds2, p2, q2, rfl, rfl, rfl, h2, r2⟩ := trodAll_cons r1
  obtain ⟨rfl, rfl, rfl⟩ := trodAll_nil r2
  obtain rfl : args = #[v0, v1, v2] := by cases args; simp_all
  obtain ⟨rfl, rfl⟩ := trodVars_none hV
  have k0 := h0
  have lt0 : ∀ x ∈ p0, x.block < W.heap.size := by obtain ⟨m, hm⟩ := k0; exact DataW.trod_lt m _ _ _ hm
  obtain ⟨a0, rfl, -, -, w0⟩ := open_int Tryd.underlying2 (hval 0 2 v0 rfl rfl) h0
  have k1 := h1
  have lt1 : ∀ x ∈ p1, x.block < W.heap.size := by obtain ⟨m, hm⟩ := k1; exact DataW.trod_lt m _ _ _ hm
  obtain ⟨a1, rfl, -, -, w1⟩ := open_int Tryd.underlying2 (hval 1 2 v1 rfl rfl) h1
  have k2 := h2
  have lt2 : ∀ x ∈ p2, x.block < W.heap.size := by obtain ⟨m, hm⟩ := k2; exact DataW.trod_lt m _ _ _ hm
  obtain ⟨a2, rfl, -, -, w2⟩ := open_int Tryd.underlying5 (hval 2 5 v2 rfl rfl) h2
  clear hA0 hval0
  refine (walk a0 a1 a2 W w0 w1 w2 (table hL)).mono fun e W' ⟨he, bel⟩ => ?_
  subst he
  exact ⟨_, rfl, _, _, _, [], _, [], hW', trodAll_mk1 (shut_bool Tryd.underlying4 _), (trodAll_cons_mk (Below.trod laidOut (by kernel_rfl) (of_decide_eq_true (by kernel_rfl)) k0 bel lt0) (trodAll_cons_mk (Below.trod laidOut (by kernel_rfl) (of_decide_eq_true (by kernel_rfl)) k1 bel lt1) (trodAll_cons_mk (Below.trod laidOut (by kernel_rfl) (of_decide_eq_true (by kernel_rfl)) k2 bel lt2) trodAll_mk0))), rfl, bel.frame _, fun h => by cases h⟩

set_option maxRecDepth 100000 in
theorem lifted (os : Os) (started : os.Started) (H : Type) (enc : TypeId × Value → H) (F : Stop.Interp) :
    ReturnsInHanded {} Tryd.checked os 5 .any ((OpenSpec.ofChange Rows.wireNumbersSpec).preRow enc Tryd.prog Tryd.f5 Rows.wireNumbersRow.domain false Rows.wireNumbersRow.laid) (((OpenSpec.ofChange Rows.wireNumbersSpec).at F).post enc Tryd.prog Tryd.f5 false true false false) := by
  obtain ⟨places, hx⟩ := reads os enc
  refine returnsInHanded_of_row (C := Tryd.checked) (s := OpenSpec.ofChange Rows.wireNumbersSpec) own started (by kernel_rfl) Tryd.func5
    (witness_row_at (enc := enc) (C := Tryd.checked) false (laidWorld os) #[.int .i64 0, .int .i64 0, .int .u8 0] rfl (by kernel_rfl) (by kernel_rfl) (by kernel_rfl)
      (OpenSpec.preRow_of_cond 8 hx (by kernel_rfl) (fun k hk => by cases hk) (by kernel_rfl) (laid_met os))) ?_
  intro W base args ds gs before hval hW _ _ _ hL _ _
  exact contract H enc W base args ds gs before hval hW hL
theorem said : Rows.WireNumbersSaid :=
  OpenClaim.holds_of_cond 5 Tryd.f5 rfl rfl rfl rfl rfl rfl rfl ⟨rfl, rfl, rfl, rfl, rfl⟩ rfl rfl rfl rfl rfl (by kernel_rfl) Tryd.func5 (by kernel_rfl)
    (of_decide_eq_true (by kernel_rfl)) (by unfold Func.isWrapper; first | (rw [if_pos (by decide +kernel)]; kernel_rfl) | (rw [if_neg (by decide +kernel)]; exact ⟨rfl, rfl⟩))
    (fun os started H enc _ F => by rw [OpenClaim.pre_eq_preRow]; exact lifted os started H enc F)
/-- No parameter wants a stand-in; the program's own looks are off. -/
theorem plain (f : FuncId) (fn : Func) (hf : Tryd.pinned.checked.prog.funcNamed "cardnet/cardnetlaw06.WireNumbers" = some f) (hfn : Tryd.pinned.checked.prog.funcs[f]? = some fn) :
    true = Tryd.pinned.checked.prog.looks [] ∧ ∀ (j : Nat) t, fn.params[j]? = some t → Tryd.pinned.checked.prog.wantsStandIn t = false := by
  obtain rfl : f = 5 := Option.some.inj ((show Tryd.prog.funcNamed "cardnet/cardnetlaw06.WireNumbers" = some 5 by kernel_rfl).symm.trans hf) |>.symm
  obtain rfl : fn = Tryd.f5 := (Option.some.inj (Tryd.func5.symm.trans hfn)).symm
  refine ⟨by kernel_rfl, fun j t ht => ?_⟩
  rw [Tryd.params5] at ht
  have hm : t ∈ [2, 2, 5] := by simpa using Array.mem_of_getElem? ht
  have hall : ([2, 2, 5].all fun u => !Tryd.prog.wantsStandIn u) = true := by kernel_rfl
  exact (show Tryd.prog.wantsStandIn t = false by simpa using List.all_eq_true.1 hall t hm)
/-- THE CARD: the statement. -/
theorem proved : Rows.WireNumbersCardSaid :=
  Claim7.holds_tied_plain_at .later [] _ _ _ _ said (fun _ h => by cases h) (by kernel_rfl) (fun _ h => by cases h) wireNumbers_row_tie rfl ⟨rfl, rfl⟩ (by kernel_rfl) rfl plain (by kernel_rfl)
#print axioms proved
end Go.Proofs.YtjemljhfopgmiaaDoor.wireNumbers
