/-
  PROVED: for every text, the law PanChecks returns true: Luhn, CheckDigit, Check, Mask and Group return the specified results, and the examples hold; the card ties the listed tables and variables to the program's text. Conditions: none besides the form's own reach.
-/
import Derived.Test.YtddnfjaogekmjaaDoorCards
import Derived.Test.YtddnfjaogekmjaaDoorTie
import Derived.WalkKit
import Derived.ProofKit
import Derived.OpenShut
import Derived.ShutString
import Derived.ChangeOld
import Derived.Below
import Derived.Deep.DeepHandedRow
import Derived.Lib.LaidTab
import Derived.LaidMore
import Derived.Stop.LaidErr
import Derived.Stop.Joined
import Derived.LaidHandle
import Derived.Test.YtddnfjaogekmjaaDoorP17
namespace Go.Proofs.YtddnfjaogekmjaaDoor.panChecks
open Go.ChangeShapes Go.WideShapes Go.ChangeAt Go.RowKit
open Go.ChangeMaps (open_string shut_string)
set_option linter.unusedVariables false
open Classical in
theorem luhn_tot (s : ByteArray) (hs : s.size ≤ 1000) : ∃ b : Bool, (∀ w, Calls Tryd.prog 13 #[.string s] w fun e w' => e = .returned (.bool b) ∧ Below w.heap.size w w') ∧ (∀ w, Calls Tryd.prog 14 #[.string s] w fun e w' => e = .returned (.bool b) ∧ w = w') := by
  rcases Nat.eq_zero_or_pos s.size with h0 | h0
  · exact ⟨false, fun w => luhn_empty s h0 w, fun w => rluhn_empty s h0 w⟩
  · by_cases hd : Dgs s
    · exact ⟨_, fun w => luhn_dg s hs h0 hd (Lib.hid rfl) w, fun w => rluhn_dg s hs h0 hd (Lib.hid rfl) w⟩
    · exact ⟨false, fun w => luhn_bad s hs hd w, fun w => rluhn_bad s hs hd w⟩
theorem cd_tot (s : ByteArray) (hs : s.size ≤ 1000) : ∃ d c : Int, (∀ w, Calls Tryd.prog 11 #[.string s] w fun e w' => e = .returned (.tuple #[.int .u8 d, .int .i64 c]) ∧ Below w.heap.size w w') ∧ (∀ w, Calls Tryd.prog 12 #[.string s] w fun e w' => e = .returned (.tuple #[.int .u8 d, .int .i64 c]) ∧ w = w') := by
  rcases Nat.eq_zero_or_pos s.size with h0 | h0
  · exact ⟨_, _, fun w => cd_short s h0 w, fun w => rcd_short s h0 w⟩
  · by_cases hl : 18 < s.size
    · exact ⟨_, _, fun w => cd_long s hs hl w, fun w => rcd_long s hs hl w⟩
    · by_cases hd : Dgs s
      · exact ⟨_, _, fun w => cd_ok s h0 (by omega) hd w, fun w => rcd_ok s h0 (by omega) hd w⟩
      · exact ⟨_, _, fun w => cd_form s h0 (by omega) hd w, fun w => rcd_form s h0 (by omega) hd w⟩
theorem mask_tot (s : ByteArray) (hs : s.size ≤ 1000) : ∃ b : Bool, (∀ w, Calls Tryd.prog 17 #[.string s] w fun e w' => ∃ r, e = .returned (.string r) ∧ IsMask s b r ∧ Below w.heap.size w w') ∧ (∀ w, Calls Tryd.prog 18 #[.string s] w fun e w' => ∃ r, e = .returned (.string r) ∧ IsMask s b r ∧ w = w') := by
  by_cases hc : chkE s = 0
  · have h12 := (chk_ok hc).1
    exact ⟨true, fun w => mask_ok s hs h12 hc w, fun w => rmask_ok s hs hc h12 w⟩
  · exact ⟨false, fun w => mask_no s hs hc w, fun w => rmask_no s hs hc w⟩
set_option maxHeartbeats 1600000 in
theorem walk (s : ByteArray) (w : World) (hs : s.size ≤ maxLen) (hT : Pow w ∧ 4 ≤ w.heap.size) :
    Calls Tryd.prog 3 #[.string s] w fun e w' => e = .returned (.bool true) ∧ Below w.heap.size w w' := by
  obtain ⟨hP, hw⟩ := hT
  unfold maxLen at hs
  by_cases hl : 100 < s.size
  · go_enter Tryd.func3, Tryd.ntmps3
    go_wp2_with fail
    go_at_call 10
    refine (awake_any _ hP hw).mono ?_
    rintro e w1 ⟨rfl, hb1⟩
    go_wp2
    go_ret
    exact ⟨rfl, hb1⟩
  obtain ⟨b, L1, L2⟩ := luhn_tot s (by omega)
  obtain ⟨d, c, D1, D2⟩ := cd_tot s (by omega)
  obtain ⟨m, M1, M2⟩ := mask_tot s (by omega)
  have K1 := fun w => check_any s (by omega) w
  have K2 := fun w => rcheck_any s (by omega) w
  have G1 := fun w => group_any s (by omega) w
  have G2 := fun w => rgroup_any s (by omega) w
  generalize chkE s = k at *
  generalize grp s s.size = g at *
  replace L1 := Lib.hid L1
  replace L2 := Lib.hid L2
  replace D1 := Lib.hid D1
  replace D2 := Lib.hid D2
  replace M1 := Lib.hid M1
  replace M2 := Lib.hid M2
  replace K1 := Lib.hid K1
  replace K2 := Lib.hid K2
  replace G1 := Lib.hid G1
  replace G2 := Lib.hid G2
  go_enter Tryd.func3, Tryd.ntmps3
  go_wp2_with fail
  go_at_call 11
  refine (D1.out _).mono ?_
  rintro e w1 ⟨rfl, hb1⟩
  go_wp2_with fail
  go_at_call 12
  refine (D2.out _).mono ?_
  rintro e w2 ⟨rfl, rfl⟩
  go_wp2_with fail
  go_at_call 13
  refine (L1.out _).mono ?_
  rintro e w3 ⟨rfl, hb3⟩
  have hB3 := hb1.trans (hb3.mono hb1.size)
  go_wp2_with fail
  go_at_call 14
  refine (L2.out _).mono ?_
  rintro e w4 ⟨rfl, rfl⟩
  go_wp2_with fail
  go_at_call 15
  refine (K1.out _).mono ?_
  rintro e w5 ⟨rfl, hb5⟩
  have hB5 := hB3.trans (hb5.mono hB3.size)
  go_wp2_with fail
  go_at_call 16
  refine (K2.out _).mono ?_
  rintro e w6 ⟨rfl, rfl⟩
  go_wp2_with fail
  go_at_call 17
  refine (M1.out _).mono ?_
  rintro e w7 ⟨r1, rfl, hi1, hb7⟩
  have hB7 := hB5.trans (hb7.mono hB5.size)
  go_wp2_with fail
  go_at_call 18
  refine (M2.out _).mono ?_
  rintro e w8 ⟨r2, rfl, hi2, rfl⟩
  obtain rfl := hi1.uniq hi2
  clear hi1 hi2
  go_wp2_with fail
  go_at_call 19
  refine (G1.out _).mono ?_
  rintro e w9 ⟨rfl, hb9⟩
  have hB9 := hB7.trans (hb9.mono hB7.size)
  go_wp2_with fail
  go_at_call 20
  refine (G2.out _).mono ?_
  rintro e w10 ⟨rfl, rfl⟩
  go_wp2_with fail
  go_at_call 10
  refine (awake_any _ (hP.later hB9 hw) (Nat.le_trans hw hB9.size)).mono ?_
  rintro e w11 ⟨rfl, hb11⟩
  go_wp2
  go_ret
  exact ⟨rfl, hB9.trans (hb11.mono hB9.size)⟩

theorem own : ownKnob Tryd.prog.godebug = none := by kernel_rfl
theorem laidOut : laidOutB Tryd.prog = true := by kernel_rfl
theorem gPow : Tryd.prog.globalNamed "internal/strconv.uint64pow10" = some 3 := by kernel_rfl
theorem gPowType : (Tryd.prog.globals[3]?).map (·.type) = some 89 := by kernel_rfl
theorem cellsPow : Tryd.prog.cellsOf 89 = 20 := by kernel_rfl
theorem cellsU64 : Tryd.prog.cellsOf 65 = 1 := by kernel_rfl
theorem room {W : World} (h : Pow W) : 4 ≤ W.heap.size := by
  have hc := Lib.TabIs.cell h gPow 0 (by decide)
  rcases Nat.lt_or_ge 3 W.heap.size with hl | hl
  · omega
  · simp [World.cell?, Array.getElem?_eq_none hl] at hc
theorem table {W : World} (h : laidMetH Tryd.prog Rows.panChecksRow.laid W) : Pow W ∧ 4 ≤ W.heap.size := by
  rw [MakeChecks.laidMetH_plain _ _ _ (by kernel_rfl)] at h
  have h1 := h
  have hp : Pow W := Lib.tabIs_of_head (k := .u64) (zs := Lib.pow10Tab) gPow gPowType Tryd.underlying89 Tryd.underlying65 cellsU64 cellsPow h1.tail.tail
  exact ⟨hp, room hp⟩

noncomputable def laidWorld (os : Os) : World := World.doorLaid Tryd.prog 400 os
theorem laid_met (os : Os) : laidMetH Tryd.prog Rows.panChecksRow.laid ((laidWorld os).forCall (fun _ _ => 0) ⟨#[], #[.string ByteArray.empty], []⟩).memory :=
  laidMetH_of_parts3 (fuel := 8) (laidMet_of_run' 8 (by kernel_rfl) (by kernel_rfl)) (by kernel_rfl) (by kernel_rfl)
theorem reads (os : Os) {H : Type} (enc : TypeId × Value → H) : ∃ places, DataW.whole enc Tryd.prog ((laidWorld os).forCall (fun _ _ => 0) ⟨#[], #[.string ByteArray.empty], []⟩).memory Tryd.f3.params.toList Rows.panChecksSpec.vars false (#[.string ByteArray.empty] : Array Value).toList 8 = some ([.lit (.string [])], [], places) :=
  ⟨[], by kernel_rfl⟩
theorem contract (H : Type) (enc : TypeId × Value → H) (W : World) (base : Nat) (args : Array Value) (ds gs : List (DataW H)) (before : List MemPlace)
    (hval0 : ∀ (j : Nat) t v, Tryd.f3.params[j]? = some t → args[j]? = some v → Value.okWide Tryd.prog W .any base t v)
    (hW : DataW.Whole enc Tryd.prog Tryd.f3.params.toList Rows.panChecksSpec.vars false W args.toList ds gs before) (hL : laidMetH Tryd.prog Rows.panChecksRow.laid W) :
    Calls Tryd.prog 3 args W fun e W' => ∃ v, e = .returned v ∧ Rows.panChecksSpec.post enc Tryd.prog Tryd.f3 false true false false W args v W' := by
  have hval : ∀ (j : Nat) t v, Tryd.f3.params[j]? = some t → args[j]? = some v → Value.okWide Tryd.prog W .any base t v := hval0
  have hW' := hW
  obtain ⟨p, q, hA0, hV, rfl, hfz, hnd⟩ := hW
  have hA : DataW.TrodAll enc Tryd.prog W 0 (fun _ => true) true Tryd.f3.params.toList args.toList ds p := hA0
  rw [Tryd.params3] at hA hval
  obtain ⟨v0, vs0, d0, ds0, p0, q0, hargs, rfl, rfl, h0, r0⟩ := trodAll_cons hA
  obtain ⟨rfl, rfl, rfl⟩ := trodAll_nil r0
  obtain rfl : args = #[v0] := by cases args; simp_all
  obtain ⟨rfl, rfl⟩ := trodVars_none hV
  have k0 := h0
  have lt0 : ∀ x ∈ p0, x.block < W.heap.size := by obtain ⟨m, hm⟩ := k0; exact DataW.trod_lt m _ _ _ hm
  obtain ⟨a0, rfl, -, -, w0⟩ := open_string Tryd.underlying9 (hval 0 9 v0 rfl rfl) h0
  clear hA0 hval0
  refine (walk a0 W w0 (table hL)).mono fun e W' ⟨he, bel⟩ => ?_
  subst he
  exact ⟨_, rfl, _, _, _, [], _, [], hW', trodAll_mk1 (shut_bool Tryd.underlying4 _), (trodAll_cons_mk (Below.trod laidOut (by kernel_rfl) (of_decide_eq_true (by kernel_rfl)) k0 bel lt0) trodAll_mk0), rfl, bel.frame _, fun h => by cases h⟩

set_option maxRecDepth 100000 in
theorem lifted (os : Os) (started : os.Started) (H : Type) (enc : TypeId × Value → H) (F : Stop.Interp) :
    ReturnsInHanded {} Tryd.checked os 3 .any ((OpenSpec.ofChange Rows.panChecksSpec).preRow enc Tryd.prog Tryd.f3 Rows.panChecksRow.domain false Rows.panChecksRow.laid) (((OpenSpec.ofChange Rows.panChecksSpec).at F).post enc Tryd.prog Tryd.f3 false true false false) := by
  obtain ⟨places, hx⟩ := reads os enc
  refine returnsInHanded_of_row (C := Tryd.checked) (s := OpenSpec.ofChange Rows.panChecksSpec) own started (by kernel_rfl) Tryd.func3
    (witness_row_at (enc := enc) (C := Tryd.checked) false (laidWorld os) #[.string ByteArray.empty] rfl (by kernel_rfl) (by kernel_rfl) (by kernel_rfl)
      (OpenSpec.preRow_of_cond 8 hx (by kernel_rfl) (fun k hk => by cases hk) (by kernel_rfl) (laid_met os))) ?_
  intro W base args ds gs before hval hW _ _ _ hL _ _
  exact contract H enc W base args ds gs before hval hW hL
theorem said : Rows.PanChecksSaid :=
  OpenClaim.holds_of_cond 3 Tryd.f3 rfl rfl rfl rfl rfl rfl rfl ⟨rfl, rfl, rfl, rfl, rfl⟩ rfl rfl rfl rfl rfl (by kernel_rfl) Tryd.func3 (by kernel_rfl)
    (of_decide_eq_true (by kernel_rfl)) (by unfold Func.isWrapper; first | (rw [if_pos (by decide +kernel)]; kernel_rfl) | (rw [if_neg (by decide +kernel)]; exact ⟨rfl, rfl⟩))
    (fun os started H enc _ F => by rw [OpenClaim.pre_eq_preRow]; exact lifted os started H enc F)
/-- No parameter wants a stand-in; the program's own looks are off. -/
theorem plain (f : FuncId) (fn : Func) (hf : Tryd.pinned.checked.prog.funcNamed "cardnet/cardnetlaw04.PanChecks" = some f) (hfn : Tryd.pinned.checked.prog.funcs[f]? = some fn) :
    true = Tryd.pinned.checked.prog.looks [] ∧ ∀ (j : Nat) t, fn.params[j]? = some t → Tryd.pinned.checked.prog.wantsStandIn t = false := by
  obtain rfl : f = 3 := Option.some.inj ((show Tryd.prog.funcNamed "cardnet/cardnetlaw04.PanChecks" = some 3 by kernel_rfl).symm.trans hf) |>.symm
  obtain rfl : fn = Tryd.f3 := (Option.some.inj (Tryd.func3.symm.trans hfn)).symm
  refine ⟨by kernel_rfl, fun j t ht => ?_⟩
  rw [Tryd.params3] at ht
  have hm : t ∈ [9] := by simpa using Array.mem_of_getElem? ht
  have hall : ([9].all fun u => !Tryd.prog.wantsStandIn u) = true := by kernel_rfl
  exact (show Tryd.prog.wantsStandIn t = false by simpa using List.all_eq_true.1 hall t hm)
/-- THE CARD: the statement. -/
theorem proved : Rows.PanChecksCardSaid :=
  Claim7.holds_tied_plain_at .later [] _ _ _ _ said (fun _ h => by cases h) (by kernel_rfl) (fun _ h => by cases h) panChecks_row_tie rfl ⟨rfl, rfl⟩ (by kernel_rfl) rfl plain (by kernel_rfl)
#print axioms proved
end Go.Proofs.YtddnfjaogekmjaaDoor.panChecks
