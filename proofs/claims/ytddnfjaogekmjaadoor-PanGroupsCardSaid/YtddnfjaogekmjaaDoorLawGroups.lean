/-
  PROVED: for every text, the law PanGroups returns true: card numbers are recovered from their groups, and a masked number hides exactly its middle, and the examples hold; the card ties the listed tables and variables to the program's text. Conditions: none besides the form's own reach.
-/
import Derived.Test.YtddnfjaogekmjaaDoorCards
import Derived.Test.YtddnfjaogekmjaaDoorTie
import Derived.WalkKit
import Derived.ProofKit
import Derived.OpenShut
import Derived.ShutString
import Derived.ChangeOld
import Derived.Below
import Derived.Deep.DeepHandedRow
import Derived.Lib.LaidTab
import Derived.LaidMore
import Derived.Stop.LaidErr
import Derived.Stop.Joined
import Derived.LaidHandle
import Derived.Test.YtddnfjaogekmjaaDoorP17
import Derived.Test.YtddnfjaogekmjaaDoorP20
import Derived.Deep.RegionHeld3
import Derived.Deep.DeepCutAuto
namespace Go.Proofs.YtddnfjaogekmjaaDoor.panGroups
open Go.ChangeShapes Go.WideShapes Go.ChangeAt Go.RowKit
open Go.ChangeMaps (open_string shut_string)
set_option linter.unusedVariables false
set_option maxHeartbeats 1600000 in
theorem walk (s : ByteArray) (w : World) (hs : s.size ≤ maxLen) (hT : Pow w ∧ 4 ≤ w.heap.size) :
    Calls Tryd.prog 9 #[.string s] w fun e w' => e = .returned (.bool true) ∧ Below w.heap.size w w' := by
  obtain ⟨hP, hw⟩ := hT
  unfold maxLen at hs
  by_cases hl : 100 < s.size
  · go_enter Tryd.func9, Tryd.ntmps9
    go_wp2_with fail
    go_at_call 10
    refine (awake_any _ hP hw).mono ?_
    rintro e w1 ⟨rfl, hb1⟩
    go_wp2
    go_ret
    exact ⟨rfl, hb1⟩
  have hcb := chkE_bd s
  have K1 := Lib.hid (fun w => check_any s (by omega) w)
  by_cases hc : chkE s = 0
  · obtain ⟨s1, s2, hd, hl2⟩ := chk_ok hc
    have HG := Lib.hid (strip_grp s hc)
    have G1 := Lib.hid (fun w => group_any s (by omega) w)
    have M1 := Lib.hid (fun w => mask_ok s (by omega) s1 hc w)
    have hgz := (grp_at s s.size (Nat.le_refl _)).1
    rw [hc] at K1
    clear hd hl2 hc
    generalize grp s s.size = g at *
    have T1 := Lib.hid (fun w => strip_any g (by omega) w)
    go_enter Tryd.func9, Tryd.ntmps9
    go_wp2_with fail
    go_at_call 15
    refine (K1.out _).mono ?_
    rintro e w1 ⟨rfl, hb1⟩
    go_wp2_with fail
    go_at_call 19
    refine (G1.out _).mono ?_
    rintro e w2 ⟨rfl, hb2⟩
    have hB2 := hb1.trans (hb2.mono hb1.size)
    go_wp2_with fail
    go_at_call 27
    refine (T1.out _).mono ?_
    rintro e w3 ⟨r, c, rfl, hi, hb3⟩
    obtain ⟨rfl, rfl⟩ := hi.uniq HG.out
    clear hi
    have hB3 := hB2.trans (hb3.mono hB2.size)
    go_wp2_with fail
    go_at_call 17
    refine (M1.out _).mono ?_
    rintro e w4 ⟨m, rfl, hm, hb4⟩
    have hB4 := hB3.trans (hb4.mono hB3.size)
    have HM := Lib.hid hm
    have hz : m.size = r.size := hm.1
    clear hm hb1 hb2 hb3 hb4 hB2 hB3
    have hm1 : ∀ w, (Instr.slice 9 (.string m) none (some (.int .i64 6)) none).run Tryd.prog w = .ok (.string (r.extract 0 6)) w := fun w => by
      rw [sl_h m 6 (by omega) (j := 6) rfl w, mask_head HM.out s1]
    have hs1 := fun w => sl_h r 6 (by omega) (j := 6) rfl w
    have hm2 : ∀ w, (Instr.slice 9 (.string m) (some (.int .i64 ((r.size : Int) - 4))) none none).run Tryd.prog w = .ok (.string (r.extract (r.size - 4) r.size)) w := fun w => by
      rw [sl_l m (r.size - 4) (by omega) (i := (r.size : Int) - 4) (by omega) w, hz, mask_tail HM.out s1]
    have hs2 := fun w => sl_l r (r.size - 4) (by omega) (i := (r.size : Int) - 4) (by omega) w
    go_wp2_with fail
    go_loop [6] (fun i => ∃ k : Nat, 6 ≤ k ∧ k ≤ r.size - 4 ∧ i = .int .i64 (k : Int)) (fun i => r.size - (intOf i).toNat)
    case atStart => exact ⟨6, Nat.le_refl _, by omega, rfl⟩
    case round =>
      obtain ⟨k, hk, hk4, rfl⟩ := hrel
      by_cases hlt : k < r.size - 4
      · have hx : ∀ w, (Instr.index 9 (.string m) (.int .i64 (k : Int))).run Tryd.prog w = .ok (.int .u8 42) w := fun w => by
          rw [ix_at m k (by omega) (i := (k : Int)) rfl w, mask_mid HM.out hk (by omega)]
        go_wp2
        go_round
        case rel => exact ⟨k + 1, by omega, by omega, by go_num⟩
        case measure => simp [intOf]; omega
      · obtain rfl : k = r.size - 4 := by omega
        have AWK : Hid (∀ w', Below w.heap.size w w' → Calls Tryd.prog 10 #[] w' fun e w'' => e = .returned (.bool true) ∧ Below w.heap.size w w'') := Lib.hid fun w' h => (awake_any w' (hP.later h hw) (Nat.le_trans hw h.size)).mono (fun e w'' hh => ⟨hh.1, h.trans (hh.2.mono h.size)⟩)
        have hm3 : ∀ w, (Instr.slice 9 (.string m) (some (.int .i64 (IntKind.i64.wrap ((r.size : Int) - 4)))) none none).run Tryd.prog w = .ok (.string (r.extract (r.size - 4) r.size)) w := fun w => by
          rw [wr_any _ (by omega) (by omega)]; exact hm2 w
        have hs3 : ∀ w, (Instr.slice 9 (.string r) (some (.int .i64 (IntKind.i64.wrap ((r.size : Int) - 4)))) none none).run Tryd.prog w = .ok (.string (r.extract (r.size - 4) r.size)) w := fun w => by
          rw [wr_any _ (by omega) (by omega)]; exact hs2 w
        go_wp2_with fail
        go_region_held3 (fun w' => Below w.heap.size w w') (repeat (first | with_reducible assumption | with_reducible refine Below.drew ?_)) (first
          | (go_at_call 10; (with_reducible refine (AWK.out _ (by repeat (first | with_reducible assumption | with_reducible refine Below.drew ?_))).mono ?_); rintro e w5 ⟨rfl, hb5⟩)
          | fail)
        all_goals go_wp2
        all_goals go_ret
        all_goals exact ⟨rfl, by assumption⟩
  · generalize chkE s = c at *
    have hcn : (c != 0) = true := bne_iff_ne.2 hc
    go_enter Tryd.func9, Tryd.ntmps9
    go_wp2_with fail
    go_at_call 15
    refine (K1.out _).mono ?_
    rintro e w1 ⟨rfl, hb1⟩
    go_wp2_with fail
    go_at_call 10
    refine (awake_any _ (hP.later hb1 hw) (Nat.le_trans hw hb1.size)).mono ?_
    rintro e w2 ⟨rfl, hb2⟩
    go_wp2
    go_ret
    exact ⟨rfl, hb1.trans (hb2.mono hb1.size)⟩

theorem own : ownKnob Tryd.prog.godebug = none := by kernel_rfl
theorem laidOut : laidOutB Tryd.prog = true := by kernel_rfl
theorem gPow : Tryd.prog.globalNamed "internal/strconv.uint64pow10" = some 3 := by kernel_rfl
theorem gPowType : (Tryd.prog.globals[3]?).map (·.type) = some 89 := by kernel_rfl
theorem cellsPow : Tryd.prog.cellsOf 89 = 20 := by kernel_rfl
theorem cellsU64 : Tryd.prog.cellsOf 65 = 1 := by kernel_rfl
theorem room {W : World} (h : Pow W) : 4 ≤ W.heap.size := by
  have hc := Lib.TabIs.cell h gPow 0 (by decide)
  rcases Nat.lt_or_ge 3 W.heap.size with hl | hl
  · omega
  · simp [World.cell?, Array.getElem?_eq_none hl] at hc
theorem table {W : World} (h : laidMetH Tryd.prog Rows.panGroupsRow.laid W) : Pow W ∧ 4 ≤ W.heap.size := by
  rw [MakeChecks.laidMetH_plain _ _ _ (by kernel_rfl)] at h
  have h1 := h
  have hp : Pow W := Lib.tabIs_of_head (k := .u64) (zs := Lib.pow10Tab) gPow gPowType Tryd.underlying89 Tryd.underlying65 cellsU64 cellsPow h1.tail.tail
  exact ⟨hp, room hp⟩

noncomputable def laidWorld (os : Os) : World := World.doorLaid Tryd.prog 400 os
theorem laid_met (os : Os) : laidMetH Tryd.prog Rows.panGroupsRow.laid ((laidWorld os).forCall (fun _ _ => 0) ⟨#[], #[.string ByteArray.empty], []⟩).memory :=
  laidMetH_of_parts3 (fuel := 8) (laidMet_of_run' 8 (by kernel_rfl) (by kernel_rfl)) (by kernel_rfl) (by kernel_rfl)
theorem reads (os : Os) {H : Type} (enc : TypeId × Value → H) : ∃ places, DataW.whole enc Tryd.prog ((laidWorld os).forCall (fun _ _ => 0) ⟨#[], #[.string ByteArray.empty], []⟩).memory Tryd.f9.params.toList Rows.panGroupsSpec.vars false (#[.string ByteArray.empty] : Array Value).toList 8 = some ([.lit (.string [])], [], places) :=
  ⟨[], by kernel_rfl⟩
theorem contract (H : Type) (enc : TypeId × Value → H) (W : World) (base : Nat) (args : Array Value) (ds gs : List (DataW H)) (before : List MemPlace)
    (hval0 : ∀ (j : Nat) t v, Tryd.f9.params[j]? = some t → args[j]? = some v → Value.okWide Tryd.prog W .any base t v)
    (hW : DataW.Whole enc Tryd.prog Tryd.f9.params.toList Rows.panGroupsSpec.vars false W args.toList ds gs before) (hL : laidMetH Tryd.prog Rows.panGroupsRow.laid W) :
    Calls Tryd.prog 9 args W fun e W' => ∃ v, e = .returned v ∧ Rows.panGroupsSpec.post enc Tryd.prog Tryd.f9 false true false false W args v W' := by
  have hval : ∀ (j : Nat) t v, Tryd.f9.params[j]? = some t → args[j]? = some v → Value.okWide Tryd.prog W .any base t v := hval0
  have hW' := hW
  obtain ⟨p, q, hA0, hV, rfl, hfz, hnd⟩ := hW
  have hA : DataW.TrodAll enc Tryd.prog W 0 (fun _ => true) true Tryd.f9.params.toList args.toList ds p := hA0
  rw [Tryd.params9] at hA hval
  obtain ⟨v0, vs0, d0, ds0, p0, q0, hargs, rfl, rfl, h0, r0⟩ := trodAll_cons hA
  obtain ⟨rfl, rfl, rfl⟩ := trodAll_nil r0
  obtain rfl : args = #[v0] := by cases args; simp_all
  obtain ⟨rfl, rfl⟩ := trodVars_none hV
  have k0 := h0
  have lt0 : ∀ x ∈ p0, x.block < W.heap.size := by obtain ⟨m, hm⟩ := k0; exact DataW.trod_lt m _ _ _ hm
  obtain ⟨a0, rfl, -, -, w0⟩ := open_string Tryd.underlying9 (hval 0 9 v0 rfl rfl) h0
  clear hA0 hval0
  refine (walk a0 W w0 (table hL)).mono fun e W' ⟨he, bel⟩ => ?_
  subst he
  exact ⟨_, rfl, _, _, _, [], _, [], hW', trodAll_mk1 (shut_bool Tryd.underlying4 _), (trodAll_cons_mk (Below.trod laidOut (by kernel_rfl) (of_decide_eq_true (by kernel_rfl)) k0 bel lt0) trodAll_mk0), rfl, bel.frame _, fun h => by cases h⟩

set_option maxRecDepth 100000 in
theorem lifted (os : Os) (started : os.Started) (H : Type) (enc : TypeId × Value → H) (F : Stop.Interp) :
    ReturnsInHanded {} Tryd.checked os 9 .any ((OpenSpec.ofChange Rows.panGroupsSpec).preRow enc Tryd.prog Tryd.f9 Rows.panGroupsRow.domain false Rows.panGroupsRow.laid) (((OpenSpec.ofChange Rows.panGroupsSpec).at F).post enc Tryd.prog Tryd.f9 false true false false) := by
  obtain ⟨places, hx⟩ := reads os enc
  refine returnsInHanded_of_row (C := Tryd.checked) (s := OpenSpec.ofChange Rows.panGroupsSpec) own started (by kernel_rfl) Tryd.func9
    (witness_row_at (enc := enc) (C := Tryd.checked) false (laidWorld os) #[.string ByteArray.empty] rfl (by kernel_rfl) (by kernel_rfl) (by kernel_rfl)
      (OpenSpec.preRow_of_cond 8 hx (by kernel_rfl) (fun k hk => by cases hk) (by kernel_rfl) (laid_met os))) ?_
  intro W base args ds gs before hval hW _ _ _ hL _ _
  exact contract H enc W base args ds gs before hval hW hL
theorem said : Rows.PanGroupsSaid :=
  OpenClaim.holds_of_cond 9 Tryd.f9 rfl rfl rfl rfl rfl rfl rfl ⟨rfl, rfl, rfl, rfl, rfl⟩ rfl rfl rfl rfl rfl (by kernel_rfl) Tryd.func9 (by kernel_rfl)
    (of_decide_eq_true (by kernel_rfl)) (by unfold Func.isWrapper; first | (rw [if_pos (by decide +kernel)]; kernel_rfl) | (rw [if_neg (by decide +kernel)]; exact ⟨rfl, rfl⟩))
    (fun os started H enc _ F => by rw [OpenClaim.pre_eq_preRow]; exact lifted os started H enc F)
/-- No parameter wants a stand-in; the program's own looks are off. -/
theorem plain (f : FuncId) (fn : Func) (hf : Tryd.pinned.checked.prog.funcNamed "cardnet/cardnetlaw04.PanGroups" = some f) (hfn : Tryd.pinned.checked.prog.funcs[f]? = some fn) :
    true = Tryd.pinned.checked.prog.looks [] ∧ ∀ (j : Nat) t, fn.params[j]? = some t → Tryd.pinned.checked.prog.wantsStandIn t = false := by
  obtain rfl : f = 9 := Option.some.inj ((show Tryd.prog.funcNamed "cardnet/cardnetlaw04.PanGroups" = some 9 by kernel_rfl).symm.trans hf) |>.symm
  obtain rfl : fn = Tryd.f9 := (Option.some.inj (Tryd.func9.symm.trans hfn)).symm
  refine ⟨by kernel_rfl, fun j t ht => ?_⟩
  rw [Tryd.params9] at ht
  have hm : t ∈ [9] := by simpa using Array.mem_of_getElem? ht
  have hall : ([9].all fun u => !Tryd.prog.wantsStandIn u) = true := by kernel_rfl
  exact (show Tryd.prog.wantsStandIn t = false by simpa using List.all_eq_true.1 hall t hm)
/-- THE CARD: the statement. -/
theorem proved : Rows.PanGroupsCardSaid :=
  Claim7.holds_tied_plain_at .later [] _ _ _ _ said (fun _ h => by cases h) (by kernel_rfl) (fun _ h => by cases h) panGroups_row_tie rfl ⟨rfl, rfl⟩ (by kernel_rfl) rfl plain (by kernel_rfl)
#print axioms proved
end Go.Proofs.YtddnfjaogekmjaaDoor.panGroups
