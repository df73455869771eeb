/-
  PROVED: for every prefix, number and length, the law PanNumbers returns true: the card numbers of a prefix are card numbers, begin with it, ascend with their numbers and have them as their index, and the examples hold; the card ties the listed tables and variables to the program's text. Conditions: none besides the form's own reach.
-/
import Derived.Test.YtddnfjaogekmjaaDoorCards
import Derived.Test.YtddnfjaogekmjaaDoorTie
import Derived.WalkKit
import Derived.ProofKit
import Derived.OpenShut
import Derived.ShutString
import Derived.ChangeOld
import Derived.Below
import Derived.Deep.DeepHandedRow
import Derived.Lib.LaidTab
import Derived.LaidMore
import Derived.Stop.LaidErr
import Derived.Stop.Joined
import Derived.LaidHandle
import Derived.Test.YtddnfjaogekmjaaDoorP17
import Derived.Test.YtddnfjaogekmjaaDoorP23
import Derived.Deep.RegionHeld3
import Derived.Deep.DeepCutAuto
import Derived.Deep.QuietTactic
import Derived.BigQuiet
namespace Go.Proofs.YtddnfjaogekmjaaDoor.panNumbers
open Go.ChangeShapes Go.WideShapes Go.ChangeAt Go.RowKit
open Go.ChangeMaps (open_string shut_string)
set_option linter.unusedVariables false
theorem bel_alloc {w w' : World} (h : Below w.heap.size w w') (o : Obj) : Below w.heap.size w (w'.alloc o) := h.alloc h.size o
theorem bel_drewN {w w' : World} (h : Below w.heap.size w w') (n : Nat) : Below w.heap.size w (w'.drewN n) := h.trans ⟨rfl, rfl, rfl, Nat.le_refl _, fun _ _ => rfl⟩
theorem i64_in {x : Int} (h : (Lit.int .i64 x).wf = true) : -9223372036854775808 ≤ x ∧ x ≤ 9223372036854775807 := by
  simp [Lit.wf, IntKind.min, IntKind.max, IntKind.signed, IntKind.bits] at h
  exact ⟨by omega, by omega⟩
set_option maxHeartbeats 4000000 in
set_option maxRecDepth 5000 in
theorem walk (p : ByteArray) (n L : Int) (w : World) (hs : p.size ≤ maxLen) (wn : (Lit.int .i64 n).wf = true) (wL : (Lit.int .i64 L).wf = true) (hT : Pow w ∧ 4 ≤ w.heap.size) :
    Calls Tryd.prog 8 #[.string p, .int .i64 n, .int .i64 L] w fun e w' => e = .returned (.bool true) ∧ Below w.heap.size w w' := by
  obtain ⟨hP, hw⟩ := hT
  unfold maxLen at hs
  obtain ⟨n0, n1⟩ := i64_in wn
  obtain ⟨L0, L1⟩ := i64_in wL
  clear wn wL
  have UP : Hid (∀ w', Below w.heap.size w w' → Pow w' ∧ 4 ≤ w'.heap.size) := Lib.hid fun w' h => ⟨hP.later h hw, Nat.le_trans hw h.size⟩
  have AWK : Hid (∀ w', Below w.heap.size w w' → Calls Tryd.prog 10 #[] w' fun e w'' => e = .returned (.bool true) ∧ Below w.heap.size w w'') := Lib.hid fun w' h => (awake_any w' (UP.out w' h).1 (UP.out w' h).2).mono (fun e w'' hh => ⟨hh.1, h.trans (hh.2.mono h.size)⟩)
  by_cases hl : 100 < p.size
  · go_enter Tryd.func8, Tryd.ntmps8
    go_wp2_with fail
    go_at_call 10
    refine (AWK.out _ (Below.refl _ _)).mono ?_
    rintro e w1 ⟨rfl, hb1⟩
    go_wp2
    go_ret
    exact ⟨rfl, hb1⟩
  by_cases hn : n < 0
  · go_enter Tryd.func8, Tryd.ntmps8
    go_wp2_with fail
    go_at_call 10
    refine (AWK.out _ (Below.refl _ _)).mono ?_
    rintro e w1 ⟨rfl, hb1⟩
    go_wp2
    go_ret
    exact ⟨rfl, hb1⟩
  by_cases hn2 : 1152921504606846976 < n
  · go_enter Tryd.func8, Tryd.ntmps8
    go_wp2_with fail
    go_at_call 10
    refine (AWK.out _ (Below.refl _ _)).mono ?_
    rintro e w1 ⟨rfl, hb1⟩
    go_wp2
    go_ret
    exact ⟨rfl, hb1⟩
  obtain ⟨u, rfl⟩ := Int.eq_ofNat_of_zero_le (show 0 ≤ n by omega)
  clear n0 n1 hn
  have hu : u ≤ 1152921504606846976 := by omega
  clear hn2
  by_cases hok : OkM p (u : Int) L
  · obtain ⟨l, rfl⟩ := Int.eq_ofNat_of_zero_le (show 0 ≤ L by have := hok.1; omega)
    have hl1 : p.size + 1 ≤ l := by have := hok.1; have := hok.2.2.2.1; omega
    have hl19 : l ≤ 19 := by have := hok.2.1; omega
    have MA : Hid (∀ w', Below w.heap.size w w' → Calls Tryd.prog 21 #[.string p, .int .i64 (u : Int), .int .i64 (l : Int)] w' fun e w'' => e = .returned (.tuple #[.string (made p u l), .int .i64 0]) ∧ Below w.heap.size w w'') := Lib.hid (fun w' h => by
      have := make_ok p u l (by omega) hok w' (UP.out w' h).1 (UP.out w' h).2
      exact this.mono (fun e w'' hh => ⟨hh.1, h.trans (hh.2.mono h.size)⟩))
    have IX : Hid (∀ w', Below w.heap.size w w' → Calls Tryd.prog 23 #[.string p, .string (made p u l)] w' fun e w'' => e = .returned (.tuple #[.int .i64 (u : Int), .bool true]) ∧ Below w.heap.size w w'') := Lib.hid (fun w' h => by
      have := index_ok p (made p u l) (made_okx hok) w' (UP.out w' h).1 (UP.out w' h).2
      rw [made_idxN hok] at this
      exact this.mono (fun e w'' hh => ⟨hh.1, h.trans (hh.2.mono h.size)⟩))
    have CK : Hid (∀ w', Below w.heap.size w w' → Calls Tryd.prog 15 #[.string (made p u l)] w' fun e w'' => e = .returned (.int .i64 0) ∧ Below w.heap.size w w'') := Lib.hid (fun w' h => by
      have := check_any (made p u l) (by rw [made_size hl1]; omega) w'
      rw [made_chk hok] at this
      exact this.mono (fun e w'' hh => ⟨hh.1, h.trans (hh.2.mono h.size)⟩))
    have hz : (made p u l).size = l := made_size hl1
    have hsl : ∀ w, (Instr.slice 9 (.string (made p u l)) none (some (.int .i64 (p.size : Int))) none).run Tryd.prog w = .ok (.string p) w := fun w => by rw [sl_h (made p u l) p.size (by omega) (j := (p.size : Int)) rfl w, made_pre hl1]
    have hzi : (((made p u l).size : Int) != (l : Int)) = false := by rw [hz]; simp
    have hpl : ¬ ((made p u l).size : Int) < (p.size : Int) := by omega
    by_cases hok2 : OkM p (u + 1 : Int) (l : Int)
    · have MB : Hid (∀ w', Below w.heap.size w w' → Calls Tryd.prog 21 #[.string p, .int .i64 ((u : Int) + 1), .int .i64 (l : Int)] w' fun e w'' => e = .returned (.tuple #[.string (made p (u + 1) l), .int .i64 0]) ∧ Below w.heap.size w w'') := Lib.hid (fun w' h => by
      have := make_ok p (u + 1) l (by omega) (by rw [Int.natCast_add]; exact hok2) w' (UP.out w' h).1 (UP.out w' h).2
      exact this.mono (fun e w'' hh => ⟨hh.1, h.trans (hh.2.mono h.size)⟩))
      have hlt : Op.bytesLess (made p u l).toList (made p (u + 1) l).toList = true := made_less (by rw [Int.natCast_add]; exact hok2)
      have O1 : binOp .lss 9 (.string (made p u l)) (.string (made p (u + 1) l)) = pure (.bool true) := by rw [binOp_string_lss, hlt]
      clear hok hok2 hP
      generalize made p u l = a at *
      generalize made p (u + 1) l = b at *
      go_enter Tryd.func8, Tryd.ntmps8
      go_wp2_with fail
      go_at_call 21
      refine (MA.out _ (Below.refl _ _)).mono ?_
      rintro e w1 ⟨rfl, hb1⟩
      go_wp2_with fail
      go_at_call 21
      refine (MB.out _ hb1).mono ?_
      rintro e w2 ⟨rfl, hb2⟩
      go_wp2_with fail
      go_at_call 23
      refine (IX.out _ hb2).mono ?_
      rintro e w3 ⟨rfl, hb3⟩
      go_wp2_with fail
      go_at_call 15
      refine (CK.out _ hb3).mono ?_
      rintro e w4 ⟨rfl, hb4⟩
      go_wp2_with fail
      go_at_call 10
      refine (AWK.out _ hb4).mono ?_
      rintro e w5 ⟨rfl, hb5⟩
      go_wp2
      go_ret
      exact ⟨rfl, hb5⟩
    · have MB : Hid (∀ w', Below w.heap.size w w' → Calls Tryd.prog 21 #[.string p, .int .i64 ((u : Int) + 1), .int .i64 (l : Int)] w' fun e w'' => e = .returned (.tuple #[.string ByteArray.empty, .int .i64 4]) ∧ Below w.heap.size w w'') := Lib.hid (fun w' h => by
      have := make_bad p (by omega) ((u : Int) + 1) (l : Int) (by omega) (by omega) hok2 w' (UP.out w' h).1
      exact this.mono (fun e w'' hh => ⟨hh.1, h.trans (hh.2.mono h.size)⟩))
      clear hok hok2 hP
      generalize made p u l = a at *
      go_enter Tryd.func8, Tryd.ntmps8
      go_wp2_with fail
      go_at_call 21
      refine (MA.out _ (Below.refl _ _)).mono ?_
      rintro e w1 ⟨rfl, hb1⟩
      go_wp2_with fail
      go_at_call 21
      refine (MB.out _ hb1).mono ?_
      rintro e w2 ⟨rfl, hb2⟩
      go_wp2_with fail
      go_at_call 23
      refine (IX.out _ hb2).mono ?_
      rintro e w3 ⟨rfl, hb3⟩
      go_wp2_with fail
      go_at_call 15
      refine (CK.out _ hb3).mono ?_
      rintro e w4 ⟨rfl, hb4⟩
      go_wp2_with fail
      go_at_call 10
      refine (AWK.out _ hb4).mono ?_
      rintro e w5 ⟨rfl, hb5⟩
      go_wp2
      go_ret
      exact ⟨rfl, hb5⟩
  · have hok2 : ¬ OkM p (u + 1 : Int) L := fun h => hok (okm_down (by omega) h)
    have MA : Hid (∀ w', Below w.heap.size w w' → Calls Tryd.prog 21 #[.string p, .int .i64 (u : Int), .int .i64 L] w' fun e w'' => e = .returned (.tuple #[.string ByteArray.empty, .int .i64 4]) ∧ Below w.heap.size w w'') := Lib.hid (fun w' h => by
      have := make_bad p (by omega) (u : Int) L (by omega) (by omega) hok w' (UP.out w' h).1
      exact this.mono (fun e w'' hh => ⟨hh.1, h.trans (hh.2.mono h.size)⟩))
    have MB : Hid (∀ w', Below w.heap.size w w' → Calls Tryd.prog 21 #[.string p, .int .i64 ((u : Int) + 1), .int .i64 L] w' fun e w'' => e = .returned (.tuple #[.string ByteArray.empty, .int .i64 4]) ∧ Below w.heap.size w w'') := Lib.hid (fun w' h => by
      have := make_bad p (by omega) ((u : Int) + 1) L (by omega) (by omega) hok2 w' (UP.out w' h).1
      exact this.mono (fun e w'' hh => ⟨hh.1, h.trans (hh.2.mono h.size)⟩))
    clear hok hok2 hP
    go_enter Tryd.func8, Tryd.ntmps8
    go_wp2_with fail
    go_at_call 21
    refine (MA.out _ (Below.refl _ _)).mono ?_
    rintro e w1 ⟨rfl, hb1⟩
    go_wp2_with fail
    go_at_call 21
    refine (MB.out _ hb1).mono ?_
    rintro e w2 ⟨rfl, hb2⟩
    go_wp2_with fail
    go_at_call 10
    refine (AWK.out _ hb2).mono ?_
    rintro e w3 ⟨rfl, hb3⟩
    go_wp2
    go_ret
    exact ⟨rfl, hb3⟩

theorem own : ownKnob Tryd.prog.godebug = none := by kernel_rfl
theorem laidOut : laidOutB Tryd.prog = true := by kernel_rfl
theorem gPow : Tryd.prog.globalNamed "internal/strconv.uint64pow10" = some 3 := by kernel_rfl
theorem gPowType : (Tryd.prog.globals[3]?).map (·.type) = some 89 := by kernel_rfl
theorem cellsPow : Tryd.prog.cellsOf 89 = 20 := by kernel_rfl
theorem cellsU64 : Tryd.prog.cellsOf 65 = 1 := by kernel_rfl
theorem room {W : World} (h : Pow W) : 4 ≤ W.heap.size := by
  have hc := Lib.TabIs.cell h gPow 0 (by decide)
  rcases Nat.lt_or_ge 3 W.heap.size with hl | hl
  · omega
  · simp [World.cell?, Array.getElem?_eq_none hl] at hc
theorem table {W : World} (h : laidMetH Tryd.prog Rows.panNumbersRow.laid W) : Pow W ∧ 4 ≤ W.heap.size := by
  rw [MakeChecks.laidMetH_plain _ _ _ (by kernel_rfl)] at h
  have h1 := h
  have hp : Pow W := Lib.tabIs_of_head (k := .u64) (zs := Lib.pow10Tab) gPow gPowType Tryd.underlying89 Tryd.underlying65 cellsU64 cellsPow h1.tail.tail
  exact ⟨hp, room hp⟩

noncomputable def laidWorld (os : Os) : World := World.doorLaid Tryd.prog 400 os
theorem laid_met (os : Os) : laidMetH Tryd.prog Rows.panNumbersRow.laid ((laidWorld os).forCall (fun _ _ => 0) ⟨#[], #[.string ByteArray.empty, .int .i64 0, .int .i64 0], []⟩).memory :=
  laidMetH_of_parts3 (fuel := 8) (laidMet_of_run' 8 (by kernel_rfl) (by kernel_rfl)) (by kernel_rfl) (by kernel_rfl)
theorem reads (os : Os) {H : Type} (enc : TypeId × Value → H) : ∃ places, DataW.whole enc Tryd.prog ((laidWorld os).forCall (fun _ _ => 0) ⟨#[], #[.string ByteArray.empty, .int .i64 0, .int .i64 0], []⟩).memory Tryd.f8.params.toList Rows.panNumbersSpec.vars false (#[.string ByteArray.empty, .int .i64 0, .int .i64 0] : Array Value).toList 8 = some ([.lit (.string []), .lit (.int .i64 0), .lit (.int .i64 0)], [], places) :=
  ⟨[], by kernel_rfl⟩
theorem contract (H : Type) (enc : TypeId × Value → H) (W : World) (base : Nat) (args : Array Value) (ds gs : List (DataW H)) (before : List MemPlace)
    (hval0 : ∀ (j : Nat) t v, Tryd.f8.params[j]? = some t → args[j]? = some v → Value.okWide Tryd.prog W .any base t v)
    (hW : DataW.Whole enc Tryd.prog Tryd.f8.params.toList Rows.panNumbersSpec.vars false W args.toList ds gs before) (hL : laidMetH Tryd.prog Rows.panNumbersRow.laid W) :
    Calls Tryd.prog 8 args W fun e W' => ∃ v, e = .returned v ∧ Rows.panNumbersSpec.post enc Tryd.prog Tryd.f8 false true false false W args v W' := by
  have hval : ∀ (j : Nat) t v, Tryd.f8.params[j]? = some t → args[j]? = some v → Value.okWide Tryd.prog W .any base t v := hval0
  have hW' := hW
  obtain ⟨p, q, hA0, hV, rfl, hfz, hnd⟩ := hW
  have hA : DataW.TrodAll enc Tryd.prog W 0 (fun _ => true) true Tryd.f8.params.toList args.toList ds p := hA0
  rw [Tryd.params8] at hA hval
  obtain ⟨v0, vs0, d0, ds0, p0, q0, hargs, rfl, rfl, h0, r0⟩ := trodAll_cons hA
  obtain ⟨v1, vs1, d1, ds1, p1, q1, rfl, rfl, rfl, h1, r1⟩ := trodAll_cons r0
  obtain ⟨v2, vs2, d2, ds2, p2, q2, rfl, rfl, rfl, h2, r2⟩ := trodAll_cons r1
  obtain ⟨rfl, rfl, rfl⟩ := trodAll_nil r2
  obtain rfl : args = #[v0, v1, v2] := by cases args; simp_all
  obtain ⟨rfl, rfl⟩ := trodVars_none hV
  have k0 := h0
  have lt0 : ∀ x ∈ p0, x.block < W.heap.size := by obtain ⟨m, hm⟩ := k0; exact DataW.trod_lt m _ _ _ hm
  obtain ⟨a0, rfl, -, -, w0⟩ := open_string Tryd.underlying9 (hval 0 9 v0 rfl rfl) h0
  have k1 := h1
  have lt1 : ∀ x ∈ p1, x.block < W.heap.size := by obtain ⟨m, hm⟩ := k1; exact DataW.trod_lt m _ _ _ hm
  obtain ⟨a1, rfl, -, -, w1⟩ := open_int Tryd.underlying3 (hval 1 3 v1 rfl rfl) h1
  have k2 := h2
  have lt2 : ∀ x ∈ p2, x.block < W.heap.size := by obtain ⟨m, hm⟩ := k2; exact DataW.trod_lt m _ _ _ hm
  obtain ⟨a2, rfl, -, -, w2⟩ := open_int Tryd.underlying3 (hval 2 3 v2 rfl rfl) h2
  clear hA0 hval0
  refine (walk a0 a1 a2 W w0 w1 w2 (table hL)).mono fun e W' ⟨he, bel⟩ => ?_
  subst he
  exact ⟨_, rfl, _, _, _, [], _, [], hW', trodAll_mk1 (shut_bool Tryd.underlying4 _), (trodAll_cons_mk (Below.trod laidOut (by kernel_rfl) (of_decide_eq_true (by kernel_rfl)) k0 bel lt0) (trodAll_cons_mk (Below.trod laidOut (by kernel_rfl) (of_decide_eq_true (by kernel_rfl)) k1 bel lt1) (trodAll_cons_mk (Below.trod laidOut (by kernel_rfl) (of_decide_eq_true (by kernel_rfl)) k2 bel lt2) trodAll_mk0))), rfl, bel.frame _, fun h => by cases h⟩

set_option maxRecDepth 100000 in
theorem lifted (os : Os) (started : os.Started) (H : Type) (enc : TypeId × Value → H) (F : Stop.Interp) :
    ReturnsInHanded {} Tryd.checked os 8 .any ((OpenSpec.ofChange Rows.panNumbersSpec).preRow enc Tryd.prog Tryd.f8 Rows.panNumbersRow.domain false Rows.panNumbersRow.laid) (((OpenSpec.ofChange Rows.panNumbersSpec).at F).post enc Tryd.prog Tryd.f8 false true false false) := by
  obtain ⟨places, hx⟩ := reads os enc
  refine returnsInHanded_of_row (C := Tryd.checked) (s := OpenSpec.ofChange Rows.panNumbersSpec) own started (by kernel_rfl) Tryd.func8
    (witness_row_at (enc := enc) (C := Tryd.checked) false (laidWorld os) #[.string ByteArray.empty, .int .i64 0, .int .i64 0] rfl (by kernel_rfl) (by kernel_rfl) (by kernel_rfl)
      (OpenSpec.preRow_of_cond 8 hx (by kernel_rfl) (fun k hk => by cases hk) (by kernel_rfl) (laid_met os))) ?_
  intro W base args ds gs before hval hW _ _ _ hL _ _
  exact contract H enc W base args ds gs before hval hW hL
theorem said : Rows.PanNumbersSaid :=
  OpenClaim.holds_of_cond 8 Tryd.f8 rfl rfl rfl rfl rfl rfl rfl ⟨rfl, rfl, rfl, rfl, rfl⟩ rfl rfl rfl rfl rfl (by kernel_rfl) Tryd.func8 (by kernel_rfl)
    (of_decide_eq_true (by kernel_rfl)) (by unfold Func.isWrapper; first | (rw [if_pos (by decide +kernel)]; kernel_rfl) | (rw [if_neg (by decide +kernel)]; exact ⟨rfl, rfl⟩))
    (fun os started H enc _ F => by rw [OpenClaim.pre_eq_preRow]; exact lifted os started H enc F)
/-- No parameter wants a stand-in; the program's own looks are off. -/
theorem plain (f : FuncId) (fn : Func) (hf : Tryd.pinned.checked.prog.funcNamed "cardnet/cardnetlaw04.PanNumbers" = some f) (hfn : Tryd.pinned.checked.prog.funcs[f]? = some fn) :
    true = Tryd.pinned.checked.prog.looks [] ∧ ∀ (j : Nat) t, fn.params[j]? = some t → Tryd.pinned.checked.prog.wantsStandIn t = false := by
  obtain rfl : f = 8 := Option.some.inj ((show Tryd.prog.funcNamed "cardnet/cardnetlaw04.PanNumbers" = some 8 by kernel_rfl).symm.trans hf) |>.symm
  obtain rfl : fn = Tryd.f8 := (Option.some.inj (Tryd.func8.symm.trans hfn)).symm
  refine ⟨by kernel_rfl, fun j t ht => ?_⟩
  rw [Tryd.params8] at ht
  have hm : t ∈ [9, 3, 3] := by simpa using Array.mem_of_getElem? ht
  have hall : ([9, 3, 3].all fun u => !Tryd.prog.wantsStandIn u) = true := by kernel_rfl
  exact (show Tryd.prog.wantsStandIn t = false by simpa using List.all_eq_true.1 hall t hm)
/-- THE CARD: the statement. -/
theorem proved : Rows.PanNumbersCardSaid :=
  Claim7.holds_tied_plain_at .later [] _ _ _ _ said (fun _ h => by cases h) (by kernel_rfl) (fun _ h => by cases h) panNumbers_row_tie rfl ⟨rfl, rfl⟩ (by kernel_rfl) rfl plain (by kernel_rfl)
#print axioms proved
end Go.Proofs.YtddnfjaogekmjaaDoor.panNumbers
