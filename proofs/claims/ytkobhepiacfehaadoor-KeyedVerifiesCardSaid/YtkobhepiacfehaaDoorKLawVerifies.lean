/-
  PROVED: for every key, every string, every number of digits and every other string, the law KeyedVerifies returns true: exactly the code of the data is verified, Number inverts Text, and the examples hold; the card ties the listed tables and variables to the program's text. Conditions: none besides the form's own reach.
-/
import Derived.Test.YtkobhepiacfehaaDoorCards
import Derived.Test.YtkobhepiacfehaaDoorTie
import Derived.WalkKit
import Derived.ProofKit
import Derived.OpenShut
import Derived.ShutString
import Derived.ChangeOld
import Derived.Below
import Derived.Deep.DeepHandedRow
import Derived.Lib.LaidTab
import Derived.LaidMore
import Derived.Stop.LaidErr
import Derived.Stop.Joined
import Derived.LaidHandle
import Derived.Test.YtkobhepiacfehaaDoorKAwake
namespace Go.Proofs.YtkobhepiacfehaaDoor.keyedVerifies
open Go.ChangeShapes Go.WideShapes Go.ChangeAt Go.RowKit
open Go.ChangeMaps (open_string shut_string)
set_option linter.unusedVariables false
theorem beq_str {a b : ByteArray} (h : a = b) : (a.toList == b.toList) = true := by rw [h]; simp
set_option maxHeartbeats 2000000 in
theorem walk (a : Int) (s : ByteArray) (d : Int) (o : ByteArray) (w : World) (w0 : (Lit.int .u64 a).wf = true) (hs : s.size ≤ maxLen) (w2 : (Lit.int .u8 d).wf = true) (ho : o.size ≤ maxLen) (hT : Std w) :
    Calls Tryd.prog 5 #[.int .u64 a, .string s, .int .u8 d, .string o] w fun e w' => e = .returned (.bool true) ∧ Below w.heap.size w w' := by
  obtain ⟨key, rfl⟩ : ∃ p : Nat, a = p := ⟨a.toNat, by simp [Lit.wf, IntKind.min, IntKind.max, IntKind.signed, IntKind.bits] at w0; omega⟩
  have hk : key < 18446744073709551616 := by simp [Lit.wf, IntKind.min, IntKind.max, IntKind.signed, IntKind.bits] at w0; omega
  have HK := Lib.hid hk
  have HM := Lib.hid hs
  have HT := Lib.hid hT
  unfold maxLen at hs
  clear hT w0
  unfold maxLen at ho
  obtain ⟨dn, rfl⟩ : ∃ p : Nat, d = p := ⟨d.toNat, by simp [Lit.wf, IntKind.min, IntKind.max, IntKind.signed, IntKind.bits] at w2; omega⟩
  have hdn : dn < 256 := by simp [Lit.wf, IntKind.min, IntKind.max, IntKind.signed, IntKind.bits] at w2; omega
  clear w2 hk
  by_cases hl : 1000 < s.size
  · go_enter Tryd.func5, Tryd.ntmps5
    go_wp2_with (go_at_call 7; refine (awake_any _ HT.out).mono ?_; rintro e w1 ⟨rfl, hb⟩)
    go_ret
    exact ⟨rfl, by assumption⟩
  have hl2 : s.size ≤ 1000 := by omega
  clear hl
  by_cases hlo : 20 < o.size
  · go_enter Tryd.func5, Tryd.ntmps5
    go_wp2_with (go_at_call 7; refine (awake_any _ HT.out).mono ?_; rintro e w1 ⟨rfl, hb⟩)
    go_ret
    exact ⟨rfl, by assumption⟩
  have hlo2 : o.size ≤ 20 := by omega
  clear hlo
  obtain ⟨n, hn⟩ : ∃ n : Nat, n = dn % 12 + 1 := ⟨_, rfl⟩
  have h1 : 1 ≤ n := by omega
  have h2 : n ≤ 12 := by omega
  have hmod : (dn : Int) % 12 + 1 = (n : Int) := by omega
  clear hn
  have hzd := decS_size (macN key s) n
  have HZD := Lib.hid hzd
  have HBT : Hid (true = ((decS (macN key s) n).toList == (decS (macN key s) (decS (macN key s) n).size).toList)) := Lib.hid (by rw [HZD.out]; exact (beq_str rfl).symm)
  have hz16 := hexS_size key 16
  by_cases hon : o.size = n
  · have HBO0 : Hid ((o.toList == (decS (macN key s) n).toList) = (o.toList == (decS (macN key s) o.size).toList)) := Lib.hid (by rw [hon])
    have hoe : ((o.size : Int) == (n : Int)) = true := by rw [beq_iff_eq]; omega
    have ho1 : 1 ≤ o.size := by omega
    have ho2 : o.size ≤ 12 := by omega
    have HON := Lib.hid hon
    clear hon
    have HBO := HBO0
    go_enter Tryd.func5, Tryd.ntmps5
    have hc0 : Below w.heap.size w w := Below.refl _ _
    have HT0 := HT
    go_wp2_with fail
    refine (mac_any key HK.out s (by omega) _).mono ?_
    rintro e w1 ⟨rfl, hb1⟩
    have HT1 := Lib.hid (HT0.out.below hb1)
    have hc1 := hc0.trans (hb1.mono hc0.size)
    clear hb1 hc0 HT0
    go_wp2_with fail
    refine (code_ok (macN key s) (macN_lt _ _) n h1 h2 _ HT1.out.2).mono ?_
    rintro e w2 ⟨rfl, hb2⟩
    have HT2 := Lib.hid (HT1.out.below hb2)
    have hc2 := hc1.trans (hb2.mono hc1.size)
    clear hb2 hc1 HT1
    go_wp2_with fail
    refine (verify_in key HK.out s (decS (macN key s) n) (by omega) (by rw [HZD.out]; exact h1) (by rw [HZD.out]; exact h2) _ HT2.out.2 HT2.out.pos HBT).mono ?_
    rintro e w3 ⟨rfl, hb3⟩
    have HT3 := Lib.hid (HT2.out.below hb3)
    have hc3 := hc2.trans (hb3.mono hc2.size)
    clear hb3 hc2 HT2
    go_wp2_with fail
    refine (verify_in key HK.out s o (by omega) (by omega) (by omega) _ HT3.out.2 HT3.out.pos HBO).mono ?_
    rintro e w4 ⟨rfl, hb4⟩
    have HT4 := Lib.hid (HT3.out.below hb4)
    have hc4 := hc3.trans (hb4.mono hc3.size)
    clear hb4 hc3 HT3
    go_wp2_with fail
    refine (text_any key HK.out _ HT4.out.1).mono ?_
    rintro e w5 ⟨rfl, hb5⟩
    have HT5 := Lib.hid (HT4.out.below hb5)
    have hc5 := hc4.trans (hb5.mono hc4.size)
    clear hb5 hc4 HT4
    go_wp2_with fail
    refine (number_any key HK.out _).mono ?_
    rintro e w6 ⟨rfl, hb6⟩
    have HT6 := Lib.hid (HT5.out.below hb6)
    have hc6 := hc5.trans (hb6.mono hc5.size)
    clear hb6 hc5 HT5
    go_wp2_with fail
    refine (awake_any _ HT6.out).mono ?_
    rintro e wz ⟨rfl, hbz⟩
    have hcz := hc6.trans (hbz.mono hc6.size)
    clear hbz hc6 HT6
    go_wp2
    go_ret
    exact ⟨rfl, hcz⟩
  · have hoe : ((o.size : Int) == (n : Int)) = false := by rw [beq_eq_false_iff_ne]; omega
    clear hon
    go_enter Tryd.func5, Tryd.ntmps5
    have hc0 : Below w.heap.size w w := Below.refl _ _
    have HT0 := HT
    go_wp2_with fail
    refine (mac_any key HK.out s (by omega) _).mono ?_
    rintro e w1 ⟨rfl, hb1⟩
    have HT1 := Lib.hid (HT0.out.below hb1)
    have hc1 := hc0.trans (hb1.mono hc0.size)
    clear hb1 hc0 HT0
    go_wp2_with fail
    refine (code_ok (macN key s) (macN_lt _ _) n h1 h2 _ HT1.out.2).mono ?_
    rintro e w2 ⟨rfl, hb2⟩
    have HT2 := Lib.hid (HT1.out.below hb2)
    have hc2 := hc1.trans (hb2.mono hc1.size)
    clear hb2 hc1 HT1
    go_wp2_with fail
    refine (verify_in key HK.out s (decS (macN key s) n) (by omega) (by rw [HZD.out]; exact h1) (by rw [HZD.out]; exact h2) _ HT2.out.2 HT2.out.pos HBT).mono ?_
    rintro e w3 ⟨rfl, hb3⟩
    have HT3 := Lib.hid (HT2.out.below hb3)
    have hc3 := hc2.trans (hb3.mono hc2.size)
    clear hb3 hc2 HT2
    go_wp2_with fail
    refine (text_any key HK.out _ HT3.out.1).mono ?_
    rintro e w4 ⟨rfl, hb4⟩
    have HT4 := Lib.hid (HT3.out.below hb4)
    have hc4 := hc3.trans (hb4.mono hc3.size)
    clear hb4 hc3 HT3
    go_wp2_with fail
    refine (number_any key HK.out _).mono ?_
    rintro e w5 ⟨rfl, hb5⟩
    have HT5 := Lib.hid (HT4.out.below hb5)
    have hc5 := hc4.trans (hb5.mono hc4.size)
    clear hb5 hc4 HT4
    go_wp2_with fail
    refine (awake_any _ HT5.out).mono ?_
    rintro e wz ⟨rfl, hbz⟩
    have hcz := hc5.trans (hbz.mono hc5.size)
    clear hbz hc5 HT5
    go_wp2
    go_ret
    exact ⟨rfl, hcz⟩

theorem own : ownKnob Tryd.prog.godebug = none := by kernel_rfl
theorem laidOut : laidOutB Tryd.prog = true := by kernel_rfl
theorem tab_of_cell {W : World} (h : W.cell? ⟨4, 15, none⟩ = some (.int .u8 4)) : Tab W := by
  refine ⟨?_, h⟩
  rcases Nat.lt_or_ge 4 W.heap.size with hl | hl
  · exact hl
  · simp [World.cell?, Array.getElem?_eq_none hl] at h
theorem gTab : Tryd.prog.globalNamed "math/bits.deBruijn64tab" = some 4 := by kernel_rfl
theorem gTabType : (Tryd.prog.globals[4]?).map (·.type) = some 77 := by kernel_rfl
theorem cellsTab : Tryd.prog.cellsOf 77 = 64 := by kernel_rfl
theorem cellsOne : Tryd.prog.cellsOf 5 = 1 := by kernel_rfl
theorem gPow : Tryd.prog.globalNamed "internal/strconv.uint64pow10" = some 0 := by kernel_rfl
theorem gPowType : (Tryd.prog.globals[0]?).map (·.type) = some 62 := by kernel_rfl
theorem cellsPow : Tryd.prog.cellsOf 62 = 20 := by kernel_rfl
theorem cellsU64 : Tryd.prog.cellsOf 22 = 1 := by kernel_rfl
theorem table {W : World} (h : laidMetH Tryd.prog Rows.keyedVerifiesRow.laid W) : Std W := by
  rw [MakeChecks.laidMetH_plain _ _ _ (by kernel_rfl)] at h
  have h1 := h
  have hc := (Lib.tabIs_of_head (k := .u8) (zs := [0, 1, 56, 2, 57, 49, 28, 3, 61, 58, 42, 50, 38, 29, 17, 4, 62, 47, 59, 36, 45, 43, 51, 22, 53, 39, 33, 30, 24, 18, 12, 5, 63, 55, 48, 27, 60, 41, 37, 16, 46, 35, 44, 21, 52, 32, 23, 11, 54, 26, 40, 15, 34, 20, 31, 10, 25, 14, 19, 9, 13, 8, 7, 6]) gTab gTabType Tryd.underlying77 Tryd.underlying5 cellsOne cellsTab h1.tail).cell gTab 15 (by decide)
  exact ⟨tab_of_cell hc, Lib.tabIs_of_head (k := .u64) (zs := Lib.pow10Tab) gPow gPowType Tryd.underlying62 Tryd.underlying22 cellsU64 cellsPow h1.tail.tail⟩

noncomputable def laidWorld (os : Os) : World := World.doorLaid Tryd.prog 400 os
theorem laid_met (os : Os) : laidMetH Tryd.prog Rows.keyedVerifiesRow.laid ((laidWorld os).forCall (fun _ _ => 0) ⟨#[], #[.int .u64 0, .string ByteArray.empty, .int .u8 0, .string ByteArray.empty], []⟩).memory :=
  laidMetH_of_parts3 (fuel := 8) (laidMet_of_run' 8 (by kernel_rfl) (by kernel_rfl)) (by kernel_rfl) (by kernel_rfl)
theorem reads (os : Os) {H : Type} (enc : TypeId × Value → H) : ∃ places, DataW.whole enc Tryd.prog ((laidWorld os).forCall (fun _ _ => 0) ⟨#[], #[.int .u64 0, .string ByteArray.empty, .int .u8 0, .string ByteArray.empty], []⟩).memory Tryd.f5.params.toList Rows.keyedVerifiesSpec.vars false (#[.int .u64 0, .string ByteArray.empty, .int .u8 0, .string ByteArray.empty] : Array Value).toList 8 = some ([.lit (.int .u64 0), .lit (.string []), .lit (.int .u8 0), .lit (.string [])], [], places) :=
  ⟨[], by kernel_rfl⟩
theorem contract (H : Type) (enc : TypeId × Value → H) (W : World) (base : Nat) (args : Array Value) (ds gs : List (DataW H)) (before : List MemPlace)
    (hval0 : ∀ (j : Nat) t v, Tryd.f5.params[j]? = some t → args[j]? = some v → Value.okWide Tryd.prog W .any base t v)
    (hW : DataW.Whole enc Tryd.prog Tryd.f5.params.toList Rows.keyedVerifiesSpec.vars false W args.toList ds gs before) (hL : laidMetH Tryd.prog Rows.keyedVerifiesRow.laid W) :
    Calls Tryd.prog 5 args W fun e W' => ∃ v, e = .returned v ∧ Rows.keyedVerifiesSpec.post enc Tryd.prog Tryd.f5 false true false false W args v W' := by
  have hval : ∀ (j : Nat) t v, Tryd.f5.params[j]? = some t → args[j]? = some v → Value.okWide Tryd.prog W .any base t v := hval0
  have hW' := hW
  obtain ⟨p, q, hA0, hV, rfl, hfz, hnd⟩ := hW
  have hA : DataW.TrodAll enc Tryd.prog W 0 (fun _ => true) true Tryd.f5.params.toList args.toList ds p := hA0
  rw [Tryd.params5] at hA hval
  obtain ⟨v0, vs0, d0, ds0, p0, q0, hargs, rfl, rfl, h0, r0⟩ := trodAll_cons hA
  obtain ⟨v1, vs1, d1, ds1, p1, q1, rfl, rfl, rfl, h1, r1⟩ := trodAll_cons r0
  obtain ⟨v2, vs2, d2, ds2, p2, q2, rfl, rfl, rfl, h2, r2⟩ := trodAll_cons r1
  obtain ⟨v3, vs3, d3, ds3, p3, q3, rfl, rfl, rfl, h3, r3⟩ := trodAll_cons r2
  obtain ⟨rfl, rfl, rfl⟩ := trodAll_nil r3
  obtain rfl : args = #[v0, v1, v2, v3] := by cases args; simp_all
  obtain ⟨rfl, rfl⟩ := trodVars_none hV
  have k0 := h0
  have lt0 : ∀ x ∈ p0, x.block < W.heap.size := by obtain ⟨m, hm⟩ := k0; exact DataW.trod_lt m _ _ _ hm
  obtain ⟨a0, rfl, -, -, w0⟩ := open_int Tryd.underlying22 (hval 0 22 v0 rfl rfl) h0
  have k1 := h1
  have lt1 : ∀ x ∈ p1, x.block < W.heap.size := by obtain ⟨m, hm⟩ := k1; exact DataW.trod_lt m _ _ _ hm
  obtain ⟨a1, rfl, -, -, w1⟩ := open_string Tryd.underlying9 (hval 1 9 v1 rfl rfl) h1
  have k2 := h2
  have lt2 : ∀ x ∈ p2, x.block < W.heap.size := by obtain ⟨m, hm⟩ := k2; exact DataW.trod_lt m _ _ _ hm
  obtain ⟨a2, rfl, -, -, w2⟩ := open_int Tryd.underlying5 (hval 2 5 v2 rfl rfl) h2
  have k3 := h3
  have lt3 : ∀ x ∈ p3, x.block < W.heap.size := by obtain ⟨m, hm⟩ := k3; exact DataW.trod_lt m _ _ _ hm
  obtain ⟨a3, rfl, -, -, w3⟩ := open_string Tryd.underlying9 (hval 3 9 v3 rfl rfl) h3
  clear hA0 hval0
  refine (walk a0 a1 a2 a3 W w0 w1 w2 w3 (table hL)).mono fun e W' ⟨he, bel⟩ => ?_
  subst he
  exact ⟨_, rfl, _, _, _, [], _, [], hW', trodAll_mk1 (shut_bool Tryd.underlying4 _), (trodAll_cons_mk (Below.trod laidOut (by kernel_rfl) (of_decide_eq_true (by kernel_rfl)) k0 bel lt0) (trodAll_cons_mk (Below.trod laidOut (by kernel_rfl) (of_decide_eq_true (by kernel_rfl)) k1 bel lt1) (trodAll_cons_mk (Below.trod laidOut (by kernel_rfl) (of_decide_eq_true (by kernel_rfl)) k2 bel lt2) (trodAll_cons_mk (Below.trod laidOut (by kernel_rfl) (of_decide_eq_true (by kernel_rfl)) k3 bel lt3) trodAll_mk0)))), rfl, bel.frame _, fun h => by cases h⟩

set_option maxRecDepth 100000 in
theorem lifted (os : Os) (started : os.Started) (H : Type) (enc : TypeId × Value → H) (F : Stop.Interp) :
    ReturnsInHanded {} Tryd.checked os 5 .any ((OpenSpec.ofChange Rows.keyedVerifiesSpec).preRow enc Tryd.prog Tryd.f5 Rows.keyedVerifiesRow.domain false Rows.keyedVerifiesRow.laid) (((OpenSpec.ofChange Rows.keyedVerifiesSpec).at F).post enc Tryd.prog Tryd.f5 false true false false) := by
  obtain ⟨places, hx⟩ := reads os enc
  refine returnsInHanded_of_row (C := Tryd.checked) (s := OpenSpec.ofChange Rows.keyedVerifiesSpec) own started (by kernel_rfl) Tryd.func5
    (witness_row_at (enc := enc) (C := Tryd.checked) false (laidWorld os) #[.int .u64 0, .string ByteArray.empty, .int .u8 0, .string ByteArray.empty] rfl (by kernel_rfl) (by kernel_rfl) (by kernel_rfl)
      (OpenSpec.preRow_of_cond 8 hx (by kernel_rfl) (fun k hk => by cases hk) (by kernel_rfl) (laid_met os))) ?_
  intro W base args ds gs before hval hW _ _ _ hL _ _
  exact contract H enc W base args ds gs before hval hW hL
theorem said : Rows.KeyedVerifiesSaid :=
  OpenClaim.holds_of_cond 5 Tryd.f5 rfl rfl rfl rfl rfl rfl rfl ⟨rfl, rfl, rfl, rfl, rfl⟩ rfl rfl rfl rfl rfl (by kernel_rfl) Tryd.func5 (by kernel_rfl)
    (of_decide_eq_true (by kernel_rfl)) (by unfold Func.isWrapper; first | (rw [if_pos (by decide +kernel)]; kernel_rfl) | (rw [if_neg (by decide +kernel)]; exact ⟨rfl, rfl⟩))
    (fun os started H enc _ F => by rw [OpenClaim.pre_eq_preRow]; exact lifted os started H enc F)
/-- No parameter wants a stand-in; the program's own looks are off. -/
theorem plain (f : FuncId) (fn : Func) (hf : Tryd.pinned.checked.prog.funcNamed "cardnet/cardnetlaw09.KeyedVerifies" = some f) (hfn : Tryd.pinned.checked.prog.funcs[f]? = some fn) :
    true = Tryd.pinned.checked.prog.looks [] ∧ ∀ (j : Nat) t, fn.params[j]? = some t → Tryd.pinned.checked.prog.wantsStandIn t = false := by
  obtain rfl : f = 5 := Option.some.inj ((show Tryd.prog.funcNamed "cardnet/cardnetlaw09.KeyedVerifies" = some 5 by kernel_rfl).symm.trans hf) |>.symm
  obtain rfl : fn = Tryd.f5 := (Option.some.inj (Tryd.func5.symm.trans hfn)).symm
  refine ⟨by kernel_rfl, fun j t ht => ?_⟩
  rw [Tryd.params5] at ht
  have hm : t ∈ [22, 9, 5, 9] := by simpa using Array.mem_of_getElem? ht
  have hall : ([22, 9, 5, 9].all fun u => !Tryd.prog.wantsStandIn u) = true := by kernel_rfl
  exact (show Tryd.prog.wantsStandIn t = false by simpa using List.all_eq_true.1 hall t hm)
/-- THE CARD: the statement. -/
theorem proved : Rows.KeyedVerifiesCardSaid :=
  Claim7.holds_tied_plain_at .later [] _ _ _ _ said (fun _ h => by cases h) (by kernel_rfl) (fun _ h => by cases h) keyedVerifies_row_tie rfl ⟨rfl, rfl⟩ (by kernel_rfl) rfl plain (by kernel_rfl)
#print axioms proved
end Go.Proofs.YtkobhepiacfehaaDoor.keyedVerifies
