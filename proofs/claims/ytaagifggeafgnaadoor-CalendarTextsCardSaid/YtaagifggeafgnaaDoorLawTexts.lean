/-
  PROVED: for every string, the law CalendarTexts returns true: Parse returns the specified date or error and accepts only what Format returns, and the examples hold; the card ties the listed tables to the program's text. Conditions: none besides the form's own reach.
-/
import Derived.Test.YtaagifggeafgnaaDoorCards
import Derived.Test.YtaagifggeafgnaaDoorTie
import Derived.WalkKit
import Derived.ProofKit
import Derived.OpenShut
import Derived.ShutString
import Derived.ChangeOld
import Derived.Below
import Derived.Deep.DeepHandedRow
import Derived.Lib.LaidTab
import Derived.LaidMore
import Derived.Stop.LaidErr
import Derived.Stop.Joined
import Derived.LaidHandle
import Derived.ChangeSlices
import Derived.SliceStrings
import Derived.Test.YtaagifggeafgnaaDoorC16
import Derived.Test.YtaagifggeafgnaaDoorC17
namespace Go.Proofs.YtaagifggeafgnaaDoor.calendarTexts
open Go.ChangeShapes Go.WideShapes Go.ChangeAt Go.RowKit
open Go.ChangeMaps (open_string shut_string)
set_option linter.unusedVariables false
theorem i64_in {x : Int} (h : (Lit.int .i64 x).wf = true) : -9223372036854775808 ≤ x ∧ x ≤ 9223372036854775807 := by
  simp [Lit.wf, IntKind.min, IntKind.max, IntKind.signed, IntKind.bits] at h
  exact ⟨by omega, by omega⟩
theorem bel_ref {w : World} : Below w.heap.size w w := Below.refl _ _
def PF (s : ByteArray) (a e : Int) : Prop := ∀ w, Mth w → Calls Tryd.prog 20 #[.string s] w fun x w' => x = .returned (.tuple #[.int .i64 a, .int .i64 e]) ∧ Below w.heap.size w w'
def PR (s : ByteArray) (a e : Int) : Prop := ∀ w, Calls Tryd.prog 25 #[.string s] w fun x w' => x = .returned (.tuple #[.int .i64 a, .int .i64 e]) ∧ Below w.heap.size w w'
theorem quiet {f : FuncId} {args : Array Value} {w : World} {x : Ending} (h : Calls Tryd.prog f args w fun e w' => e = x ∧ w = w') : Calls Tryd.prog f args w fun e w' => e = x ∧ Below w.heap.size w w' := h.mono fun e w' ⟨h1, h2⟩ => ⟨h1, h2 ▸ Below.refl _ _⟩
theorem parse_tot (s : ByteArray) (hs : s.size ≤ 1000) : ∃ a e, PF s a e ∧ PR s a e ∧ ((e == 0) = false ∧ (e != 0) = true ∨ e = 0 ∧ ∀ w, Mth w → Pow w → 4 ≤ w.heap.size → Calls Tryd.prog 17 #[.int .i64 a] w fun x w' => x = .returned (.string s) ∧ Below w.heap.size w w') := by
  rcases Nat.lt_trichotomy s.size 10 with h | h | h
  · exact ⟨0, 1, fun w hM => quiet (parse_short s h w), fun w => quiet (rparse_short s h w), .inl ⟨rfl, rfl⟩⟩
  · by_cases hT : IsT s
    · have D := fun k a b c => hT.dg k ⟨a, b, c⟩
      by_cases ho : okD (pY s) (pM s) (pD s)
      · have ho2 := ho
        obtain ⟨g0, g1, g2, g3, g4, g5⟩ := ho2
        obtain ⟨y, hy⟩ := Int.eq_ofNat_of_zero_le (show 0 ≤ pY s by omega)
        obtain ⟨m, hm⟩ := Int.eq_ofNat_of_zero_le (show 0 ≤ pM s by omega)
        obtain ⟨d, hd⟩ := Int.eq_ofNat_of_zero_le (show 0 ≤ pD s by omega)
        rw [hy, hm, hd, Int.toNat_natCast, Int.toNat_natCast] at g5
        rw [hy] at g0 g1
        rw [hm] at g2 g3
        rw [hd] at g4
        by_cases hb : dnum y m d ≤ 99999
        · refine ⟨(dnum y m d : Int), 0, fun w hM => parse_of s hT w hM fun w' hM' => ?_, fun w => rparse_of s hT w fun w' => ?_, .inr ⟨rfl, fun w hM hP hw => ?_⟩⟩
          · rw [hy, hm, hd]; exact of_ok y m d (by omega) (by omega) (by omega) (by omega) (by omega) (by omega) hb w' hM'
          · rw [hy, hm, hd]; exact rof_ok y m d (by omega) (by omega) (by omega) (by omega) (by omega) (by omega) hb w'
          · have hI := isD_dnum (y := y) (m := m) (d := d) (by omega) (by omega) (by omega) (by omega) (by omega)
            have := fmt_ok hI hb w hM hP hw
            rw [fmt_back hT hy.symm hm.symm hd.symm] at this
            exact this
        · refine ⟨0, 4, fun w hM => parse_of s hT w hM fun w' hM' => ?_, fun w => rparse_of s hT w fun w' => ?_, .inl ⟨rfl, rfl⟩⟩
          · rw [hy, hm, hd]; exact of_big y m d (by omega) (by omega) (by omega) (by omega) (by omega) (by omega) hb w' hM'
          · rw [hy, hm, hd]; exact rof_big y m d (by omega) (by omega) (by omega) (by omega) (by omega) (by omega) hb w'
      · exact ⟨0, 4, fun w hM => parse_of s hT w hM fun w' hM' => of_bad _ _ _ ho w' hM', fun w => rparse_of s hT w fun w' => rof_bad _ _ _ ho w', .inl ⟨rfl, rfl⟩⟩
    · exact ⟨0, 2, fun w hM => parse_bad s h hT w, fun w => rparse_bad s h hT w, .inl ⟨rfl, rfl⟩⟩
  · exact ⟨0, 3, fun w hM => quiet (parse_long s h hs w), fun w => quiet (rparse_long s h hs w), .inl ⟨rfl, rfl⟩⟩
set_option maxRecDepth 20000 in
set_option maxHeartbeats 3200000 in
theorem walk (s : ByteArray) (w : World) (hsz : s.size ≤ maxLen) (hT : (Pow w ∧ Mth w) ∧ 4 ≤ w.heap.size) :
    Calls Tryd.prog 7 #[.string s] w fun e w' => e = .returned (.bool true) ∧ Below w.heap.size w w' := by
  obtain ⟨⟨hP, hM⟩, hw⟩ := hT
  unfold maxLen at hsz
  have AW : Hid (∀ w', Below w.heap.size w w' → Calls Tryd.prog 19 #[] w' fun e w'' => e = .returned (.bool true) ∧ Below w.heap.size w w'') := Lib.hid fun w' hb => (awake_any w' (hM.later hb hw) (hP.later hb hw) (Nat.le_trans hw hb.size)).mono fun e w'' h => ⟨h.1, hb.trans (h.2.mono hb.size)⟩
  by_cases hl : 100 < s.size
  · go_enter Tryd.func7, Tryd.ntmps7
    go_wp2_with fail
    refine (AW.out w bel_ref).mono ?_
    rintro x w1 ⟨rfl, hb1⟩
    go_wp2
    go_ret
    exact ⟨rfl, hb1⟩
  obtain ⟨a, e, P1, P2, hF⟩ := parse_tot s (by omega)
  have P1' := Lib.hid (fun w' (hb : Below w.heap.size w w') => (P1 w' (hM.later hb hw)).mono fun x w'' h => (⟨h.1, hb.trans (h.2.mono hb.size)⟩ : _ ∧ Below w.heap.size w w''))
  have P2' := Lib.hid (fun w' (hb : Below w.heap.size w w') => (P2 w').mono fun x w'' h => (⟨h.1, hb.trans (h.2.mono hb.size)⟩ : _ ∧ Below w.heap.size w w''))
  have hl2 : s.size ≤ 100 := by omega
  clear P1 P2 hl hsz
  rcases hF with ⟨he, hne⟩ | ⟨rfl, hF⟩
  · go_enter Tryd.func7, Tryd.ntmps7
    go_wp2_with fail
    refine (P1'.out w bel_ref).mono ?_
    rintro x w1 ⟨rfl, hb1⟩
    go_wp2_with fail
    refine (P2'.out w1 hb1).mono ?_
    rintro x w2 ⟨rfl, hb2⟩
    go_wp2_with fail
    refine (AW.out w2 hb2).mono ?_
    rintro x w3 ⟨rfl, hb3⟩
    go_wp2
    go_ret
    exact ⟨rfl, hb3⟩
  · have F1 := Lib.hid (fun w' (hb : Below w.heap.size w w') => (hF w' (hM.later hb hw) (hP.later hb hw) (Nat.le_trans hw hb.size)).mono fun x w'' h => (⟨h.1, hb.trans (h.2.mono hb.size)⟩ : _ ∧ Below w.heap.size w w''))
    clear hF
    go_enter Tryd.func7, Tryd.ntmps7
    go_wp2_with fail
    refine (P1'.out w bel_ref).mono ?_
    rintro x w1 ⟨rfl, hb1⟩
    go_wp2_with fail
    refine (P2'.out w1 hb1).mono ?_
    rintro x w2 ⟨rfl, hb2⟩
    go_wp2_with fail
    refine (F1.out w2 hb2).mono ?_
    rintro x w3 ⟨rfl, hb3⟩
    go_wp2_with fail
    refine (AW.out w3 hb3).mono ?_
    rintro x w4 ⟨rfl, hb4⟩
    go_wp2
    go_ret
    exact ⟨rfl, hb4⟩

theorem own : ownKnob Tryd.prog.godebug = none := by kernel_rfl
theorem laidOut : laidOutB Tryd.prog = true := by kernel_rfl
theorem gTab : Tryd.prog.globalNamed "math/bits.deBruijn64tab" = some 3 := by kernel_rfl
theorem gTabType : (Tryd.prog.globals[3]?).map (·.type) = some 68 := by kernel_rfl
theorem cellsTab : Tryd.prog.cellsOf 68 = 64 := by kernel_rfl
theorem cellsOne : Tryd.prog.cellsOf 5 = 1 := by kernel_rfl
theorem gPow : Tryd.prog.globalNamed "internal/strconv.uint64pow10" = some 1 := by kernel_rfl
theorem gPowType : (Tryd.prog.globals[1]?).map (·.type) = some 61 := by kernel_rfl
theorem cellsPow : Tryd.prog.cellsOf 61 = 20 := by kernel_rfl
theorem cellsU64 : Tryd.prog.cellsOf 54 = 1 := by kernel_rfl
theorem gMthType : (Tryd.prog.globals[0]?).map (·.type) = some 51 := by kernel_rfl
theorem cellsMth : Tryd.prog.cellsOf 51 = 12 := by kernel_rfl
theorem cellsI : Tryd.prog.cellsOf 3 = 1 := by kernel_rfl
theorem tables {W : World} (h : laidMetH Tryd.prog Rows.calendarTextsRow.laid W) : Pow W ∧ Mth W := by
  rw [MakeChecks.laidMetH_plain _ _ _ (by kernel_rfl)] at h
  have h1 := h
  exact ⟨Lib.tabIs_of_head (k := .u64) (zs := Lib.pow10Tab) gPow gPowType Tryd.underlying61 Tryd.underlying54 cellsU64 cellsPow h1.tail.tail,
    Lib.tabIs_of_head (k := .i64) (zs := [31, 28, 31, 30, 31, 30, 31, 31, 30, 31, 30, 31]) gMth gMthType Tryd.underlying51 Tryd.underlying3 cellsI cellsMth h1.tail.tail.tail⟩
theorem table {W : World} (h : laidMetH Tryd.prog Rows.calendarTextsRow.laid W) : (Pow W ∧ Mth W) ∧ 4 ≤ W.heap.size := by
  have hp := tables h
  refine ⟨hp, ?_⟩
  rw [MakeChecks.laidMetH_plain _ _ _ (by kernel_rfl)] at h
  have hc := (Lib.tabIs_of_head (k := .u8) (zs := [0, 1, 56, 2, 57, 49, 28, 3, 61, 58, 42, 50, 38, 29, 17, 4, 62, 47, 59, 36, 45, 43, 51, 22, 53, 39, 33, 30, 24, 18, 12, 5, 63, 55, 48, 27, 60, 41, 37, 16, 46, 35, 44, 21, 52, 32, 23, 11, 54, 26, 40, 15, 34, 20, 31, 10, 25, 14, 19, 9, 13, 8, 7, 6]) gTab gTabType Tryd.underlying68 Tryd.underlying5 cellsOne cellsTab h.tail).cell gTab 15 (by decide)
  rcases Nat.lt_or_ge 3 W.heap.size with hl | hl
  · omega
  · simp [World.cell?, Array.getElem?_eq_none hl] at hc

noncomputable def laidWorld (os : Os) : World := World.doorLaid Tryd.prog 400 os
theorem laid_met (os : Os) : laidMet Tryd.prog Rows.calendarTextsRow.laid ((laidWorld os).forCall (fun _ _ => 0) ⟨#[], #[.string ByteArray.empty], []⟩).memory :=
  laidMet_of_run' 8 (by kernel_rfl) (by kernel_rfl)
theorem reads (os : Os) {H : Type} (enc : TypeId × Value → H) : ∃ places, DataW.whole enc Tryd.prog ((laidWorld os).forCall (fun _ _ => 0) ⟨#[], #[.string ByteArray.empty], []⟩).memory Tryd.f7.params.toList Rows.calendarTextsSpec.vars false (#[.string ByteArray.empty] : Array Value).toList 8 = some ([.lit (.string [])], [], places) :=
  ⟨[], by kernel_rfl⟩
theorem contract (H : Type) (enc : TypeId × Value → H) (W : World) (base : Nat) (args : Array Value) (ds gs : List (DataW H)) (before : List MemPlace)
    (hval0 : ∀ (j : Nat) t v, Tryd.f7.params[j]? = some t → args[j]? = some v → Value.okWide Tryd.prog W .any base t v)
    (hW : DataW.Whole enc Tryd.prog Tryd.f7.params.toList Rows.calendarTextsSpec.vars false W args.toList ds gs before) (hL : laidMetH Tryd.prog Rows.calendarTextsRow.laid W) :
    Calls Tryd.prog 7 args W fun e W' => ∃ v, e = .returned v ∧ Rows.calendarTextsSpec.post enc Tryd.prog Tryd.f7 false true false false W args v W' := by
  have hval : ∀ (j : Nat) t v, Tryd.f7.params[j]? = some t → args[j]? = some v → Value.okWide Tryd.prog W .any base t v := hval0
  have hW' := hW
  obtain ⟨p, q, hA0, hV, rfl, hfz, hnd⟩ := hW
  have hA : DataW.TrodAll enc Tryd.prog W 0 (fun _ => true) true Tryd.f7.params.toList args.toList ds p := hA0
  rw [Tryd.params7] at hA hval
  obtain ⟨v0, vs0, d0, ds0, p0, q0, hargs, rfl, rfl, h0, r0⟩ := trodAll_cons hA
  obtain ⟨rfl, rfl, rfl⟩ := trodAll_nil r0
  obtain rfl : args = #[v0] := by cases args; simp_all
  obtain ⟨rfl, rfl⟩ := trodVars_none hV
  have k0 := h0
  have lt0 : ∀ x ∈ p0, x.block < W.heap.size := by obtain ⟨m, hm⟩ := k0; exact DataW.trod_lt m _ _ _ hm
  obtain ⟨a0, rfl, -, -, w0⟩ := open_string Tryd.underlying9 (hval 0 9 v0 rfl rfl) h0
  clear hA0 hval0
  refine (walk a0 W w0 (table hL)).mono fun e W' ⟨he, bel⟩ => ?_
  subst he
  exact ⟨_, rfl, _, _, _, [], _, [], hW', trodAll_mk1 (shut_bool Tryd.underlying4 _), (trodAll_cons_mk (Below.trod laidOut (by kernel_rfl) (of_decide_eq_true (by kernel_rfl)) k0 bel lt0) trodAll_mk0), rfl, bel.frame _, fun h => by cases h⟩

set_option maxRecDepth 100000 in
theorem lifted (os : Os) (started : os.Started) (H : Type) (enc : TypeId × Value → H) (F : Stop.Interp) :
    ReturnsInHanded {} Tryd.checked os 7 .any ((OpenSpec.ofChange Rows.calendarTextsSpec).preRow enc Tryd.prog Tryd.f7 Rows.calendarTextsRow.domain false Rows.calendarTextsRow.laid) (((OpenSpec.ofChange Rows.calendarTextsSpec).at F).post enc Tryd.prog Tryd.f7 false true false false) := by
  obtain ⟨places, hx⟩ := reads os enc
  refine returnsInHanded_of_row (C := Tryd.checked) (s := OpenSpec.ofChange Rows.calendarTextsSpec) own started (by kernel_rfl) Tryd.func7
    (witness_row_at (enc := enc) (C := Tryd.checked) false (laidWorld os) #[.string ByteArray.empty] rfl (by kernel_rfl) (by kernel_rfl) (by kernel_rfl)
      (OpenSpec.preRow_of_cond 8 hx (by kernel_rfl) (fun k hk => by cases hk) (by kernel_rfl) (laid_met os))) ?_
  intro W base args ds gs before hval hW _ _ _ hL _ _
  exact contract H enc W base args ds gs before hval hW hL
theorem said : Rows.CalendarTextsSaid :=
  OpenClaim.holds_of_cond 7 Tryd.f7 rfl rfl rfl rfl rfl rfl rfl ⟨rfl, rfl, rfl, rfl, rfl⟩ rfl rfl rfl rfl rfl (by kernel_rfl) Tryd.func7 (by kernel_rfl)
    (of_decide_eq_true (by kernel_rfl)) (by unfold Func.isWrapper; first | (rw [if_pos (by decide +kernel)]; kernel_rfl) | (rw [if_neg (by decide +kernel)]; exact ⟨rfl, rfl⟩))
    (fun os started H enc _ F => by rw [OpenClaim.pre_eq_preRow]; exact lifted os started H enc F)
/-- No parameter wants a stand-in; the program's own looks are off. -/
theorem plain (f : FuncId) (fn : Func) (hf : Tryd.pinned.checked.prog.funcNamed "cardnet/cardnetlaw03.CalendarTexts" = some f) (hfn : Tryd.pinned.checked.prog.funcs[f]? = some fn) :
    false = Tryd.pinned.checked.prog.looks [] ∧ ∀ (j : Nat) t, fn.params[j]? = some t → Tryd.pinned.checked.prog.wantsStandIn t = false := by
  obtain rfl : f = 7 := Option.some.inj ((show Tryd.prog.funcNamed "cardnet/cardnetlaw03.CalendarTexts" = some 7 by kernel_rfl).symm.trans hf) |>.symm
  obtain rfl : fn = Tryd.f7 := (Option.some.inj (Tryd.func7.symm.trans hfn)).symm
  refine ⟨by kernel_rfl, fun j t ht => ?_⟩
  rw [Tryd.params7] at ht
  have hm : t ∈ [9] := by simpa using Array.mem_of_getElem? ht
  have hall : ([9].all fun u => !Tryd.prog.wantsStandIn u) = true := by kernel_rfl
  exact (show Tryd.prog.wantsStandIn t = false by simpa using List.all_eq_true.1 hall t hm)
/-- THE CARD: the statement. -/
theorem proved : Rows.CalendarTextsCardSaid :=
  Claim7.holds_tied_plain_at .later [] _ _ _ _ said (fun _ h => by cases h) (by kernel_rfl) (fun _ h => by cases h) calendarTexts_row_tie rfl ⟨rfl, rfl⟩ (by kernel_rfl) rfl plain (by kernel_rfl)
#print axioms proved
end Go.Proofs.YtaagifggeafgnaaDoor.calendarTexts
