/-
  PROVED: for every number, the law CalendarDates returns true: Of and Parse invert Split and Format, each date follows the one before it, and the examples hold; the card ties the listed tables to the program's text. Conditions: none besides the form's own reach.
-/
import Derived.Test.YtaagifggeafgnaaDoorCards
import Derived.Test.YtaagifggeafgnaaDoorTie
import Derived.WalkKit
import Derived.ProofKit
import Derived.OpenShut
import Derived.ShutString
import Derived.ChangeOld
import Derived.Below
import Derived.Deep.DeepHandedRow
import Derived.Lib.LaidTab
import Derived.LaidMore
import Derived.Stop.LaidErr
import Derived.Stop.Joined
import Derived.LaidHandle
import Derived.ChangeSlices
import Derived.SliceStrings
import Derived.Test.YtaagifggeafgnaaDoorC16
import Derived.Test.YtaagifggeafgnaaDoorC17
namespace Go.Proofs.YtaagifggeafgnaaDoor.calendarDates
open Go.ChangeShapes Go.WideShapes Go.ChangeAt Go.RowKit
open Go.ChangeMaps (open_string shut_string)
set_option linter.unusedVariables false
theorem i64_in {x : Int} (h : (Lit.int .i64 x).wf = true) : -9223372036854775808 ≤ x ∧ x ≤ 9223372036854775807 := by
  simp [Lit.wf, IntKind.min, IntKind.max, IntKind.signed, IntKind.bits] at h
  exact ⟨by omega, by omega⟩
theorem bel_ref {w : World} : Below w.heap.size w w := Below.refl _ _
set_option maxRecDepth 20000 in
set_option maxHeartbeats 3200000 in
theorem walk (n : Int) (w : World) (w0 : (Lit.int .i64 n).wf = true) (hT : (Pow w ∧ Mth w) ∧ 4 ≤ w.heap.size) :
    Calls Tryd.prog 4 #[.int .i64 n] w fun e w' => e = .returned (.bool true) ∧ Below w.heap.size w w' := by
  obtain ⟨⟨hP, hM⟩, hw⟩ := hT
  have AW : Hid (∀ w', Below w.heap.size w w' → Calls Tryd.prog 19 #[] w' fun e w'' => e = .returned (.bool true) ∧ Below w.heap.size w w'') := Lib.hid fun w' hb => (awake_any w' (hM.later hb hw) (hP.later hb hw) (Nat.le_trans hw hb.size)).mono fun e w'' h => ⟨h.1, hb.trans (h.2.mono hb.size)⟩
  cases hd0 : isDt n
  · have HD := Lib.hid hd0
    have hout : ¬ (0 ≤ n ∧ n ≤ 99999) := of_decide_eq_false hd0
    have he : (⟨#[]⟩ : ByteArray).size = 0 := rfl
    clear hd0
    by_cases hneg : n < 0
    · clear hout
      go_enter Tryd.func4, Tryd.ntmps4
      go_wp2_with fail
      refine (split_no HD.out w).mono ?_
      rintro x w' ⟨rfl, rfl⟩
      go_wp2_with fail
      refine (fmt_no HD.out w).mono ?_
      rintro x w' ⟨rfl, rfl⟩
      go_wp2_with fail
      refine (wday_no HD.out w).mono ?_
      rintro x w' ⟨rfl, rfl⟩
      go_wp2_with fail
      refine (AW.out w bel_ref).mono ?_
      rintro x w1 ⟨rfl, hb1⟩
      go_wp2
      go_ret
      exact ⟨rfl, hb1⟩
    · have hbig : 99999 < n := by omega
      clear hout
      go_enter Tryd.func4, Tryd.ntmps4
      go_wp2_with fail
      refine (split_no HD.out w).mono ?_
      rintro x w' ⟨rfl, rfl⟩
      go_wp2_with fail
      refine (fmt_no HD.out w).mono ?_
      rintro x w' ⟨rfl, rfl⟩
      go_wp2_with fail
      refine (wday_no HD.out w).mono ?_
      rintro x w' ⟨rfl, rfl⟩
      go_wp2_with fail
      refine (AW.out w bel_ref).mono ?_
      rintro x w1 ⟨rfl, hb1⟩
      go_wp2
      go_ret
      exact ⟨rfl, hb1⟩
  obtain ⟨n0, n1⟩ : 0 ≤ n ∧ n ≤ 99999 := of_decide_eq_true hd0
  obtain ⟨n, rfl⟩ := Int.eq_ofNat_of_zero_le n0
  have hn : n ≤ 99999 := by omega
  obtain ⟨y, m, d, hI, hy1⟩ := isD_ex n (by omega)
  clear hd0 w0
  have hy0 := hI.y0
  have hm0 := hI.m0
  have hm1 := hI.m1
  have hd0 := hI.d0
  have hd1 := hI.d1
  have hml := ml_bd y m
  have hnum := hI.num
  have S1 : Hid (Calls Tryd.prog 11 #[.int .i64 (n : Int)] w fun e w' => e = .returned (.tuple #[.int .i64 (y : Int), .int .i64 (m : Int), .int .i64 (d : Int)]) ∧ w = w') := Lib.hid (split_ok hI hn w hM)
  have O0 : ∀ w', Mth w' → Calls Tryd.prog 9 #[.int .i64 (y : Int), .int .i64 (m : Int), .int .i64 (d : Int)] w' fun e w'' => e = .returned (.tuple #[.int .i64 (n : Int), .int .i64 0]) ∧ w' = w'' := fun w' hM' => by
    have := of_ok y m d hy0 hy1 hm0 hm1 hd0 hd1 (by rw [hnum]; exact hn) w' hM'
    rw [hnum] at this
    exact this
  have O1 := Lib.hid (O0 w hM)
  have F1 : Hid (Calls Tryd.prog 17 #[.int .i64 (n : Int)] w fun e w' => e = .returned (.string (fmtS y m d)) ∧ Below w.heap.size w w') := Lib.hid (fmt_ok hI hn w hM hP hw)
  have P1 : Hid (∀ w', Below w.heap.size w w' → Calls Tryd.prog 20 #[.string (fmtS y m d)] w' fun e w'' => e = .returned (.tuple #[.int .i64 (n : Int), .int .i64 0]) ∧ Below w.heap.size w w'') := Lib.hid fun w' hb => by
    refine (parse_of (fmtS y m d) (fmt_isT y m d) (a := (n : Int)) (e := 0) w' (hM.later hb hw) (fun w2 hM2 => ?_)).mono fun e w'' h => ⟨h.1, hb.trans (h.2.mono hb.size)⟩
    rw [fmt_y y m d (by omega), fmt_m y m d (by omega), fmt_d y m d (by omega)]
    exact O0 w2 hM2
  have hfs := fmt_size y m d
  generalize fmtS y m d = B at *
  have W1 : Hid (∀ w', Calls Tryd.prog 15 #[.int .i64 (n : Int)] w' fun e w'' => e = .returned (.int .i64 (((n : Int) + 3) % 7)) ∧ w' = w'') := Lib.hid fun w' => wday_ok n hn w'
  by_cases hlast : n = 99999
  · have hN0 : 0 ≤ (n : Int) := by omega
    have hN1 : (n : Int) = 99999 := by omega
    have hne : ((n : Int) == 99999) = true := by rw [hN1]; rfl
    clear O0 hnum hlast hn hI
    generalize (n : Int) = N at *
    clear hN1
    have hle : N ≤ 99999 := n1
    go_enter Tryd.func4, Tryd.ntmps4
    go_wp2_with fail
    refine S1.out.mono ?_
    rintro x w' ⟨rfl, rfl⟩
    go_wp2_with fail
    refine O1.out.mono ?_
    rintro x w' ⟨rfl, rfl⟩
    go_wp2_with fail
    refine F1.out.mono ?_
    rintro x w1 ⟨rfl, hb1⟩
    go_wp2_with fail
    refine (P1.out _ hb1).mono ?_
    rintro x w2 ⟨rfl, hb2⟩
    go_wp2_with fail
    refine (AW.out _ hb2).mono ?_
    rintro x w3 ⟨rfl, hb3⟩
    go_wp2
    go_ret
    exact ⟨rfl, hb3⟩
  have hn2 : n + 1 ≤ 99999 := by omega
  obtain ⟨p, q, r, hI2, hp1⟩ := isD_ex (n + 1) (by omega)
  have hnx := isD_next hI hI2
  have S2 : Hid (∀ w', Below w.heap.size w w' → Calls Tryd.prog 11 #[.int .i64 ((n : Int) + 1)] w' fun e w'' => e = .returned (.tuple #[.int .i64 (p : Int), .int .i64 (q : Int), .int .i64 (r : Int)]) ∧ w' = w'') := Lib.hid fun w' hb => split_ok hI2 hn2 w' (hM.later hb hw)
  have W2 : Hid (∀ w', Calls Tryd.prog 15 #[.int .i64 ((n : Int) + 1)] w' fun e w'' => e = .returned (.int .i64 (((n : Int) + 1 + 3) % 7)) ∧ w' = w'') := Lib.hid fun w' => wday_ok (n + 1) hn2 w'
  have hwk : (((n : Int) + 3) % 7 + 1) % 7 = ((n : Int) + 1 + 3) % 7 := by omega
  have ha0 : 0 ≤ ((n : Int) + 3) % 7 ∧ ((n : Int) + 3) % 7 ≤ 6 := by omega
  generalize ((n : Int) + 1 + 3) % 7 = b at *
  generalize ((n : Int) + 3) % 7 = a at *
  obtain ⟨ha0, ha1⟩ := ha0
  have hN0 : 0 ≤ (n : Int) := by omega
  have hN1 : (n : Int) ≤ 99999 := by omega
  have hne : ((n : Int) == 99999) = false := by simp; omega
  have gy0 : (1970 : Int) ≤ (y : Int) := by omega
  have gy1 : (y : Int) ≤ 2243 := by omega
  have gm0 : (1 : Int) ≤ (m : Int) := by omega
  have gm1 : (m : Int) ≤ 12 := by omega
  have gd0 : (1 : Int) ≤ (d : Int) := by omega
  have gd1 : (d : Int) ≤ 31 := by omega
  have f1 : ((m : Int) == (m : Int) + 1) = false := by simp <;> omega
  have f2 : ((y : Int) == (y : Int) + 1) = false := by simp <;> omega
  have f3 : ((m : Int) + 1 == (m : Int)) = false := by simp <;> omega
  have f4 : ((y : Int) + 1 == (y : Int)) = false := by simp <;> omega
  clear O0 hnum hI hI2 hp1 hn2 hlast hn n0 n1 hml hd1
  rcases hnx with ⟨rfl, rfl, rfl⟩ | ⟨rfl, rfl, rfl, h28⟩ | ⟨rfl, rfl, rfl, rfl, rfl⟩
  · have S3 : Hid (∀ w', Below w.heap.size w w' → Calls Tryd.prog 11 #[.int .i64 ((n : Int) + 1)] w' fun e w'' => e = .returned (.tuple #[.int .i64 (p : Int), .int .i64 (q : Int), .int .i64 ((d : Int) + 1)]) ∧ w' = w'') := S2
    clear S2
    have S2 := S3
    clear S3
    generalize (n : Int) = N at *
    generalize (p : Int) = Y at *
    generalize (q : Int) = M at *
    generalize (d : Int) = D at *
    go_enter Tryd.func4, Tryd.ntmps4
    go_wp2_with fail
    refine S1.out.mono ?_
    rintro x w' ⟨rfl, rfl⟩
    go_wp2_with fail
    refine O1.out.mono ?_
    rintro x w' ⟨rfl, rfl⟩
    go_wp2_with fail
    refine F1.out.mono ?_
    rintro x w1 ⟨rfl, hb1⟩
    go_wp2_with fail
    refine (P1.out _ hb1).mono ?_
    rintro x w2 ⟨rfl, hb2⟩
    go_wp2_with fail
    refine (S2.out _ hb2).mono ?_
    rintro x w' ⟨rfl, rfl⟩
    go_wp2_with fail
    refine (W2.out _).mono ?_
    rintro x w' ⟨rfl, rfl⟩
    go_wp2_with fail
    refine (W1.out _).mono ?_
    rintro x w' ⟨rfl, rfl⟩
    go_wp2_with fail
    refine (AW.out _ hb2).mono ?_
    rintro x w3 ⟨rfl, hb3⟩
    go_wp2
    go_ret
    exact ⟨rfl, hb3⟩
  · have S3 : Hid (∀ w', Below w.heap.size w w' → Calls Tryd.prog 11 #[.int .i64 ((n : Int) + 1)] w' fun e w'' => e = .returned (.tuple #[.int .i64 (p : Int), .int .i64 ((m : Int) + 1), .int .i64 1]) ∧ w' = w'') := S2
    clear S2
    have S2 := S3
    clear S3
    have g28 : (28 : Int) ≤ (d : Int) := by omega
    generalize (n : Int) = N at *
    generalize (p : Int) = Y at *
    generalize (m : Int) = M at *
    generalize (d : Int) = D at *
    go_enter Tryd.func4, Tryd.ntmps4
    go_wp2_with fail
    refine S1.out.mono ?_
    rintro x w' ⟨rfl, rfl⟩
    go_wp2_with fail
    refine O1.out.mono ?_
    rintro x w' ⟨rfl, rfl⟩
    go_wp2_with fail
    refine F1.out.mono ?_
    rintro x w1 ⟨rfl, hb1⟩
    go_wp2_with fail
    refine (P1.out _ hb1).mono ?_
    rintro x w2 ⟨rfl, hb2⟩
    go_wp2_with fail
    refine (S2.out _ hb2).mono ?_
    rintro x w' ⟨rfl, rfl⟩
    go_wp2_with fail
    refine (W2.out _).mono ?_
    rintro x w' ⟨rfl, rfl⟩
    go_wp2_with fail
    refine (W1.out _).mono ?_
    rintro x w' ⟨rfl, rfl⟩
    go_wp2_with fail
    refine (AW.out _ hb2).mono ?_
    rintro x w3 ⟨rfl, hb3⟩
    go_wp2
    go_ret
    exact ⟨rfl, hb3⟩
  · have S3 : Hid (∀ w', Below w.heap.size w w' → Calls Tryd.prog 11 #[.int .i64 ((n : Int) + 1)] w' fun e w'' => e = .returned (.tuple #[.int .i64 ((y : Int) + 1), .int .i64 1, .int .i64 1]) ∧ w' = w'') := S2
    clear S2
    have S2 := S3
    clear S3
    generalize (n : Int) = N at *
    generalize (y : Int) = Y at *
    go_enter Tryd.func4, Tryd.ntmps4
    go_wp2_with fail
    refine S1.out.mono ?_
    rintro x w' ⟨rfl, rfl⟩
    go_wp2_with fail
    refine O1.out.mono ?_
    rintro x w' ⟨rfl, rfl⟩
    go_wp2_with fail
    refine F1.out.mono ?_
    rintro x w1 ⟨rfl, hb1⟩
    go_wp2_with fail
    refine (P1.out _ hb1).mono ?_
    rintro x w2 ⟨rfl, hb2⟩
    go_wp2_with fail
    refine (S2.out _ hb2).mono ?_
    rintro x w' ⟨rfl, rfl⟩
    go_wp2_with fail
    refine (W2.out _).mono ?_
    rintro x w' ⟨rfl, rfl⟩
    go_wp2_with fail
    refine (W1.out _).mono ?_
    rintro x w' ⟨rfl, rfl⟩
    go_wp2_with fail
    refine (AW.out _ hb2).mono ?_
    rintro x w3 ⟨rfl, hb3⟩
    go_wp2
    go_ret
    exact ⟨rfl, hb3⟩

theorem own : ownKnob Tryd.prog.godebug = none := by kernel_rfl
theorem laidOut : laidOutB Tryd.prog = true := by kernel_rfl
theorem gTab : Tryd.prog.globalNamed "math/bits.deBruijn64tab" = some 3 := by kernel_rfl
theorem gTabType : (Tryd.prog.globals[3]?).map (·.type) = some 68 := by kernel_rfl
theorem cellsTab : Tryd.prog.cellsOf 68 = 64 := by kernel_rfl
theorem cellsOne : Tryd.prog.cellsOf 5 = 1 := by kernel_rfl
theorem gPow : Tryd.prog.globalNamed "internal/strconv.uint64pow10" = some 1 := by kernel_rfl
theorem gPowType : (Tryd.prog.globals[1]?).map (·.type) = some 61 := by kernel_rfl
theorem cellsPow : Tryd.prog.cellsOf 61 = 20 := by kernel_rfl
theorem cellsU64 : Tryd.prog.cellsOf 54 = 1 := by kernel_rfl
theorem gMthType : (Tryd.prog.globals[0]?).map (·.type) = some 51 := by kernel_rfl
theorem cellsMth : Tryd.prog.cellsOf 51 = 12 := by kernel_rfl
theorem cellsI : Tryd.prog.cellsOf 3 = 1 := by kernel_rfl
theorem tables {W : World} (h : laidMetH Tryd.prog Rows.calendarDatesRow.laid W) : Pow W ∧ Mth W := by
  rw [MakeChecks.laidMetH_plain _ _ _ (by kernel_rfl)] at h
  have h1 := h
  exact ⟨Lib.tabIs_of_head (k := .u64) (zs := Lib.pow10Tab) gPow gPowType Tryd.underlying61 Tryd.underlying54 cellsU64 cellsPow h1.tail.tail,
    Lib.tabIs_of_head (k := .i64) (zs := [31, 28, 31, 30, 31, 30, 31, 31, 30, 31, 30, 31]) gMth gMthType Tryd.underlying51 Tryd.underlying3 cellsI cellsMth h1.tail.tail.tail⟩
theorem table {W : World} (h : laidMetH Tryd.prog Rows.calendarDatesRow.laid W) : (Pow W ∧ Mth W) ∧ 4 ≤ W.heap.size := by
  have hp := tables h
  refine ⟨hp, ?_⟩
  rw [MakeChecks.laidMetH_plain _ _ _ (by kernel_rfl)] at h
  have hc := (Lib.tabIs_of_head (k := .u8) (zs := [0, 1, 56, 2, 57, 49, 28, 3, 61, 58, 42, 50, 38, 29, 17, 4, 62, 47, 59, 36, 45, 43, 51, 22, 53, 39, 33, 30, 24, 18, 12, 5, 63, 55, 48, 27, 60, 41, 37, 16, 46, 35, 44, 21, 52, 32, 23, 11, 54, 26, 40, 15, 34, 20, 31, 10, 25, 14, 19, 9, 13, 8, 7, 6]) gTab gTabType Tryd.underlying68 Tryd.underlying5 cellsOne cellsTab h.tail).cell gTab 15 (by decide)
  rcases Nat.lt_or_ge 3 W.heap.size with hl | hl
  · omega
  · simp [World.cell?, Array.getElem?_eq_none hl] at hc

noncomputable def laidWorld (os : Os) : World := World.doorLaid Tryd.prog 400 os
theorem laid_met (os : Os) : laidMet Tryd.prog Rows.calendarDatesRow.laid ((laidWorld os).forCall (fun _ _ => 0) ⟨#[], #[.int .i64 0], []⟩).memory :=
  laidMet_of_run' 8 (by kernel_rfl) (by kernel_rfl)
theorem reads (os : Os) {H : Type} (enc : TypeId × Value → H) : ∃ places, DataW.whole enc Tryd.prog ((laidWorld os).forCall (fun _ _ => 0) ⟨#[], #[.int .i64 0], []⟩).memory Tryd.f4.params.toList Rows.calendarDatesSpec.vars false (#[.int .i64 0] : Array Value).toList 8 = some ([.lit (.int .i64 0)], [], places) :=
  ⟨[], by kernel_rfl⟩
theorem contract (H : Type) (enc : TypeId × Value → H) (W : World) (base : Nat) (args : Array Value) (ds gs : List (DataW H)) (before : List MemPlace)
    (hval0 : ∀ (j : Nat) t v, Tryd.f4.params[j]? = some t → args[j]? = some v → Value.okWide Tryd.prog W .any base t v)
    (hW : DataW.Whole enc Tryd.prog Tryd.f4.params.toList Rows.calendarDatesSpec.vars false W args.toList ds gs before) (hL : laidMetH Tryd.prog Rows.calendarDatesRow.laid W) :
    Calls Tryd.prog 4 args W fun e W' => ∃ v, e = .returned v ∧ Rows.calendarDatesSpec.post enc Tryd.prog Tryd.f4 false true false false W args v W' := by
  have hval : ∀ (j : Nat) t v, Tryd.f4.params[j]? = some t → args[j]? = some v → Value.okWide Tryd.prog W .any base t v := hval0
  have hW' := hW
  obtain ⟨p, q, hA0, hV, rfl, hfz, hnd⟩ := hW
  have hA : DataW.TrodAll enc Tryd.prog W 0 (fun _ => true) true Tryd.f4.params.toList args.toList ds p := hA0
  rw [Tryd.params4] at hA hval
  obtain ⟨v0, vs0, d0, ds0, p0, q0, hargs, rfl, rfl, h0, r0⟩ := trodAll_cons hA
  obtain ⟨rfl, rfl, rfl⟩ := trodAll_nil r0
  obtain rfl : args = #[v0] := by cases args; simp_all
  obtain ⟨rfl, rfl⟩ := trodVars_none hV
  have k0 := h0
  have lt0 : ∀ x ∈ p0, x.block < W.heap.size := by obtain ⟨m, hm⟩ := k0; exact DataW.trod_lt m _ _ _ hm
  obtain ⟨a0, rfl, -, -, w0⟩ := open_int Tryd.underlying3 (hval 0 3 v0 rfl rfl) h0
  clear hA0 hval0
  refine (walk a0 W w0 (table hL)).mono fun e W' ⟨he, bel⟩ => ?_
  subst he
  exact ⟨_, rfl, _, _, _, [], _, [], hW', trodAll_mk1 (shut_bool Tryd.underlying4 _), (trodAll_cons_mk (Below.trod laidOut (by kernel_rfl) (of_decide_eq_true (by kernel_rfl)) k0 bel lt0) trodAll_mk0), rfl, bel.frame _, fun h => by cases h⟩

set_option maxRecDepth 100000 in
theorem lifted (os : Os) (started : os.Started) (H : Type) (enc : TypeId × Value → H) (F : Stop.Interp) :
    ReturnsInHanded {} Tryd.checked os 4 .any ((OpenSpec.ofChange Rows.calendarDatesSpec).preRow enc Tryd.prog Tryd.f4 Rows.calendarDatesRow.domain false Rows.calendarDatesRow.laid) (((OpenSpec.ofChange Rows.calendarDatesSpec).at F).post enc Tryd.prog Tryd.f4 false true false false) := by
  obtain ⟨places, hx⟩ := reads os enc
  refine returnsInHanded_of_row (C := Tryd.checked) (s := OpenSpec.ofChange Rows.calendarDatesSpec) own started (by kernel_rfl) Tryd.func4
    (witness_row_at (enc := enc) (C := Tryd.checked) false (laidWorld os) #[.int .i64 0] rfl (by kernel_rfl) (by kernel_rfl) (by kernel_rfl)
      (OpenSpec.preRow_of_cond 8 hx (by kernel_rfl) (fun k hk => by cases hk) (by kernel_rfl) (laid_met os))) ?_
  intro W base args ds gs before hval hW _ _ _ hL _ _
  exact contract H enc W base args ds gs before hval hW hL
theorem said : Rows.CalendarDatesSaid :=
  OpenClaim.holds_of_cond 4 Tryd.f4 rfl rfl rfl rfl rfl rfl rfl ⟨rfl, rfl, rfl, rfl, rfl⟩ rfl rfl rfl rfl rfl (by kernel_rfl) Tryd.func4 (by kernel_rfl)
    (of_decide_eq_true (by kernel_rfl)) (by unfold Func.isWrapper; first | (rw [if_pos (by decide +kernel)]; kernel_rfl) | (rw [if_neg (by decide +kernel)]; exact ⟨rfl, rfl⟩))
    (fun os started H enc _ F => by rw [OpenClaim.pre_eq_preRow]; exact lifted os started H enc F)
/-- No parameter wants a stand-in; the program's own looks are off. -/
theorem plain (f : FuncId) (fn : Func) (hf : Tryd.pinned.checked.prog.funcNamed "cardnet/cardnetlaw03.CalendarDates" = some f) (hfn : Tryd.pinned.checked.prog.funcs[f]? = some fn) :
    false = Tryd.pinned.checked.prog.looks [] ∧ ∀ (j : Nat) t, fn.params[j]? = some t → Tryd.pinned.checked.prog.wantsStandIn t = false := by
  obtain rfl : f = 4 := Option.some.inj ((show Tryd.prog.funcNamed "cardnet/cardnetlaw03.CalendarDates" = some 4 by kernel_rfl).symm.trans hf) |>.symm
  obtain rfl : fn = Tryd.f4 := (Option.some.inj (Tryd.func4.symm.trans hfn)).symm
  refine ⟨by kernel_rfl, fun j t ht => ?_⟩
  rw [Tryd.params4] at ht
  have hm : t ∈ [3] := by simpa using Array.mem_of_getElem? ht
  have hall : ([3].all fun u => !Tryd.prog.wantsStandIn u) = true := by kernel_rfl
  exact (show Tryd.prog.wantsStandIn t = false by simpa using List.all_eq_true.1 hall t hm)
/-- THE CARD: the statement. -/
theorem proved : Rows.CalendarDatesCardSaid :=
  Claim7.holds_tied_plain_at .later [] _ _ _ _ said (fun _ h => by cases h) (by kernel_rfl) (fun _ h => by cases h) calendarDates_row_tie rfl ⟨rfl, rfl⟩ (by kernel_rfl) rfl plain (by kernel_rfl)
#print axioms proved
end Go.Proofs.YtaagifggeafgnaaDoor.calendarDates
