/-
  PROVED: for every list of holidays, every date and numbers, the law CalendarFollows returns true: business days follow each other and add up, and the examples hold; the card ties the listed tables to the program's text. Conditions: none besides the form's own reach.
-/
import Derived.Test.YtaagifggeafgnaaDoorCards
import Derived.Test.YtaagifggeafgnaaDoorTie
import Derived.WalkKit
import Derived.ProofKit
import Derived.OpenShut
import Derived.ShutString
import Derived.ChangeOld
import Derived.Below
import Derived.Deep.DeepHandedRow
import Derived.Lib.LaidTab
import Derived.LaidMore
import Derived.Stop.LaidErr
import Derived.Stop.Joined
import Derived.LaidHandle
import Derived.ChangeSlices
import Derived.SliceStrings
import Derived.Test.YtaagifggeafgnaaDoorC19
import Derived.Test.YtaagifggeafgnaaDoorC13
namespace Go.Proofs.YtaagifggeafgnaaDoor.calendarFollows
open Go.ChangeShapes Go.WideShapes Go.ChangeAt Go.RowKit
open Go.ChangeMaps (open_string shut_string)
set_option linter.unusedVariables false
theorem i64_in {x : Int} (h : (Lit.int .i64 x).wf = true) : -9223372036854775808 ≤ x ∧ x ≤ 9223372036854775807 := by
  simp [Lit.wf, IntKind.min, IntKind.max, IntKind.signed, IntKind.bits] at h
  exact ⟨by omega, by omega⟩
theorem cellsInt : Tryd.prog.cellsOf 3 = 1 := by kernel_rfl
theorem bel_ref {w : World} : Below w.heap.size w w := Below.refl _ _
set_option maxRecDepth 20000 in
set_option maxHeartbeats 6400000 in
theorem walk (A : Option Addr) (k c : Nat) (zs : List Int) (date : Int) (n m : Int) (w : World) (hS : Ints w w.heap.size A k zs) (hk : k ≤ maxLen) (hc : k ≤ c) (wd : (Lit.int .i64 date).wf = true) (wn : (Lit.int .u8 n).wf = true) (wm : (Lit.int .u8 m).wf = true) (hT : (Pow w ∧ Mth w) ∧ 4 ≤ w.heap.size) :
    Calls Tryd.prog 8 #[.slice A k c, .int .i64 date, .int .u8 n, .int .u8 m] w fun e w' => e = .returned (.bool true) ∧ Below w.heap.size w w' := by
  obtain ⟨⟨hP, hM⟩, hw⟩ := hT
  have AW : Hid (∀ w', Below w.heap.size w w' → Calls Tryd.prog 19 #[] w' fun e w'' => e = .returned (.bool true) ∧ Below w.heap.size w w'') := Lib.hid fun w' hb => (awake_any w' (hM.later hb hw) (hP.later hb hw) (Nat.le_trans hw hb.size)).mono fun e w'' h => ⟨h.1, hb.trans (h.2.mono hb.size)⟩
  obtain ⟨d0, d1⟩ := i64_in wd
  obtain ⟨n, rfl⟩ : ∃ p : Nat, n = p := ⟨n.toNat, by simp [Lit.wf, IntKind.min, IntKind.max, IntKind.signed, IntKind.bits] at wn; omega⟩
  obtain ⟨m, rfl⟩ : ∃ p : Nat, m = p := ⟨m.toNat, by simp [Lit.wf, IntKind.min, IntKind.max, IntKind.signed, IntKind.bits] at wm; omega⟩
  have hn : n ≤ 255 := by simp [Lit.wf, IntKind.min, IntKind.max, IntKind.signed, IntKind.bits] at wn; omega
  have hm : m ≤ 255 := by simp [Lit.wf, IntKind.min, IntKind.max, IntKind.signed, IntKind.bits] at wm; omega
  clear wd wn wm
  have hlen := Ints.len hS
  by_cases hlong : ¬ k ≤ 400
  · have NW := Lib.hid (new_long A k c w hlong hk)
    unfold maxLen at hk
    clear hS hlen d0 d1
    go_enter Tryd.func8, Tryd.ntmps8
    go_wp2_with fail
    refine NW.out.mono ?_
    rintro x w' ⟨rfl, rfl⟩
    go_wp2_with fail
    refine (AW.out w bel_ref).mono ?_
    rintro x w1 ⟨rfl, hb1⟩
    go_wp2
    go_ret
    exact ⟨rfl, hb1⟩
  have hk4 : k ≤ 400 := by omega
  by_cases hall : ¬ ∀ j, j < k → ∀ z, zs[j]? = some z → isDt z = true
  · have NW := Lib.hid (new_bad A k c zs w hS hk4 hc hall)
    unfold maxLen at hk
    clear hS hlen d0 d1 hall
    go_enter Tryd.func8, Tryd.ntmps8
    go_wp2_with fail
    refine NW.out.mono ?_
    rintro x w1 ⟨rfl, hb1⟩
    go_wp2_with fail
    refine (AW.out w1 hb1).mono ?_
    rintro x w2 ⟨rfl, hb2⟩
    go_wp2
    go_ret
    exact ⟨rfl, hb2⟩
  have NW := Lib.hid (new_ok A k c zs w hS hk4 hc (Classical.byContradiction hall))
  clear hS hall hlong hk
  have hnk : ¬ (400 : Int) < (k : Int) := by omega
  by_cases hneg : date < 0
  · go_enter Tryd.func8, Tryd.ntmps8
    go_wp2_with fail
    refine NW.out.mono ?_
    rintro x w1 ⟨rfl, hC, hb1⟩
    go_wp2_with fail
    refine (AW.out w1 hb1).mono ?_
    rintro x w2 ⟨rfl, hb2⟩
    go_wp2
    go_ret
    exact ⟨rfl, hb2⟩
  by_cases hbig : 97999 < date
  · go_enter Tryd.func8, Tryd.ntmps8
    go_wp2_with fail
    refine NW.out.mono ?_
    rintro x w1 ⟨rfl, hC, hb1⟩
    go_wp2_with fail
    refine (AW.out w1 hb1).mono ?_
    rintro x w2 ⟨rfl, hb2⟩
    go_wp2
    go_ret
    exact ⟨rfl, hb2⟩
  obtain ⟨date, rfl⟩ := Int.eq_ofNat_of_zero_le (show 0 ≤ date by omega)
  have hdate : date ≤ 97999 := by omega
  -- the business days
  have hmany := many zs (by omega) (date + 1) (by omega)
  generalize hSdef : (fun z : Int => zs.contains z) = S at *
  clear hSdef
  obtain ⟨x, x0, hx⟩ := days_ex (fun j => biz S (j : Int)) date (n + 1) 1687 (by omega)
  have hnext := fun t ht => days_next x0 hx t ht
  obtain ⟨a1, a2, a3, a4⟩ := hx n (by omega)
  obtain ⟨b1, b2, b3, b4⟩ := hx (n + 1) (by omega)
  have hab := (hnext (n + 1) (by omega)).le
  have hA1 : ∀ (w : World) (c m N : Nat), CalAt w c m N S → Calls Tryd.prog 27 #[.pointer (some ⟨c, 0, none⟩), .int .i64 (date : Int), .int .i64 ((n : Int) + 1)] w fun e w' => e = .returned (.tuple #[.int .i64 (x (n + 1) : Int), .int .i64 0]) ∧ w = w' := fun w c m N hC => by
    have := add_ok hC x (n + 1) (by omega) (by omega) (by omega) (fun t ht => hnext t (by omega))
    rw [x0] at this
    exact this
  have hA2 : ∀ (w : World) (c m N : Nat), CalAt w c m N S → Calls Tryd.prog 27 #[.pointer (some ⟨c, 0, none⟩), .int .i64 (date : Int), .int .i64 ((n : Int) + 2)] w fun e w' => e = .returned (.tuple #[.int .i64 (x (n + 1 + 1) : Int), .int .i64 0]) ∧ w = w' := fun w c m N hC => by
    have := add_ok hC x (n + 1 + 1) (by omega) (by omega) (by omega) (fun t ht => hnext t (by omega))
    rw [x0] at this
    exact this
  have hN := hnext (n + 1) (by omega)
  have hcount : ct (fun j => biz S (j : Int)) (x (n + 1)) (x (n + 1 + 1) - x (n + 1)) = 1 := by
    have := ct_add (fun j => biz S (j : Int)) (date + 1) (x (n + 1) - (date + 1)) (x (n + 1 + 1) - x (n + 1))
    rw [show x (n + 1) - (date + 1) + (x (n + 1 + 1) - x (n + 1)) = x (n + 1 + 1) - (date + 1) by omega, show date + 1 + (x (n + 1) - (date + 1)) = x (n + 1) by omega] at this
    omega
  rw [← cntB_ct] at hcount a3
  generalize x (n + 1) = a at *
  generalize x (n + 1 + 1) = b at *
  have hlast : cntB S date (date + m - date) + cntB S (date + m) (a + 300 - (date + m)) = cntB S date (a + 300 - date) := by
    rw [cntB_ct, cntB_ct, cntB_ct]
    have := ct_add (fun j => biz S (j : Int)) date m (a + 300 - (date + m))
    rw [show m + (a + 300 - (date + m)) = a + 300 - date by omega] at this
    rw [Nat.add_sub_cancel_left]
    omega
  clear hx hnext x0 b3 hmany
  have A1 := Lib.hid hA1
  have A2 := Lib.hid hA2
  have NX : Hid (∀ (w : World) (c m N : Nat), CalAt w c m N S → Calls Tryd.prog 28 #[.pointer (some ⟨c, 0, none⟩), .int .i64 ((a : Int) + 1)] w fun e w' => e = .returned (.tuple #[.int .i64 (b : Int), .int .i64 0]) ∧ w = w') := Lib.hid fun w c m N hC => next_ok hC hN
  have BA : Hid (∀ (w : World) (c m N : Nat), CalAt w c m N S → Calls Tryd.prog 29 #[.pointer (some ⟨c, 0, none⟩), .int .i64 (a : Int)] w fun e w' => e = .returned (.bool true) ∧ w = w') := Lib.hid fun w c m N hC => by
    have := biz_any hC (a : Int) (WalkArith.wf_i64 (by omega))
    rw [a4] at this
    exact this
  have BB : Hid (∀ (w : World) (c m N : Nat), CalAt w c m N S → Calls Tryd.prog 29 #[.pointer (some ⟨c, 0, none⟩), .int .i64 (b : Int)] w fun e w' => e = .returned (.bool true) ∧ w = w') := Lib.hid fun w c m N hC => by
    have := biz_any hC (b : Int) (WalkArith.wf_i64 (by omega))
    rw [b4] at this
    exact this
  have C1 : Hid (∀ (w : World) (c m N : Nat), CalAt w c m N S → Calls Tryd.prog 30 #[.pointer (some ⟨c, 0, none⟩), .int .i64 ((date : Int) + 1), .int .i64 (a : Int)] w fun e w' => e = .returned (.int .i64 (n : Int)) ∧ w = w') := Lib.hid fun w c m N hC => by
    have := count_ok hC (a := date + 1) (b := a) (by omega) (by omega)
    rw [a3] at this
    exact this
  have C2 : Hid (∀ (w : World) (c m N : Nat), CalAt w c m N S → Calls Tryd.prog 30 #[.pointer (some ⟨c, 0, none⟩), .int .i64 (a : Int), .int .i64 (b : Int)] w fun e w' => e = .returned (.int .i64 1) ∧ w = w') := Lib.hid fun w c m N hC => by
    have := count_ok hC (a := a) (b := b) (by omega) (by omega)
    rw [hcount] at this
    exact this
  have C3 : Hid (∀ (w : World) (c k N : Nat), CalAt w c k N S → Calls Tryd.prog 30 #[.pointer (some ⟨c, 0, none⟩), .int .i64 (date : Int), .int .i64 ((date : Int) + (m : Int))] w fun e w' => e = .returned (.int .i64 (cntB S date (date + m - date) : Int)) ∧ w = w') := Lib.hid fun w c k N hC => count_ok hC (a := date) (b := date + m) (by omega) (by omega)
  have C4 : Hid (∀ (w : World) (c k N : Nat), CalAt w c k N S → Calls Tryd.prog 30 #[.pointer (some ⟨c, 0, none⟩), .int .i64 ((date : Int) + (m : Int)), .int .i64 ((a : Int) + 300)] w fun e w' => e = .returned (.int .i64 (cntB S (date + m) (a + 300 - (date + m)) : Int)) ∧ w = w') := Lib.hid fun w c k N hC => count_ok hC (a := date + m) (b := a + 300) (by omega) (by omega)
  have C5 : Hid (∀ (w : World) (c k N : Nat), CalAt w c k N S → Calls Tryd.prog 30 #[.pointer (some ⟨c, 0, none⟩), .int .i64 (date : Int), .int .i64 ((a : Int) + 300)] w fun e w' => e = .returned (.int .i64 (cntB S date (a + 300 - date) : Int)) ∧ w = w') := Lib.hid fun w c k N hC => count_ok hC (a := date) (b := a + 300) (by omega) (by omega)
  have l1 := cntB_le S date (date + m - date)
  have l2 := cntB_le S (date + m) (a + 300 - (date + m))
  generalize cntB S date (date + m - date) = p at *
  generalize cntB S (date + m) (a + 300 - (date + m)) = q at *
  generalize cntB S date (a + 300 - date) = r at *
  have hsum : (p : Int) + (q : Int) = (r : Int) := by omega
  have hp : (p : Int) ≤ 99999 := by omega
  have hq : (q : Int) ≤ 99999 := by omega
  have hp0 : 0 ≤ (p : Int) := by omega
  have hq0 : 0 ≤ (q : Int) := by omega
  have hN0 : 0 ≤ (n : Int) := by omega
  have hN1 : (n : Int) ≤ 255 := by omega
  have hM0 : 0 ≤ (m : Int) := by omega
  have hM1 : (m : Int) ≤ 255 := by omega
  have hD0 : 0 ≤ (date : Int) := by omega
  have hD1 : (date : Int) ≤ 97999 := by omega
  have ha0 : 0 ≤ (a : Int) := by omega
  have ha1 : (a : Int) ≤ 99687 := by omega
  have hda : ¬ (a : Int) ≤ (date : Int) := by omega
  have hnd0 : ¬ (date : Int) < 0 := by omega
  have hnd1 : ¬ (97999 : Int) < (date : Int) := by omega
  have hk0 : 0 ≤ (k : Int) := by omega
  clear hA1 hA2 hN hcount hlast a1 a2 a3 a4 b1 b2 b4 hab l1 l2 hn hm d0 d1 hneg hbig hdate hk4 hlen hc
  generalize (p : Int) = p at *
  generalize (q : Int) = q at *
  generalize (r : Int) = r at *
  generalize (n : Int) = n at *
  generalize (m : Int) = m at *
  generalize (date : Int) = date at *
  generalize (a : Int) = a at *
  generalize (b : Int) = b at *
  go_enter Tryd.func8, Tryd.ntmps8
  go_wp2_with fail
  refine NW.out.mono ?_
  rintro x w1 ⟨rfl, hC, hb1⟩
  have HC := Lib.hid hC
  clear hC NW
  go_wp2_with fail
  refine (A1.out _ _ _ _ HC.out).mono ?_
  rintro x w' ⟨rfl, rfl⟩
  go_wp2_with fail
  refine (A2.out _ _ _ _ HC.out).mono ?_
  rintro x w' ⟨rfl, rfl⟩
  go_wp2_with fail
  refine (NX.out _ _ _ _ HC.out).mono ?_
  rintro x w' ⟨rfl, rfl⟩
  go_wp2_with fail
  refine (BA.out _ _ _ _ HC.out).mono ?_
  rintro x w' ⟨rfl, rfl⟩
  go_wp2_with fail
  refine (BB.out _ _ _ _ HC.out).mono ?_
  rintro x w' ⟨rfl, rfl⟩
  go_wp2_with fail
  refine (C1.out _ _ _ _ HC.out).mono ?_
  rintro x w' ⟨rfl, rfl⟩
  go_wp2_with fail
  refine (C2.out _ _ _ _ HC.out).mono ?_
  rintro x w' ⟨rfl, rfl⟩
  go_wp2_with fail
  refine (C3.out _ _ _ _ HC.out).mono ?_
  rintro x w' ⟨rfl, rfl⟩
  go_wp2_with fail
  refine (C4.out _ _ _ _ HC.out).mono ?_
  rintro x w' ⟨rfl, rfl⟩
  go_wp2_with fail
  refine (C5.out _ _ _ _ HC.out).mono ?_
  rintro x w' ⟨rfl, rfl⟩
  go_wp2_with fail
  refine (AW.out _ hb1).mono ?_
  rintro x w2 ⟨rfl, hb2⟩
  go_wp2
  go_ret
  exact ⟨rfl, hb2⟩

theorem own : ownKnob Tryd.prog.godebug = none := by kernel_rfl
theorem laidOut : laidOutB Tryd.prog = true := by kernel_rfl
theorem gTab : Tryd.prog.globalNamed "math/bits.deBruijn64tab" = some 3 := by kernel_rfl
theorem gTabType : (Tryd.prog.globals[3]?).map (·.type) = some 68 := by kernel_rfl
theorem cellsTab : Tryd.prog.cellsOf 68 = 64 := by kernel_rfl
theorem cellsOne : Tryd.prog.cellsOf 5 = 1 := by kernel_rfl
theorem gPow : Tryd.prog.globalNamed "internal/strconv.uint64pow10" = some 1 := by kernel_rfl
theorem gPowType : (Tryd.prog.globals[1]?).map (·.type) = some 61 := by kernel_rfl
theorem cellsPow : Tryd.prog.cellsOf 61 = 20 := by kernel_rfl
theorem cellsU64 : Tryd.prog.cellsOf 54 = 1 := by kernel_rfl
theorem gMthType : (Tryd.prog.globals[0]?).map (·.type) = some 51 := by kernel_rfl
theorem cellsMth : Tryd.prog.cellsOf 51 = 12 := by kernel_rfl
theorem cellsI : Tryd.prog.cellsOf 3 = 1 := by kernel_rfl
theorem tables {W : World} (h : laidMetH Tryd.prog Rows.calendarFollowsRow.laid W) : Pow W ∧ Mth W := by
  rw [MakeChecks.laidMetH_plain _ _ _ (by kernel_rfl)] at h
  have h1 := h
  exact ⟨Lib.tabIs_of_head (k := .u64) (zs := Lib.pow10Tab) gPow gPowType Tryd.underlying61 Tryd.underlying54 cellsU64 cellsPow h1.tail.tail,
    Lib.tabIs_of_head (k := .i64) (zs := [31, 28, 31, 30, 31, 30, 31, 31, 30, 31, 30, 31]) gMth gMthType Tryd.underlying51 Tryd.underlying3 cellsI cellsMth h1.tail.tail.tail⟩
theorem table {W : World} (h : laidMetH Tryd.prog Rows.calendarFollowsRow.laid W) : (Pow W ∧ Mth W) ∧ 4 ≤ W.heap.size := by
  have hp := tables h
  refine ⟨hp, ?_⟩
  rw [MakeChecks.laidMetH_plain _ _ _ (by kernel_rfl)] at h
  have hc := (Lib.tabIs_of_head (k := .u8) (zs := [0, 1, 56, 2, 57, 49, 28, 3, 61, 58, 42, 50, 38, 29, 17, 4, 62, 47, 59, 36, 45, 43, 51, 22, 53, 39, 33, 30, 24, 18, 12, 5, 63, 55, 48, 27, 60, 41, 37, 16, 46, 35, 44, 21, 52, 32, 23, 11, 54, 26, 40, 15, 34, 20, 31, 10, 25, 14, 19, 9, 13, 8, 7, 6]) gTab gTabType Tryd.underlying68 Tryd.underlying5 cellsOne cellsTab h.tail).cell gTab 15 (by decide)
  rcases Nat.lt_or_ge 3 W.heap.size with hl | hl
  · omega
  · simp [World.cell?, Array.getElem?_eq_none hl] at hc

noncomputable def laidWorld (os : Os) : World := World.doorLaid Tryd.prog 400 os
theorem laid_met (os : Os) : laidMet Tryd.prog Rows.calendarFollowsRow.laid ((laidWorld os).forCall (fun _ _ => 0) ⟨#[], #[.slice none 0 0, .int .i64 0, .int .u8 0, .int .u8 0], []⟩).memory :=
  laidMet_of_run' 8 (by kernel_rfl) (by kernel_rfl)
theorem reads (os : Os) {H : Type} (enc : TypeId × Value → H) : ∃ places, DataW.whole enc Tryd.prog ((laidWorld os).forCall (fun _ _ => 0) ⟨#[], #[.slice none 0 0, .int .i64 0, .int .u8 0, .int .u8 0], []⟩).memory Tryd.f8.params.toList Rows.calendarFollowsSpec.vars false (#[.slice none 0 0, .int .i64 0, .int .u8 0, .int .u8 0] : Array Value).toList 8 = some ([.nil, .lit (.int .i64 0), .lit (.int .u8 0), .lit (.int .u8 0)], [], places) :=
  ⟨[], by kernel_rfl⟩
theorem contract (H : Type) (enc : TypeId × Value → H) (W : World) (base : Nat) (args : Array Value) (ds gs : List (DataW H)) (before : List MemPlace)
    (hval0 : ∀ (j : Nat) t v, Tryd.f8.params[j]? = some t → args[j]? = some v → Value.okWide Tryd.prog W .any base t v)
    (hW : DataW.Whole enc Tryd.prog Tryd.f8.params.toList Rows.calendarFollowsSpec.vars false W args.toList ds gs before) (hL : laidMetH Tryd.prog Rows.calendarFollowsRow.laid W) :
    Calls Tryd.prog 8 args W fun e W' => ∃ v, e = .returned v ∧ Rows.calendarFollowsSpec.post enc Tryd.prog Tryd.f8 false true false false W args v W' := by
  have hval : ∀ (j : Nat) t v, Tryd.f8.params[j]? = some t → args[j]? = some v → Value.okWide Tryd.prog W .any base t v := hval0
  have hW' := hW
  obtain ⟨p, q, hA0, hV, rfl, hfz, hnd⟩ := hW
  have hA : DataW.TrodAll enc Tryd.prog W 0 (fun _ => true) true Tryd.f8.params.toList args.toList ds p := hA0
  rw [Tryd.params8] at hA hval
  obtain ⟨v0, vs0, d0, ds0, p0, q0, hargs, rfl, rfl, h0, r0⟩ := trodAll_cons hA
  obtain ⟨v1, vs1, d1, ds1, p1, q1, rfl, rfl, rfl, h1, r1⟩ := trodAll_cons r0
  obtain ⟨v2, vs2, d2, ds2, p2, q2, rfl, rfl, rfl, h2, r2⟩ := trodAll_cons r1
  obtain ⟨v3, vs3, d3, ds3, p3, q3, rfl, rfl, rfl, h3, r3⟩ := trodAll_cons r2
  obtain ⟨rfl, rfl, rfl⟩ := trodAll_nil r3
  obtain rfl : args = #[v0, v1, v2, v3] := by cases args; simp_all
  obtain ⟨rfl, rfl⟩ := trodVars_none hV
  have k0 := h0
  have lt0 : ∀ x ∈ p0, x.block < W.heap.size := by obtain ⟨m, hm⟩ := k0; exact DataW.trod_lt m _ _ _ hm
  have aux0 : ∃ (A : Option Addr) (n c : Nat) (zs : List Int), v0 = .slice A n c ∧ n ≤ maxLen ∧ n ≤ c ∧ Ints W W.heap.size A n zs := by
    obtain ⟨m, hm⟩ := h0
    rcases open_ints Tryd.underlying39 Tryd.underlying3 cellsInt hm with ⟨hcs, hx⟩ | ⟨a, n, c, zs, hcs, _, hl, hm2, hz, hx, hcell, hws⟩
    · obtain ⟨A, n, c, rfl⟩ := okWide_slice Tryd.underlying39 (hval 0 39 v0 rfl rfl)
      simp [Value.cells] at hcs
      obtain ⟨rfl, rfl, rfl⟩ := hcs
      exact ⟨none, 0, 0, [], rfl, Nat.zero_le _, Nat.le_refl _, Reads.none_⟩
    · obtain ⟨A, n', c', rfl⟩ := okWide_slice Tryd.underlying39 (hval 0 39 v0 rfl rfl)
      simp [Value.cells] at hcs
      obtain ⟨rfl, rfl, rfl⟩ := hcs
      have hln : n' ≤ zs.length := by rw [hz]; split <;> omega
      refine ⟨some a, n', c', zs.take n', rfl, by omega, hl, ⟨by simp; omega, fun hn => ⟨a, rfl, ?_, fun j u hu => ?_⟩⟩⟩
      · have h0 := hcell 0 (by omega)
        rcases Nat.lt_or_ge a.block W.heap.size with hlt | hge
        · exact hlt
        · exfalso
          have : (a.add 0).block = a.block := block_of_add a 0
          simp [World.cell?, this, Array.getElem?_eq_none hge] at h0
      · rw [List.getElem?_map, List.getElem?_take] at hu
        split at hu
        · rename_i hj
          rw [hcell j (by omega), ← hu, List.getD_eq_getElem?_getD, List.getElem?_eq_getElem (by omega)]
          rfl
        · simp at hu
  obtain ⟨A0, n0, c0, s0, rfl, g0, gc0, S0⟩ := aux0
  have k1 := h1
  have lt1 : ∀ x ∈ p1, x.block < W.heap.size := by obtain ⟨m, hm⟩ := k1; exact DataW.trod_lt m _ _ _ hm
  obtain ⟨a1, rfl, -, -, w1⟩ := open_int Tryd.underlying3 (hval 1 3 v1 rfl rfl) h1
  have k2 := h2
  have lt2 : ∀ x ∈ p2, x.block < W.heap.size := by obtain ⟨m, hm⟩ := k2; exact DataW.trod_lt m _ _ _ hm
  obtain ⟨a2, rfl, -, -, w2⟩ := open_int Tryd.underlying5 (hval 2 5 v2 rfl rfl) h2
  have k3 := h3
  have lt3 : ∀ x ∈ p3, x.block < W.heap.size := by obtain ⟨m, hm⟩ := k3; exact DataW.trod_lt m _ _ _ hm
  obtain ⟨a3, rfl, -, -, w3⟩ := open_int Tryd.underlying5 (hval 3 5 v3 rfl rfl) h3
  clear hA0 hval0
  refine (walk A0 n0 c0 s0 a1 a2 a3 W S0 g0 gc0 w1 w2 w3 (table hL)).mono fun e W' ⟨he, bel⟩ => ?_
  subst he
  exact ⟨_, rfl, _, _, _, [], _, [], hW', trodAll_mk1 (shut_bool Tryd.underlying4 _), (trodAll_cons_mk (Below.trod laidOut (by kernel_rfl) (of_decide_eq_true (by kernel_rfl)) k0 bel lt0) (trodAll_cons_mk (Below.trod laidOut (by kernel_rfl) (of_decide_eq_true (by kernel_rfl)) k1 bel lt1) (trodAll_cons_mk (Below.trod laidOut (by kernel_rfl) (of_decide_eq_true (by kernel_rfl)) k2 bel lt2) (trodAll_cons_mk (Below.trod laidOut (by kernel_rfl) (of_decide_eq_true (by kernel_rfl)) k3 bel lt3) trodAll_mk0)))), rfl, bel.frame _, fun h => by cases h⟩

set_option maxRecDepth 100000 in
theorem lifted (os : Os) (started : os.Started) (H : Type) (enc : TypeId × Value → H) (F : Stop.Interp) :
    ReturnsInHanded {} Tryd.checked os 8 .any ((OpenSpec.ofChange Rows.calendarFollowsSpec).preRow enc Tryd.prog Tryd.f8 Rows.calendarFollowsRow.domain false Rows.calendarFollowsRow.laid) (((OpenSpec.ofChange Rows.calendarFollowsSpec).at F).post enc Tryd.prog Tryd.f8 false true false false) := by
  obtain ⟨places, hx⟩ := reads os enc
  refine returnsInHanded_of_row (C := Tryd.checked) (s := OpenSpec.ofChange Rows.calendarFollowsSpec) own started (by kernel_rfl) Tryd.func8
    (witness_row_at (enc := enc) (C := Tryd.checked) false (laidWorld os) #[.slice none 0 0, .int .i64 0, .int .u8 0, .int .u8 0] rfl (by kernel_rfl) (by kernel_rfl) (by kernel_rfl)
      (OpenSpec.preRow_of_cond 8 hx (by kernel_rfl) (fun k hk => by cases hk) (by kernel_rfl) (laid_met os))) ?_
  intro W base args ds gs before hval hW _ _ _ hL _ _
  exact contract H enc W base args ds gs before hval hW hL
theorem said : Rows.CalendarFollowsSaid :=
  OpenClaim.holds_of_cond 8 Tryd.f8 rfl rfl rfl rfl rfl rfl rfl ⟨rfl, rfl, rfl, rfl, rfl⟩ rfl rfl rfl rfl rfl (by kernel_rfl) Tryd.func8 (by kernel_rfl)
    (of_decide_eq_true (by kernel_rfl)) (by unfold Func.isWrapper; first | (rw [if_pos (by decide +kernel)]; kernel_rfl) | (rw [if_neg (by decide +kernel)]; exact ⟨rfl, rfl⟩))
    (fun os started H enc _ F => by rw [OpenClaim.pre_eq_preRow]; exact lifted os started H enc F)
/-- No parameter wants a stand-in; the program's own looks are off. -/
theorem plain (f : FuncId) (fn : Func) (hf : Tryd.pinned.checked.prog.funcNamed "cardnet/cardnetlaw03.CalendarFollows" = some f) (hfn : Tryd.pinned.checked.prog.funcs[f]? = some fn) :
    false = Tryd.pinned.checked.prog.looks [] ∧ ∀ (j : Nat) t, fn.params[j]? = some t → Tryd.pinned.checked.prog.wantsStandIn t = false := by
  obtain rfl : f = 8 := Option.some.inj ((show Tryd.prog.funcNamed "cardnet/cardnetlaw03.CalendarFollows" = some 8 by kernel_rfl).symm.trans hf) |>.symm
  obtain rfl : fn = Tryd.f8 := (Option.some.inj (Tryd.func8.symm.trans hfn)).symm
  refine ⟨by kernel_rfl, fun j t ht => ?_⟩
  rw [Tryd.params8] at ht
  have hm : t ∈ [39, 3, 5, 5] := by simpa using Array.mem_of_getElem? ht
  have hall : ([39, 3, 5, 5].all fun u => !Tryd.prog.wantsStandIn u) = true := by kernel_rfl
  exact (show Tryd.prog.wantsStandIn t = false by simpa using List.all_eq_true.1 hall t hm)
/-- THE CARD: the statement. -/
theorem proved : Rows.CalendarFollowsCardSaid :=
  Claim7.holds_tied_plain_at .later [] _ _ _ _ said (fun _ h => by cases h) (by kernel_rfl) (fun _ h => by cases h) calendarFollows_row_tie rfl ⟨rfl, rfl⟩ (by kernel_rfl) rfl plain (by kernel_rfl)
#print axioms proved
end Go.Proofs.YtaagifggeafgnaaDoor.calendarFollows
