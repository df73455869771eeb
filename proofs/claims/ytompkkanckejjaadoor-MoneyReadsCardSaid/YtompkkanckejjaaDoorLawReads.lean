/-
  PROVED: for every amount and every text of at most 100 bytes, the law MoneyReads returns true: an amount is parsed back from its text, a text that is accepted is that of its amount, and the examples hold; the card ties the listed tables to the program's text. Conditions: none besides the form's own reach.
-/
import Derived.Test.YtompkkanckejjaaDoorCards
import Derived.Test.YtompkkanckejjaaDoorTie
import Derived.WalkKit
import Derived.ProofKit
import Derived.OpenShut
import Derived.ShutString
import Derived.ChangeOld
import Derived.Below
import Derived.Deep.DeepHandedRow
import Derived.Lib.LaidTab
import Derived.LaidMore
import Derived.Stop.LaidErr
import Derived.Stop.Joined
import Derived.LaidHandle
import Derived.ChangeSlices
import Derived.SliceStrings
import Derived.Deep.RegionHeld3
import Derived.Test.YtompkkanckejjaaDoorROpen
import Derived.Test.YtompkkanckejjaaDoorM13
import Derived.Test.YtompkkanckejjaaDoorMF3
namespace Go.Proofs.YtompkkanckejjaaDoor.moneyReads
open Go.ChangeShapes Go.WideShapes Go.ChangeAt Go.RowKit
open Go.ChangeMaps (open_string shut_string)
set_option linter.unusedVariables false
theorem i64_in {x : Int} (h : (Lit.int .i64 x).wf = true) : -9223372036854775808 ≤ x ∧ x ≤ 9223372036854775807 := by
  simp [Lit.wf, IntKind.min, IntKind.max, IntKind.signed, IntKind.bits] at h
  exact ⟨by omega, by omega⟩
set_option maxRecDepth 20000 in
set_option maxHeartbeats 12800000 in
theorem walk (m : Int) (c : ByteArray) (s : ByteArray) (w : World) (wm : (Lit.int .i64 m).wf = true) (hc : c.size ≤ maxLen) (hs : s.size ≤ maxLen) (hT : ExpT w ∧ Pow w ∧ 6 ≤ w.heap.size) :
    Calls Tryd.prog 8 #[.agg #[.int .i64 m, .string c], .string s] w fun x w' => x = .returned (.bool true) ∧ Below w.heap.size w w' := by
  obtain ⟨hE, hP, hw⟩ := hT
  have AW : Hid (∀ w', Below w.heap.size w w' → Calls Tryd.prog 18 #[] w' fun e w'' => e = .returned (.bool true) ∧ Below w.heap.size w w'') := Lib.hid fun w' hb => (awake_any w' (hE.later hb hw) (hP.later hb hw) (Nat.le_trans hw hb.size)).mono fun e w'' h => ⟨h.1, hb.trans (h.2.mono hb.size)⟩
  have HE := Lib.hid hE
  have HP := Lib.hid hP
  have HW := Lib.hid hw
  clear hE hP hw
  unfold maxLen at hs
  by_cases h1 : 100 < s.size
  · have g1 : (100 : Int) < (s.size : Int) := by omega
    clear hc wm h1
    go_enter Tryd.func8, Tryd.ntmps8
    go_wp2_with fail
    refine (AW.out _ (bel_alloc (Below.refl _ _) _)).mono ?_
    rintro x w3 ⟨rfl, hb3⟩
    go_wp2
    go_ret
    exact ⟨rfl, hb3⟩
  have g1 : ¬ (100 : Int) < (s.size : Int) := by omega
  obtain ⟨y, u, e, P20, hR⟩ := parse_any s (by omega)
  have P2 : Hid (∀ w', Below w.heap.size w w' → Calls Tryd.prog 28 #[.string s] w' fun x w'' => x = .returned (.tuple #[.agg #[.int .i64 y, .string u], .int .i64 e]) ∧ Below w'.heap.size w' w'') := Lib.hid fun w' hb => pb (P20 w' (HE.out.later hb HW.out) (Nat.le_trans HW.out hb.size))
  obtain ⟨e1, he1⟩ : ∃ e1, mchkR m c = e1 := ⟨_, rfl⟩
  have CK := Lib.hid (fun w => mchk_any m c hc (Lib.hid he1) w)
  by_cases h2 : e1 = 0
  · subst h2
    have P10 := parse_fmt m c he1
    have P1 : Hid (∀ w', Below w.heap.size w w' → Calls Tryd.prog 28 #[.string (fmtM m c)] w' fun x w'' => x = .returned (.tuple #[.agg #[.int .i64 m, .string c], .int .i64 0]) ∧ Below w'.heap.size w' w'') := Lib.hid fun w' hb => pb (P10 w' (HE.out.later hb HW.out) (Nat.le_trans HW.out hb.size))
    have F1 : Hid (∀ w', Below w.heap.size w w' → Calls Tryd.prog 27 #[.agg #[.int .i64 m, .string c]] w' fun x w'' => x = .returned (.string (fmtM m c)) ∧ Below w'.heap.size w' w'') := Lib.hid fun w' hb => fmt_ok m c he1 w' (HE.out.later hb HW.out) (HP.out.later hb HW.out) (Nat.le_trans HW.out hb.size)
    generalize fmtM m c = t at *
    rcases hR with ⟨rfl, hm, hst⟩ | ⟨he, rfl, rfl⟩
    · have CB := Lib.hid (fun w => mchk_any y u (by have := (mchk_curP hm).1.1; omega) (Lib.hid hm) w)
      have F2 : Hid (∀ w', Below w.heap.size w w' → Calls Tryd.prog 27 #[.agg #[.int .i64 y, .string u]] w' fun x w'' => x = .returned (.string s) ∧ Below w'.heap.size w' w'') := Lib.hid fun w' hb => hst ▸ fmt_ok y u hm w' (HE.out.later hb HW.out) (HP.out.later hb HW.out) (Nat.le_trans HW.out hb.size)
      clear P10 P20 he1 hc wm h1 hm hst HE HP HW
      have hM0 : Blk (w.alloc (.cells #[.int .i64 m, .string c] 23)) w.heap.size 23 #[.int .i64 m, .string c] := Blk.new _ _ _
      have hB0 : Below w.heap.size w (w.alloc (.cells #[.int .i64 m, .string c] 23)) := bel_alloc (Below.refl _ _) _
      go_enter Tryd.func8, Tryd.ntmps8
      go_wp2_with fail
      refine (F1.out _ hB0).mono ?_
      rintro x w1 ⟨rfl, h1⟩
      have HM1 := Lib.hid (hM0.below h1 hM0.lt)
      have HB1 := Lib.hid (hB0.trans (h1.mono hB0.size))
      clear hM0 hB0 h1
      go_wp2_with fail
      refine (P1.out _ HB1.out).mono ?_
      rintro x w2 ⟨rfl, h2⟩
      have HM2 := Lib.hid (HM1.out.below h2 HM1.out.lt)
      have HB2 := Lib.hid (HB1.out.trans (h2.mono HB1.out.size))
      clear h2
      have q0 := HM2.out.cell 0
      have q1 := HM2.out.cell 1
      have ql := HM2.out.lt
      go_wp2_with fail
      refine (CK.out _).mono ?_
      rintro x w3 ⟨rfl, h3⟩
      have hA3 := (Blk.new w2 23 #[.int .i64 m, .string c]).below h3.below (by simp)
      have hM3 := (HM2.out.alloc (.cells #[.int .i64 m, .string c] 23)).below h3.below (by simp; omega)
      have HB3 := Lib.hid ((bel_alloc HB2.out (.cells #[.int .i64 m, .string c] 23)).trans (h3.below.mono (bel_alloc HB2.out _).size))
      clear q0 q1 ql h3
      have q0 := hM3.cell 0
      have q1 := hM3.cell 1
      have ql := hM3.lt
      have a0 := hA3.cell 0
      have a1 := hA3.cell 1
      have al := hA3.lt
      clear hA3 hM3
      go_wp2_with fail
      refine (P2.out _ HB3.out).mono ?_
      rintro x w4 ⟨rfl, h4⟩
      have HB4 := Lib.hid (HB3.out.trans (h4.mono HB3.out.size))
      clear h4 q0 q1 ql a0 a1 al
      go_wp2_with fail
      refine (CB.out _).mono ?_
      rintro x w5 ⟨rfl, h5⟩
      have hA5 := (Blk.new w4 23 #[.int .i64 y, .string u]).below h5.below (by simp)
      have HB5 := Lib.hid ((bel_alloc HB4.out (.cells #[.int .i64 y, .string u] 23)).trans (h5.below.mono (bel_alloc HB4.out _).size))
      have q0 := hA5.cell 0
      have q1 := hA5.cell 1
      have ql := hA5.lt
      clear h5 hA5
      go_wp2_with fail
      refine (F2.out _ HB5.out).mono ?_
      rintro x w6 ⟨rfl, h6⟩
      have HB6 := Lib.hid (HB5.out.trans (h6.mono HB5.out.size))
      clear h6 q0 q1 ql
      go_wp2_with fail
      refine (AW.out _ (HB6.out)).mono ?_
      rintro x w9 ⟨rfl, hb9⟩
      go_wp2
      go_ret
      exact ⟨rfl, hb9⟩
    · clear P10 P20 he1 hc wm h1 HE HP HW
      have hM0 : Blk (w.alloc (.cells #[.int .i64 m, .string c] 23)) w.heap.size 23 #[.int .i64 m, .string c] := Blk.new _ _ _
      have hB0 : Below w.heap.size w (w.alloc (.cells #[.int .i64 m, .string c] 23)) := bel_alloc (Below.refl _ _) _
      go_enter Tryd.func8, Tryd.ntmps8
      go_wp2_with fail
      refine (F1.out _ hB0).mono ?_
      rintro x w1 ⟨rfl, h1⟩
      have HM1 := Lib.hid (hM0.below h1 hM0.lt)
      have HB1 := Lib.hid (hB0.trans (h1.mono hB0.size))
      clear hM0 hB0 h1
      go_wp2_with fail
      refine (P1.out _ HB1.out).mono ?_
      rintro x w2 ⟨rfl, h2⟩
      have HM2 := Lib.hid (HM1.out.below h2 HM1.out.lt)
      have HB2 := Lib.hid (HB1.out.trans (h2.mono HB1.out.size))
      clear h2
      have q0 := HM2.out.cell 0
      have q1 := HM2.out.cell 1
      have ql := HM2.out.lt
      go_wp2_with fail
      refine (CK.out _).mono ?_
      rintro x w3 ⟨rfl, h3⟩
      have hA3 := (Blk.new w2 23 #[.int .i64 m, .string c]).below h3.below (by simp)
      have hM3 := (HM2.out.alloc (.cells #[.int .i64 m, .string c] 23)).below h3.below (by simp; omega)
      have HB3 := Lib.hid ((bel_alloc HB2.out (.cells #[.int .i64 m, .string c] 23)).trans (h3.below.mono (bel_alloc HB2.out _).size))
      clear q0 q1 ql h3
      have q0 := hM3.cell 0
      have q1 := hM3.cell 1
      have ql := hM3.lt
      have a0 := hA3.cell 0
      have a1 := hA3.cell 1
      have al := hA3.lt
      clear hA3 hM3
      go_wp2_with fail
      refine (P2.out _ HB3.out).mono ?_
      rintro x w4 ⟨rfl, h4⟩
      have HB4 := Lib.hid (HB3.out.trans (h4.mono HB3.out.size))
      clear h4 q0 q1 ql a0 a1 al
      go_wp2_with fail
      refine (AW.out _ (bel_alloc HB4.out _)).mono ?_
      rintro x w9 ⟨rfl, hb9⟩
      go_wp2
      go_ret
      exact ⟨rfl, hb9⟩
  · have g2 := ne_b h2
    have P10 := parse_short
    have P1 : Hid (∀ w', Below w.heap.size w w' → Calls Tryd.prog 28 #[.string ⟨#[]⟩] w' fun x w'' => x = .returned (.tuple #[.agg #[.int .i64 0, .string ⟨#[]⟩], .int .i64 1]) ∧ Below w'.heap.size w' w'') := Lib.hid fun w' hb => pb (P10 w' (HE.out.later hb HW.out) (Nat.le_trans HW.out hb.size))
    have F1 : Hid (∀ w', Below w.heap.size w w' → Calls Tryd.prog 27 #[.agg #[.int .i64 m, .string c]] w' fun x w'' => x = .returned (.string ⟨#[]⟩) ∧ Below w'.heap.size w' w'') := Lib.hid fun w' hb => fmt_err m c hc (Lib.hid he1) g2 w'
    rcases hR with ⟨rfl, hm, hst⟩ | ⟨he, rfl, rfl⟩
    · have CB := Lib.hid (fun w => mchk_any y u (by have := (mchk_curP hm).1.1; omega) (Lib.hid hm) w)
      have F2 : Hid (∀ w', Below w.heap.size w w' → Calls Tryd.prog 27 #[.agg #[.int .i64 y, .string u]] w' fun x w'' => x = .returned (.string s) ∧ Below w'.heap.size w' w'') := Lib.hid fun w' hb => hst ▸ fmt_ok y u hm w' (HE.out.later hb HW.out) (HP.out.later hb HW.out) (Nat.le_trans HW.out hb.size)
      clear P10 P20 he1 hc wm h1 h2 hm hst HE HP HW
      have hM0 : Blk (w.alloc (.cells #[.int .i64 m, .string c] 23)) w.heap.size 23 #[.int .i64 m, .string c] := Blk.new _ _ _
      have hB0 : Below w.heap.size w (w.alloc (.cells #[.int .i64 m, .string c] 23)) := bel_alloc (Below.refl _ _) _
      go_enter Tryd.func8, Tryd.ntmps8
      go_wp2_with fail
      refine (F1.out _ hB0).mono ?_
      rintro x w1 ⟨rfl, h1⟩
      have HM1 := Lib.hid (hM0.below h1 hM0.lt)
      have HB1 := Lib.hid (hB0.trans (h1.mono hB0.size))
      clear hM0 hB0 h1
      go_wp2_with fail
      refine (P1.out _ HB1.out).mono ?_
      rintro x w2 ⟨rfl, h2⟩
      have HM2 := Lib.hid (HM1.out.below h2 HM1.out.lt)
      have HB2 := Lib.hid (HB1.out.trans (h2.mono HB1.out.size))
      clear h2
      have q0 := HM2.out.cell 0
      have q1 := HM2.out.cell 1
      have ql := HM2.out.lt
      go_wp2_with fail
      refine (CK.out _).mono ?_
      rintro x w3 ⟨rfl, h3⟩
      have hA3 := (Blk.new w2 23 #[.int .i64 0, .string ⟨#[]⟩]).below h3.below (by simp)
      have hM3 := (HM2.out.alloc (.cells #[.int .i64 0, .string ⟨#[]⟩] 23)).below h3.below (by simp; omega)
      have HB3 := Lib.hid ((bel_alloc HB2.out (.cells #[.int .i64 0, .string ⟨#[]⟩] 23)).trans (h3.below.mono (bel_alloc HB2.out _).size))
      clear q0 q1 ql h3
      have q0 := hM3.cell 0
      have q1 := hM3.cell 1
      have ql := hM3.lt
      have a0 := hA3.cell 0
      have a1 := hA3.cell 1
      have al := hA3.lt
      clear hA3 hM3
      go_wp2_with fail
      refine (P2.out _ HB3.out).mono ?_
      rintro x w4 ⟨rfl, h4⟩
      have HB4 := Lib.hid (HB3.out.trans (h4.mono HB3.out.size))
      clear h4 q0 q1 ql a0 a1 al
      go_wp2_with fail
      refine (CB.out _).mono ?_
      rintro x w5 ⟨rfl, h5⟩
      have hA5 := (Blk.new w4 23 #[.int .i64 y, .string u]).below h5.below (by simp)
      have HB5 := Lib.hid ((bel_alloc HB4.out (.cells #[.int .i64 y, .string u] 23)).trans (h5.below.mono (bel_alloc HB4.out _).size))
      have q0 := hA5.cell 0
      have q1 := hA5.cell 1
      have ql := hA5.lt
      clear h5 hA5
      go_wp2_with fail
      refine (F2.out _ HB5.out).mono ?_
      rintro x w6 ⟨rfl, h6⟩
      have HB6 := Lib.hid (HB5.out.trans (h6.mono HB5.out.size))
      clear h6 q0 q1 ql
      go_wp2_with fail
      refine (AW.out _ (HB6.out)).mono ?_
      rintro x w9 ⟨rfl, hb9⟩
      go_wp2
      go_ret
      exact ⟨rfl, hb9⟩
    · clear P10 P20 he1 hc wm h1 h2 HE HP HW
      have hM0 : Blk (w.alloc (.cells #[.int .i64 m, .string c] 23)) w.heap.size 23 #[.int .i64 m, .string c] := Blk.new _ _ _
      have hB0 : Below w.heap.size w (w.alloc (.cells #[.int .i64 m, .string c] 23)) := bel_alloc (Below.refl _ _) _
      go_enter Tryd.func8, Tryd.ntmps8
      go_wp2_with fail
      refine (F1.out _ hB0).mono ?_
      rintro x w1 ⟨rfl, h1⟩
      have HM1 := Lib.hid (hM0.below h1 hM0.lt)
      have HB1 := Lib.hid (hB0.trans (h1.mono hB0.size))
      clear hM0 hB0 h1
      go_wp2_with fail
      refine (P1.out _ HB1.out).mono ?_
      rintro x w2 ⟨rfl, h2⟩
      have HM2 := Lib.hid (HM1.out.below h2 HM1.out.lt)
      have HB2 := Lib.hid (HB1.out.trans (h2.mono HB1.out.size))
      clear h2
      have q0 := HM2.out.cell 0
      have q1 := HM2.out.cell 1
      have ql := HM2.out.lt
      go_wp2_with fail
      refine (CK.out _).mono ?_
      rintro x w3 ⟨rfl, h3⟩
      have hA3 := (Blk.new w2 23 #[.int .i64 0, .string ⟨#[]⟩]).below h3.below (by simp)
      have hM3 := (HM2.out.alloc (.cells #[.int .i64 0, .string ⟨#[]⟩] 23)).below h3.below (by simp; omega)
      have HB3 := Lib.hid ((bel_alloc HB2.out (.cells #[.int .i64 0, .string ⟨#[]⟩] 23)).trans (h3.below.mono (bel_alloc HB2.out _).size))
      clear q0 q1 ql h3
      have q0 := hM3.cell 0
      have q1 := hM3.cell 1
      have ql := hM3.lt
      have a0 := hA3.cell 0
      have a1 := hA3.cell 1
      have al := hA3.lt
      clear hA3 hM3
      go_wp2_with fail
      refine (P2.out _ HB3.out).mono ?_
      rintro x w4 ⟨rfl, h4⟩
      have HB4 := Lib.hid (HB3.out.trans (h4.mono HB3.out.size))
      clear h4 q0 q1 ql a0 a1 al
      go_wp2_with fail
      refine (AW.out _ (bel_alloc HB4.out _)).mono ?_
      rintro x w9 ⟨rfl, hb9⟩
      go_wp2
      go_ret
      exact ⟨rfl, hb9⟩

theorem own : ownKnob Tryd.prog.godebug = none := by kernel_rfl
theorem laidOut : laidOutB Tryd.prog = true := by kernel_rfl
theorem gTab : Tryd.prog.globalNamed "math/bits.deBruijn64tab" = some 5 := by kernel_rfl
theorem gTabType : (Tryd.prog.globals[5]?).map (·.type) = some 105 := by kernel_rfl
theorem cellsTab : Tryd.prog.cellsOf 105 = 64 := by kernel_rfl
theorem cellsOne : Tryd.prog.cellsOf 5 = 1 := by kernel_rfl
theorem gPow : Tryd.prog.globalNamed "internal/strconv.uint64pow10" = some 3 := by kernel_rfl
theorem gPowType : (Tryd.prog.globals[3]?).map (·.type) = some 98 := by kernel_rfl
theorem cellsPow : Tryd.prog.cellsOf 98 = 20 := by kernel_rfl
theorem cellsU64 : Tryd.prog.cellsOf 53 = 1 := by kernel_rfl
theorem table {W : World} (h : laidMetH Tryd.prog Rows.moneyReadsRow.laid W) : ExpT W ∧ Pow W ∧ 6 ≤ W.heap.size := by
  rw [MakeChecks.laidMetH_plain _ _ _ (by kernel_rfl)] at h
  have h1 := h
  have hp : Pow W := Lib.tabIs_of_head (k := .u64) (zs := Lib.pow10Tab) gPow gPowType Tryd.underlying98 Tryd.underlying53 cellsU64 cellsPow h1.tail.tail
  have he : ExpT W := exp_of_head h1.tail.tail.tail
  refine ⟨he, hp, ?_⟩
  have hc := (Lib.tabIs_of_head (k := .u8) (zs := [0, 1, 56, 2, 57, 49, 28, 3, 61, 58, 42, 50, 38, 29, 17, 4, 62, 47, 59, 36, 45, 43, 51, 22, 53, 39, 33, 30, 24, 18, 12, 5, 63, 55, 48, 27, 60, 41, 37, 16, 46, 35, 44, 21, 52, 32, 23, 11, 54, 26, 40, 15, 34, 20, 31, 10, 25, 14, 19, 9, 13, 8, 7, 6]) gTab gTabType Tryd.underlying105 Tryd.underlying5 cellsOne cellsTab h.tail).cell gTab 15 (by decide)
  rcases Nat.lt_or_ge 5 W.heap.size with hl | hl
  · omega
  · simp [World.cell?, Array.getElem?_eq_none hl] at hc

noncomputable def laidWorld (os : Os) : World := World.doorLaid Tryd.prog 400 os
theorem laid_met (os : Os) : laidMet Tryd.prog Rows.moneyReadsRow.laid ((laidWorld os).forCall (fun _ _ => 0) ⟨#[], #[.agg #[.int .i64 0, .string ⟨#[]⟩], .string ByteArray.empty], []⟩).memory :=
  laidMet_of_run' 8 (by kernel_rfl) (by kernel_rfl)
theorem reads (os : Os) {H : Type} (enc : TypeId × Value → H) : ∃ places, DataW.whole enc Tryd.prog ((laidWorld os).forCall (fun _ _ => 0) ⟨#[], #[.agg #[.int .i64 0, .string ⟨#[]⟩], .string ByteArray.empty], []⟩).memory Tryd.f8.params.toList Rows.moneyReadsSpec.vars false (#[.agg #[.int .i64 0, .string ⟨#[]⟩], .string ByteArray.empty] : Array Value).toList 8 = some ([.agg [.lit (.int .i64 0), .lit (.string [])], .lit (.string [])], [], places) :=
  ⟨[], by kernel_rfl⟩
set_option maxRecDepth 100000 in
theorem contract (H : Type) (enc : TypeId × Value → H) (W : World) (base : Nat) (args : Array Value) (ds gs : List (DataW H)) (before : List MemPlace)
    (hval0 : ∀ (j : Nat) t v, Tryd.f8.params[j]? = some t → args[j]? = some v → Value.okWide Tryd.prog W .any base t v)
    (hW : DataW.Whole enc Tryd.prog Tryd.f8.params.toList Rows.moneyReadsSpec.vars false W args.toList ds gs before) (hL : laidMetH Tryd.prog Rows.moneyReadsRow.laid W) :
    Calls Tryd.prog 8 args W fun e W' => ∃ v, e = .returned v ∧ Rows.moneyReadsSpec.post enc Tryd.prog Tryd.f8 false true false false W args v W' := by
  have hval : ∀ (j : Nat) t v, Tryd.f8.params[j]? = some t → args[j]? = some v → Value.okWide Tryd.prog W .any base t v := hval0
  have hW' := hW
  obtain ⟨p, q, hA0, hV, rfl, hfz, hnd⟩ := hW
  have hA : DataW.TrodAll enc Tryd.prog W 0 (fun _ => true) true Tryd.f8.params.toList args.toList ds p := hA0
  rw [Tryd.params8] at hA hval
  obtain ⟨v0, vs0, d0, ds0, p0, q0, hargs, rfl, rfl, h0, r0⟩ := trodAll_cons hA
  obtain ⟨v1, vs1, d1, ds1, p1, q1, rfl, rfl, rfl, h1, r1⟩ := trodAll_cons r0
  obtain ⟨rfl, rfl, rfl⟩ := trodAll_nil r1
  obtain rfl : args = #[v0, v1] := by cases args; simp_all
  obtain ⟨rfl, rfl⟩ := trodVars_none hV
  have k0 := h0
  have lt0 : ∀ x ∈ p0, x.block < W.heap.size := by obtain ⟨m, hm⟩ := k0; exact DataW.trod_lt m _ _ _ hm
  obtain ⟨u0_0, u0_1, y0_0, y0_1, m0, rfl, g0_0, g0_1⟩ := open_agg2 Tryd.underlying23 (by kernel_rfl) (by kernel_rfl) (hval 0 23 v0 rfl rfl) h0
  obtain ⟨m, rfl, w_m⟩ := one_int Tryd.underlying2 g0_0
  obtain ⟨c, rfl, w_c⟩ := one_string Tryd.underlying9 g0_1
  have k1 := h1
  have lt1 : ∀ x ∈ p1, x.block < W.heap.size := by obtain ⟨m, hm⟩ := k1; exact DataW.trod_lt m _ _ _ hm
  obtain ⟨a1, rfl, -, -, w1⟩ := open_string Tryd.underlying9 (hval 1 9 v1 rfl rfl) h1
  clear hA0 hval0
  refine (walk m c a1 W w_m w_c w1 (table hL)).mono fun e W' ⟨he, bel⟩ => ?_
  subst he
  exact ⟨_, rfl, _, _, _, [], _, [], hW', trodAll_mk1 (shut_bool Tryd.underlying4 _), (trodAll_cons_mk (Below.trod laidOut (by kernel_rfl) (of_decide_eq_true (by kernel_rfl)) k0 bel lt0) (trodAll_cons_mk (Below.trod laidOut (by kernel_rfl) (of_decide_eq_true (by kernel_rfl)) k1 bel lt1) trodAll_mk0)), rfl, bel.frame _, fun h => by cases h⟩

set_option maxRecDepth 100000 in
theorem lifted (os : Os) (started : os.Started) (H : Type) (enc : TypeId × Value → H) (F : Stop.Interp) :
    ReturnsInHanded {} Tryd.checked os 8 .any ((OpenSpec.ofChange Rows.moneyReadsSpec).preRow enc Tryd.prog Tryd.f8 Rows.moneyReadsRow.domain false Rows.moneyReadsRow.laid) (((OpenSpec.ofChange Rows.moneyReadsSpec).at F).post enc Tryd.prog Tryd.f8 false true false false) := by
  obtain ⟨places, hx⟩ := reads os enc
  refine returnsInHanded_of_row (C := Tryd.checked) (s := OpenSpec.ofChange Rows.moneyReadsSpec) own started (by kernel_rfl) Tryd.func8
    (witness_row_at (enc := enc) (C := Tryd.checked) false (laidWorld os) #[.agg #[.int .i64 0, .string ⟨#[]⟩], .string ByteArray.empty] rfl (by kernel_rfl) (by kernel_rfl) (by kernel_rfl)
      (OpenSpec.preRow_of_cond 8 hx (by kernel_rfl) (fun k hk => by cases hk) (by kernel_rfl) (laid_met os))) ?_
  intro W base args ds gs before hval hW _ _ _ hL _ _
  exact contract H enc W base args ds gs before hval hW hL
theorem said : Rows.MoneyReadsSaid :=
  OpenClaim.holds_of_cond 8 Tryd.f8 rfl rfl rfl rfl rfl rfl rfl ⟨rfl, rfl, rfl, rfl, rfl⟩ rfl rfl rfl rfl rfl (by kernel_rfl) Tryd.func8 (by kernel_rfl)
    (of_decide_eq_true (by kernel_rfl)) (by unfold Func.isWrapper; first | (rw [if_pos (by decide +kernel)]; kernel_rfl) | (rw [if_neg (by decide +kernel)]; exact ⟨rfl, rfl⟩))
    (fun os started H enc _ F => by rw [OpenClaim.pre_eq_preRow]; exact lifted os started H enc F)
/-- No parameter wants a stand-in; the program's own looks are off. -/
theorem plain (f : FuncId) (fn : Func) (hf : Tryd.pinned.checked.prog.funcNamed "cardnet/cardnetlaw01.MoneyReads" = some f) (hfn : Tryd.pinned.checked.prog.funcs[f]? = some fn) :
    false = Tryd.pinned.checked.prog.looks [] ∧ ∀ (j : Nat) t, fn.params[j]? = some t → Tryd.pinned.checked.prog.wantsStandIn t = false := by
  obtain rfl : f = 8 := Option.some.inj ((show Tryd.prog.funcNamed "cardnet/cardnetlaw01.MoneyReads" = some 8 by kernel_rfl).symm.trans hf) |>.symm
  obtain rfl : fn = Tryd.f8 := (Option.some.inj (Tryd.func8.symm.trans hfn)).symm
  refine ⟨by kernel_rfl, fun j t ht => ?_⟩
  rw [Tryd.params8] at ht
  have hm : t ∈ [23, 9] := by simpa using Array.mem_of_getElem? ht
  have hall : ([23, 9].all fun u => !Tryd.prog.wantsStandIn u) = true := by kernel_rfl
  exact (show Tryd.prog.wantsStandIn t = false by simpa using List.all_eq_true.1 hall t hm)
/-- THE CARD: the statement. -/
theorem proved : Rows.MoneyReadsCardSaid :=
  Claim7.holds_tied_plain_at .later [] _ _ _ _ said (fun _ h => by cases h) (by kernel_rfl) (fun _ h => by cases h) moneyReads_row_tie rfl ⟨rfl, rfl⟩ (by kernel_rfl) rfl plain (by kernel_rfl)
#print axioms proved
end Go.Proofs.YtompkkanckejjaaDoor.moneyReads
