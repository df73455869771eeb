/-
  PROVED: for all amounts, the law MoneyAdds returns true: Check, Add, Sub and Cmp return the specified results, and the examples hold; the card ties the listed tables to the program's text. Conditions: none besides the form's own reach.
-/
import Derived.Test.YtompkkanckejjaaDoorCards
import Derived.Test.YtompkkanckejjaaDoorTie
import Derived.WalkKit
import Derived.ProofKit
import Derived.OpenShut
import Derived.ShutString
import Derived.ChangeOld
import Derived.Below
import Derived.Deep.DeepHandedRow
import Derived.Lib.LaidTab
import Derived.LaidMore
import Derived.Stop.LaidErr
import Derived.Stop.Joined
import Derived.LaidHandle
import Derived.ChangeSlices
import Derived.SliceStrings
import Derived.Deep.RegionHeld3
import Derived.Test.YtompkkanckejjaaDoorROpen
import Derived.Test.YtompkkanckejjaaDoorM13
namespace Go.Proofs.YtompkkanckejjaaDoor.moneyAdds
open Go.ChangeShapes Go.WideShapes Go.ChangeAt Go.RowKit
open Go.ChangeMaps (open_string shut_string)
set_option linter.unusedVariables false
theorem i64_in {x : Int} (h : (Lit.int .i64 x).wf = true) : -9223372036854775808 ≤ x ∧ x ≤ 9223372036854775807 := by
  simp [Lit.wf, IntKind.min, IntKind.max, IntKind.signed, IntKind.bits] at h
  exact ⟨by omega, by omega⟩
theorem pair_ok {a : Int} {c : ByteArray} {b : Int} {d : ByteArray} (h : pairR a c b d = 0) : curP c ∧ -4503599627370496 ≤ a ∧ a ≤ 4503599627370496 ∧ -4503599627370496 ≤ b ∧ b ≤ 4503599627370496 := by
  unfold pairR at h
  split at h
  · rename_i h1
    split at h
    · rename_i h2
      obtain ⟨x, y, z⟩ := mchk_curP h1
      obtain ⟨x', y', z'⟩ := mchk_curP h2
      exact ⟨x, y, z, y', z'⟩
    · rename_i h2; exact absurd h h2
  · rename_i h1; exact absurd h h1
def BothQ (F G : FuncId) (args : Array Value) (v : Value) : Prop :=
  (∀ w, Calls Tryd.prog F args w fun x w' => x = .returned v ∧ Pushed w w') ∧ (∀ w, Calls Tryd.prog G args w fun x w' => x = .returned v ∧ Pushed w w')
theorem add_tot (a : Int) (c : ByteArray) (b : Int) (d : ByteArray) (hc : c.size ≤ 9223372036854775807) (hd : d.size ≤ 9223372036854775807) : ∃ (y : Int) (u : ByteArray) (e : Int), BothQ 10 11 #[.agg #[.int .i64 a, .string c], .agg #[.int .i64 b, .string d]] (.tuple #[.agg #[.int .i64 y, .string u], .int .i64 e]) := by
  by_cases h : pairR a c b d = 0
  case neg => exact ⟨0, ⟨#[]⟩, _, fun w => add_e a c b d hc hd (Lib.hid rfl) (ne_b h) w, fun w => radd_e a c b d hc hd (Lib.hid rfl) (ne_b h) w⟩
  have hb := pair_ok h
  by_cases hs : -4503599627370496 ≤ a + b ∧ a + b ≤ 4503599627370496
  · exact ⟨a + b, c, 0, fun w => add_ok a c b d hc hd hb (Lib.hid h) hs w, fun w => radd_ok a c b d hc hd hb (Lib.hid h) hs w⟩
  · exact ⟨0, ⟨#[]⟩, 4, fun w => add_big a c b d hc hd hb (Lib.hid h) hs w, fun w => radd_big a c b d hc hd hb (Lib.hid h) hs w⟩
theorem sub_tot (a : Int) (c : ByteArray) (b : Int) (d : ByteArray) (hc : c.size ≤ 9223372036854775807) (hd : d.size ≤ 9223372036854775807) : ∃ (y : Int) (u : ByteArray) (e : Int), BothQ 12 13 #[.agg #[.int .i64 a, .string c], .agg #[.int .i64 b, .string d]] (.tuple #[.agg #[.int .i64 y, .string u], .int .i64 e]) := by
  by_cases h : pairR a c b d = 0
  case neg => exact ⟨0, ⟨#[]⟩, _, fun w => sub_e a c b d hc hd (Lib.hid rfl) (ne_b h) w, fun w => rsub_e a c b d hc hd (Lib.hid rfl) (ne_b h) w⟩
  have hb := pair_ok h
  by_cases hs : -4503599627370496 ≤ a - b ∧ a - b ≤ 4503599627370496
  · exact ⟨a - b, c, 0, fun w => sub_ok a c b d hc hd hb (Lib.hid h) hs w, fun w => rsub_ok a c b d hc hd hb (Lib.hid h) hs w⟩
  · exact ⟨0, ⟨#[]⟩, 4, fun w => sub_big a c b d hc hd hb (Lib.hid h) hs w, fun w => rsub_big a c b d hc hd hb (Lib.hid h) hs w⟩
theorem cmp_tot (a : Int) (c : ByteArray) (b : Int) (d : ByteArray) (hc : c.size ≤ 9223372036854775807) (hd : d.size ≤ 9223372036854775807) : ∃ (v e : Int), BothQ 14 15 #[.agg #[.int .i64 a, .string c], .agg #[.int .i64 b, .string d]] (.tuple #[.int .i64 v, .int .i64 e]) := by
  by_cases h : pairR a c b d = 0
  case neg => exact ⟨0, _, fun w => cmp_e a c b d hc hd (Lib.hid rfl) (ne_b h) w, fun w => rcmp_e a c b d hc hd (Lib.hid rfl) (ne_b h) w⟩
  exact ⟨_, 0, fun w => cmp_ok a c b d hc hd (Lib.hid h) (Lib.hid rfl) w, fun w => rcmp_ok a c b d hc hd (Lib.hid h) (Lib.hid rfl) w⟩
set_option maxRecDepth 20000 in
set_option maxHeartbeats 12800000 in
theorem walk (a : Int) (c : ByteArray) (b : Int) (d : ByteArray) (w : World) (wa : (Lit.int .i64 a).wf = true) (hc : c.size ≤ maxLen) (wb : (Lit.int .i64 b).wf = true) (hd : d.size ≤ maxLen) (hT : ExpT w ∧ Pow w ∧ 6 ≤ w.heap.size) :
    Calls Tryd.prog 3 #[.agg #[.int .i64 a, .string c], .agg #[.int .i64 b, .string d]] w fun x w' => x = .returned (.bool true) ∧ Below w.heap.size w w' := by
  obtain ⟨hE, hP, hw⟩ := hT
  have AW0 : Hid (∀ w', Below w.heap.size w w' → Calls Tryd.prog 18 #[] w' fun e w'' => e = .returned (.bool true) ∧ Below w'.heap.size w' w'') := Lib.hid fun w' hb => awake_any w' (hE.later hb hw) (hP.later hb hw) (Nat.le_trans hw hb.size)
  clear hE hP hw
  obtain ⟨y1, u1, e1, A1, A2⟩ := add_tot a c b d hc hd
  obtain ⟨y2, u2, e2, S1, S2⟩ := sub_tot a c b d hc hd
  obtain ⟨v, e3, C1, C2⟩ := cmp_tot a c b d hc hd
  obtain ⟨e0, he0⟩ : ∃ e, mchkR a c = e := ⟨_, rfl⟩
  have K1 := Lib.hid (fun w => mchk_any a c hc (Lib.hid he0) w)
  have K2 := Lib.hid (fun w => rmchk_any a c hc (Lib.hid he0) w)
  replace A1 := Lib.hid A1
  replace A2 := Lib.hid A2
  replace S1 := Lib.hid S1
  replace S2 := Lib.hid S2
  replace C1 := Lib.hid C1
  replace C2 := Lib.hid C2
  clear wa wb hc hd he0
  go_enter Tryd.func3, Tryd.ntmps3
  go_wp2_with fail
  with_reducible refine (A1.out _).mono ?_
  rintro x w1 ⟨rfl, l0, n0, rfl⟩
  go_wp2_with fail
  with_reducible refine (A2.out _).mono ?_
  rintro x w1 ⟨rfl, l1, n1, rfl⟩
  go_wp2_with fail
  with_reducible refine (S1.out _).mono ?_
  rintro x w1 ⟨rfl, l2, n2, rfl⟩
  go_wp2_with fail
  with_reducible refine (S2.out _).mono ?_
  rintro x w1 ⟨rfl, l3, n3, rfl⟩
  go_wp2_with fail
  with_reducible refine (C1.out _).mono ?_
  rintro x w1 ⟨rfl, l4, n4, rfl⟩
  go_wp2_with fail
  with_reducible refine (C2.out _).mono ?_
  rintro x w1 ⟨rfl, l5, n5, rfl⟩
  go_wp2_with fail
  obtain ⟨X1, hX1⟩ : ∃ X, X = w.heap.size + 1 + 1 + l0.length := ⟨_, rfl⟩
  rw [← hX1]
  obtain ⟨X2, hX2⟩ : ∃ X, X = X1 + 1 + l1.length := ⟨_, rfl⟩
  rw [← hX2]
  obtain ⟨X3, hX3⟩ : ∃ X, X = X2 + 1 + l2.length := ⟨_, rfl⟩
  rw [← hX3]
  obtain ⟨X4, hX4⟩ : ∃ X, X = X3 + 1 + l3.length := ⟨_, rfl⟩
  rw [← hX4]
  refine world_var (P := fun V => Code.wp _ _ _ _ V) (fun V => Below w.heap.size w V ∧ (w.heap.size < V.heap.size ∧ X1 < V.heap.size ∧ X2 < V.heap.size ∧ X3 < V.heap.size ∧ X4 < V.heap.size) ∧ V.cell? ⟨w.heap.size, 0, none⟩ = some (.int .i64 a) ∧ V.cell? ⟨w.heap.size, 1, none⟩ = some (.string c) ∧ V.cell? ⟨X1, 0, none⟩ = some (.int .i64 y1) ∧ V.cell? ⟨X1, 1, none⟩ = some (.string u1) ∧ V.cell? ⟨X2, 0, none⟩ = some (.int .i64 y1) ∧ V.cell? ⟨X2, 1, none⟩ = some (.string u1) ∧ V.cell? ⟨X3, 0, none⟩ = some (.int .i64 y2) ∧ V.cell? ⟨X3, 1, none⟩ = some (.string u2) ∧ V.cell? ⟨X4, 0, none⟩ = some (.int .i64 y2) ∧ V.cell? ⟨X4, 1, none⟩ = some (.string u2)) ⟨Pushed.below (by repeat (first | with_reducible exact Pushed.refl _ | with_reducible refine Pushed.push ?_ _ | with_reducible refine Pushed.alloc ?_ _ | with_reducible refine Pushed.drewN ?_ _ | with_reducible refine Pushed.drew ?_)), by subst hX4 hX3 hX2 hX1; simp [size_push]; omega, ?_, ?_, ?_, ?_, ?_, ?_, ?_, ?_, ?_, ?_⟩ ?_
  · subst hX4 hX3 hX2 hX1; go_simp
  · subst hX4 hX3 hX2 hX1; go_simp
  · subst hX4 hX3 hX2 hX1; go_simp
  · subst hX4 hX3 hX2 hX1; go_simp
  · subst hX4 hX3 hX2 hX1; go_simp
  · subst hX4 hX3 hX2 hX1; go_simp
  · subst hX4 hX3 hX2 hX1; go_simp
  · subst hX4 hX3 hX2 hX1; go_simp
  · subst hX4 hX3 hX2 hX1; go_simp
  · subst hX4 hX3 hX2 hX1; go_simp
  rintro V ⟨hBV, ⟨z0, z1, z2, z3, z4⟩, d0, d1, d2, d3, d4, d5, d6, d7, d8, d9⟩
  have HBV := Lib.hid hBV
  have D1 : Hid (∀ w', Below V.heap.size V w' → Calls Tryd.prog 16 #[.agg #[.int .i64 a, .string c]] w' fun x w'' => x = .returned (.int .i64 e0) ∧ Below V.heap.size V w'') := Lib.hid fun w' hb => (K1.out w').mono fun x w'' h => ⟨h.1, hb.trans (h.2.below.mono hb.size)⟩
  have D2 : Hid (∀ w', Below V.heap.size V w' → Calls Tryd.prog 17 #[.agg #[.int .i64 a, .string c]] w' fun x w'' => x = .returned (.int .i64 e0) ∧ Below V.heap.size V w'') := Lib.hid fun w' hb => (K2.out w').mono fun x w'' h => ⟨h.1, hb.trans (h.2.below.mono hb.size)⟩
  have AWV : Hid (∀ w', Below V.heap.size V w' → Calls Tryd.prog 18 #[] w' fun e w'' => e = .returned (.bool true) ∧ Below V.heap.size V w'') := Lib.hid fun w' hb => (AW0.out w' (HBV.out.trans (hb.mono HBV.out.size))).mono fun e w'' h => ⟨h.1, hb.trans (h.2.mono hb.size)⟩
  have D3 : Hid (∀ w', Below V.heap.size V w' → Calls Tryd.prog 18 #[] w' fun x w'' => x = .returned (.bool true) ∧ Below V.heap.size V w'') := Lib.hid fun w' hb => by
    exact AWV.out w' hb
  have KS : Hid (∀ w', Below V.heap.size V w' → Below V.heap.size V w' ∧ w'.cell? ⟨w.heap.size, 0, none⟩ = some (.int .i64 a) ∧ w'.cell? ⟨w.heap.size, 1, none⟩ = some (.string c) ∧ w'.cell? ⟨X1, 0, none⟩ = some (.int .i64 y1) ∧ w'.cell? ⟨X1, 1, none⟩ = some (.string u1) ∧ w'.cell? ⟨X2, 0, none⟩ = some (.int .i64 y1) ∧ w'.cell? ⟨X2, 1, none⟩ = some (.string u1) ∧ w'.cell? ⟨X3, 0, none⟩ = some (.int .i64 y2) ∧ w'.cell? ⟨X3, 1, none⟩ = some (.string u2) ∧ w'.cell? ⟨X4, 0, none⟩ = some (.int .i64 y2) ∧ w'.cell? ⟨X4, 1, none⟩ = some (.string u2)) := Lib.hid fun w' hb => ⟨hb, by rw [hb.cell z0]; exact d0, by rw [hb.cell z0]; exact d1, by rw [hb.cell z1]; exact d2, by rw [hb.cell z1]; exact d3, by rw [hb.cell z2]; exact d4, by rw [hb.cell z2]; exact d5, by rw [hb.cell z3]; exact d6, by rw [hb.cell z3]; exact d7, by rw [hb.cell z4]; exact d8, by rw [hb.cell z4]; exact d9⟩
  clear K1 K2 A1 A2 S1 S2 C1 C2 hBV AW0 AWV hX1 hX2 hX3 hX4
  go_region_held3 (fun w' => Below V.heap.size V w' ∧ w'.cell? ⟨w.heap.size, 0, none⟩ = some (.int .i64 a) ∧ w'.cell? ⟨w.heap.size, 1, none⟩ = some (.string c) ∧ w'.cell? ⟨X1, 0, none⟩ = some (.int .i64 y1) ∧ w'.cell? ⟨X1, 1, none⟩ = some (.string u1) ∧ w'.cell? ⟨X2, 0, none⟩ = some (.int .i64 y1) ∧ w'.cell? ⟨X2, 1, none⟩ = some (.string u1) ∧ w'.cell? ⟨X3, 0, none⟩ = some (.int .i64 y2) ∧ w'.cell? ⟨X3, 1, none⟩ = some (.string u2) ∧ w'.cell? ⟨X4, 0, none⟩ = some (.int .i64 y2) ∧ w'.cell? ⟨X4, 1, none⟩ = some (.string u2)) (exact KS.out _ (by repeat (first | with_reducible exact Below.refl _ _ | with_reducible assumption | with_reducible refine Below.drew ?_ | with_reducible refine bel_alloc ?_ _ | with_reducible refine bel_drewN ?_ _))) (first
    | (with_reducible refine (D1.out _ (by repeat (first | with_reducible exact Below.refl _ _ | with_reducible assumption | with_reducible refine Below.drew ?_ | with_reducible refine bel_alloc ?_ _ | with_reducible refine bel_drewN ?_ _))).mono ?_; rintro x u1 ⟨rfl, hb1⟩)
    | (with_reducible refine (D2.out _ (by repeat (first | with_reducible exact Below.refl _ _ | with_reducible assumption | with_reducible refine Below.drew ?_ | with_reducible refine bel_alloc ?_ _ | with_reducible refine bel_drewN ?_ _))).mono ?_; rintro x u1 ⟨rfl, hb1⟩)
    | (with_reducible refine (D3.out _ (by repeat (first | with_reducible exact Below.refl _ _ | with_reducible assumption | with_reducible refine Below.drew ?_ | with_reducible refine bel_alloc ?_ _ | with_reducible refine bel_drewN ?_ _))).mono ?_; rintro x u1 ⟨rfl, hb1⟩))
  all_goals go_wp2
  all_goals go_ret
  all_goals exact ⟨rfl, HBV.out.trans (Below.mono (by repeat (first | with_reducible exact Below.refl _ _ | with_reducible assumption | with_reducible refine Below.drew ?_ | with_reducible refine bel_alloc ?_ _ | with_reducible refine bel_drewN ?_ _)) HBV.out.size)⟩

theorem own : ownKnob Tryd.prog.godebug = none := by kernel_rfl
theorem laidOut : laidOutB Tryd.prog = true := by kernel_rfl
theorem gTab : Tryd.prog.globalNamed "math/bits.deBruijn64tab" = some 5 := by kernel_rfl
theorem gTabType : (Tryd.prog.globals[5]?).map (·.type) = some 105 := by kernel_rfl
theorem cellsTab : Tryd.prog.cellsOf 105 = 64 := by kernel_rfl
theorem cellsOne : Tryd.prog.cellsOf 5 = 1 := by kernel_rfl
theorem gPow : Tryd.prog.globalNamed "internal/strconv.uint64pow10" = some 3 := by kernel_rfl
theorem gPowType : (Tryd.prog.globals[3]?).map (·.type) = some 98 := by kernel_rfl
theorem cellsPow : Tryd.prog.cellsOf 98 = 20 := by kernel_rfl
theorem cellsU64 : Tryd.prog.cellsOf 53 = 1 := by kernel_rfl
theorem table {W : World} (h : laidMetH Tryd.prog Rows.moneyAddsRow.laid W) : ExpT W ∧ Pow W ∧ 6 ≤ W.heap.size := by
  rw [MakeChecks.laidMetH_plain _ _ _ (by kernel_rfl)] at h
  have h1 := h
  have hp : Pow W := Lib.tabIs_of_head (k := .u64) (zs := Lib.pow10Tab) gPow gPowType Tryd.underlying98 Tryd.underlying53 cellsU64 cellsPow h1.tail.tail
  have he : ExpT W := exp_of_head h1.tail.tail.tail
  refine ⟨he, hp, ?_⟩
  have hc := (Lib.tabIs_of_head (k := .u8) (zs := [0, 1, 56, 2, 57, 49, 28, 3, 61, 58, 42, 50, 38, 29, 17, 4, 62, 47, 59, 36, 45, 43, 51, 22, 53, 39, 33, 30, 24, 18, 12, 5, 63, 55, 48, 27, 60, 41, 37, 16, 46, 35, 44, 21, 52, 32, 23, 11, 54, 26, 40, 15, 34, 20, 31, 10, 25, 14, 19, 9, 13, 8, 7, 6]) gTab gTabType Tryd.underlying105 Tryd.underlying5 cellsOne cellsTab h.tail).cell gTab 15 (by decide)
  rcases Nat.lt_or_ge 5 W.heap.size with hl | hl
  · omega
  · simp [World.cell?, Array.getElem?_eq_none hl] at hc

noncomputable def laidWorld (os : Os) : World := World.doorLaid Tryd.prog 400 os
theorem laid_met (os : Os) : laidMet Tryd.prog Rows.moneyAddsRow.laid ((laidWorld os).forCall (fun _ _ => 0) ⟨#[], #[.agg #[.int .i64 0, .string ⟨#[]⟩], .agg #[.int .i64 0, .string ⟨#[]⟩]], []⟩).memory :=
  laidMet_of_run' 8 (by kernel_rfl) (by kernel_rfl)
theorem reads (os : Os) {H : Type} (enc : TypeId × Value → H) : ∃ places, DataW.whole enc Tryd.prog ((laidWorld os).forCall (fun _ _ => 0) ⟨#[], #[.agg #[.int .i64 0, .string ⟨#[]⟩], .agg #[.int .i64 0, .string ⟨#[]⟩]], []⟩).memory Tryd.f3.params.toList Rows.moneyAddsSpec.vars false (#[.agg #[.int .i64 0, .string ⟨#[]⟩], .agg #[.int .i64 0, .string ⟨#[]⟩]] : Array Value).toList 8 = some ([.agg [.lit (.int .i64 0), .lit (.string [])], .agg [.lit (.int .i64 0), .lit (.string [])]], [], places) :=
  ⟨[], by kernel_rfl⟩
set_option maxRecDepth 100000 in
theorem contract (H : Type) (enc : TypeId × Value → H) (W : World) (base : Nat) (args : Array Value) (ds gs : List (DataW H)) (before : List MemPlace)
    (hval0 : ∀ (j : Nat) t v, Tryd.f3.params[j]? = some t → args[j]? = some v → Value.okWide Tryd.prog W .any base t v)
    (hW : DataW.Whole enc Tryd.prog Tryd.f3.params.toList Rows.moneyAddsSpec.vars false W args.toList ds gs before) (hL : laidMetH Tryd.prog Rows.moneyAddsRow.laid W) :
    Calls Tryd.prog 3 args W fun e W' => ∃ v, e = .returned v ∧ Rows.moneyAddsSpec.post enc Tryd.prog Tryd.f3 false true false false W args v W' := by
  have hval : ∀ (j : Nat) t v, Tryd.f3.params[j]? = some t → args[j]? = some v → Value.okWide Tryd.prog W .any base t v := hval0
  have hW' := hW
  obtain ⟨p, q, hA0, hV, rfl, hfz, hnd⟩ := hW
  have hA : DataW.TrodAll enc Tryd.prog W 0 (fun _ => true) true Tryd.f3.params.toList args.toList ds p := hA0
  rw [Tryd.params3] at hA hval
  obtain ⟨v0, vs0, d0, ds0, p0, q0, hargs, rfl, rfl, h0, r0⟩ := trodAll_cons hA
  obtain ⟨v1, vs1, d1, ds1, p1, q1, rfl, rfl, rfl, h1, r1⟩ := trodAll_cons r0
  obtain ⟨rfl, rfl, rfl⟩ := trodAll_nil r1
  obtain rfl : args = #[v0, v1] := by cases args; simp_all
  obtain ⟨rfl, rfl⟩ := trodVars_none hV
  have k0 := h0
  have lt0 : ∀ x ∈ p0, x.block < W.heap.size := by obtain ⟨m, hm⟩ := k0; exact DataW.trod_lt m _ _ _ hm
  obtain ⟨u0_0, u0_1, y0_0, y0_1, m0, rfl, g0_0, g0_1⟩ := open_agg2 Tryd.underlying23 (by kernel_rfl) (by kernel_rfl) (hval 0 23 v0 rfl rfl) h0
  obtain ⟨ma, rfl, w_ma⟩ := one_int Tryd.underlying2 g0_0
  obtain ⟨ca, rfl, w_ca⟩ := one_string Tryd.underlying9 g0_1
  have k1 := h1
  have lt1 : ∀ x ∈ p1, x.block < W.heap.size := by obtain ⟨m, hm⟩ := k1; exact DataW.trod_lt m _ _ _ hm
  obtain ⟨u1_0, u1_1, y1_0, y1_1, m1, rfl, g1_0, g1_1⟩ := open_agg2 Tryd.underlying23 (by kernel_rfl) (by kernel_rfl) (hval 1 23 v1 rfl rfl) h1
  obtain ⟨mb, rfl, w_mb⟩ := one_int Tryd.underlying2 g1_0
  obtain ⟨cb, rfl, w_cb⟩ := one_string Tryd.underlying9 g1_1
  clear hA0 hval0
  refine (walk ma ca mb cb W w_ma w_ca w_mb w_cb (table hL)).mono fun e W' ⟨he, bel⟩ => ?_
  subst he
  exact ⟨_, rfl, _, _, _, [], _, [], hW', trodAll_mk1 (shut_bool Tryd.underlying4 _), (trodAll_cons_mk (Below.trod laidOut (by kernel_rfl) (of_decide_eq_true (by kernel_rfl)) k0 bel lt0) (trodAll_cons_mk (Below.trod laidOut (by kernel_rfl) (of_decide_eq_true (by kernel_rfl)) k1 bel lt1) trodAll_mk0)), rfl, bel.frame _, fun h => by cases h⟩

set_option maxRecDepth 100000 in
theorem lifted (os : Os) (started : os.Started) (H : Type) (enc : TypeId × Value → H) (F : Stop.Interp) :
    ReturnsInHanded {} Tryd.checked os 3 .any ((OpenSpec.ofChange Rows.moneyAddsSpec).preRow enc Tryd.prog Tryd.f3 Rows.moneyAddsRow.domain false Rows.moneyAddsRow.laid) (((OpenSpec.ofChange Rows.moneyAddsSpec).at F).post enc Tryd.prog Tryd.f3 false true false false) := by
  obtain ⟨places, hx⟩ := reads os enc
  refine returnsInHanded_of_row (C := Tryd.checked) (s := OpenSpec.ofChange Rows.moneyAddsSpec) own started (by kernel_rfl) Tryd.func3
    (witness_row_at (enc := enc) (C := Tryd.checked) false (laidWorld os) #[.agg #[.int .i64 0, .string ⟨#[]⟩], .agg #[.int .i64 0, .string ⟨#[]⟩]] rfl (by kernel_rfl) (by kernel_rfl) (by kernel_rfl)
      (OpenSpec.preRow_of_cond 8 hx (by kernel_rfl) (fun k hk => by cases hk) (by kernel_rfl) (laid_met os))) ?_
  intro W base args ds gs before hval hW _ _ _ hL _ _
  exact contract H enc W base args ds gs before hval hW hL
theorem said : Rows.MoneyAddsSaid :=
  OpenClaim.holds_of_cond 3 Tryd.f3 rfl rfl rfl rfl rfl rfl rfl ⟨rfl, rfl, rfl, rfl, rfl⟩ rfl rfl rfl rfl rfl (by kernel_rfl) Tryd.func3 (by kernel_rfl)
    (of_decide_eq_true (by kernel_rfl)) (by unfold Func.isWrapper; first | (rw [if_pos (by decide +kernel)]; kernel_rfl) | (rw [if_neg (by decide +kernel)]; exact ⟨rfl, rfl⟩))
    (fun os started H enc _ F => by rw [OpenClaim.pre_eq_preRow]; exact lifted os started H enc F)
/-- No parameter wants a stand-in; the program's own looks are off. -/
theorem plain (f : FuncId) (fn : Func) (hf : Tryd.pinned.checked.prog.funcNamed "cardnet/cardnetlaw01.MoneyAdds" = some f) (hfn : Tryd.pinned.checked.prog.funcs[f]? = some fn) :
    false = Tryd.pinned.checked.prog.looks [] ∧ ∀ (j : Nat) t, fn.params[j]? = some t → Tryd.pinned.checked.prog.wantsStandIn t = false := by
  obtain rfl : f = 3 := Option.some.inj ((show Tryd.prog.funcNamed "cardnet/cardnetlaw01.MoneyAdds" = some 3 by kernel_rfl).symm.trans hf) |>.symm
  obtain rfl : fn = Tryd.f3 := (Option.some.inj (Tryd.func3.symm.trans hfn)).symm
  refine ⟨by kernel_rfl, fun j t ht => ?_⟩
  rw [Tryd.params3] at ht
  have hm : t ∈ [23, 23] := by simpa using Array.mem_of_getElem? ht
  have hall : ([23, 23].all fun u => !Tryd.prog.wantsStandIn u) = true := by kernel_rfl
  exact (show Tryd.prog.wantsStandIn t = false by simpa using List.all_eq_true.1 hall t hm)
/-- THE CARD: the statement. -/
theorem proved : Rows.MoneyAddsCardSaid :=
  Claim7.holds_tied_plain_at .later [] _ _ _ _ said (fun _ h => by cases h) (by kernel_rfl) (fun _ h => by cases h) moneyAdds_row_tie rfl ⟨rfl, rfl⟩ (by kernel_rfl) rfl plain (by kernel_rfl)
#print axioms proved
end Go.Proofs.YtompkkanckejjaaDoor.moneyAdds
