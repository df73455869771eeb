/-
  PROVED: for every list of at most 20 rates and any currencies of at most 20 bytes, the law RateFinds returns true: Find of the program is Find of the specification; the card ties the listed tables to the program's text. Conditions: none besides the form's own reach.
-/
import Derived.Test.YtobnkfgikafanaaDoorCards
import Derived.Test.YtobnkfgikafanaaDoorTie
import Derived.WalkKit
import Derived.ProofKit
import Derived.OpenShut
import Derived.ShutString
import Derived.ChangeOld
import Derived.Below
import Derived.Deep.DeepHandedRow
import Derived.Lib.LaidTab
import Derived.LaidMore
import Derived.Stop.LaidErr
import Derived.Stop.Joined
import Derived.LaidHandle
import Derived.ChangeSlices
import Derived.SliceStrings
import Derived.Deep.RegionHeld3
import Derived.Test.YtobnkfgikafanaaDoorROpen
import Derived.Test.YtobnkfgikafanaaDoorR27
namespace Go.Proofs.YtobnkfgikafanaaDoor.rateFinds
open Go.ChangeShapes Go.WideShapes Go.ChangeAt Go.RowKit
open Go.ChangeMaps (open_string shut_string)
set_option linter.unusedVariables false
theorem i64_in {x : Int} (h : (Lit.int .i64 x).wf = true) : -9223372036854775808 ≤ x ∧ x ≤ 9223372036854775807 := by
  simp [Lit.wf, IntKind.min, IntKind.max, IntKind.signed, IntKind.bits] at h
  exact ⟨by omega, by omega⟩
theorem bel1 {w : World} (o : Obj) : Below w.heap.size w (w.alloc o) := bel_alloc (Below.refl _ _) _
def sml (r : RR) : Prop := r.f.size ≤ 20 ∧ r.t.size ≤ 20
instance (r : RR) : Decidable (sml r) := by unfold sml; exact inferInstance
theorem sml_snoc {L : List RR} {k : Nat} {r : RR} (h : ∀ j x, j < k → L[j]? = some x → sml x) (hr : L[k]? = some r) (hn : sml r) : ∀ j x, j < k + 1 → L[j]? = some x → sml x := fun j x hj hx => by
  rcases Nat.lt_or_ge j k with hl | hl
  · exact h j x hl hx
  · obtain rfl : j = k := by omega
    rw [hr] at hx
    cases hx
    exact hn
set_option maxRecDepth 20000 in
set_option maxHeartbeats 12800000 in
theorem walk (A : Option Addr) (k c : Nat) (L : List RR) (a b p : ByteArray) (w : World) (hk : k ≤ maxLen) (hc : k ≤ c) (hS : Rts w w.heap.size A k L) (hL : ∀ r ∈ L, r.f.size ≤ maxLen ∧ r.t.size ≤ maxLen) (ha : a.size ≤ maxLen) (hb : b.size ≤ maxLen) (hp : p.size ≤ maxLen) (hT : Pow w ∧ 8 ≤ w.heap.size) :
    Calls Tryd.prog 6 #[.agg #[.slice A k c, .string a, .string b, .string p]] w fun x w' => x = .returned (.bool true) ∧ Below w.heap.size w w' := by
  obtain ⟨hP, hw⟩ := hT
  have AW : Hid (∀ w', Below w.heap.size w w' → Calls Tryd.prog 10 #[] w' fun e w'' => e = .returned (.bool true) ∧ Below w.heap.size w w'') := Lib.hid fun w' hb => (awake_any w' (hP.later hb hw) (Nat.le_trans hw hb.size)).mono fun e w'' h => ⟨h.1, hb.trans (h.2.mono hb.size)⟩
  have HLn := Lib.hid hL
  unfold maxLen at hk ha hb hp
  clear hL
  by_cases z0 : 20 < k
  · have g0 : (20 : Int) < ((k : Nat) : Int) := by omega
    clear hS hP HLn
    go_enter Tryd.func6, Tryd.ntmps6
    go_wp2_with fail
    refine (AW.out _ (bel1 _)).mono ?_
    rintro x w1 ⟨rfl, hb1⟩
    go_wp2
    go_ret
    exact ⟨rfl, hb1⟩
  have g0 : ¬ (20 : Int) < ((k : Nat) : Int) := by omega
  by_cases z1 : 20 < a.size
  · have g1 : (20 : Int) < ((a.size : Nat) : Int) := by omega
    clear hS hP HLn
    go_enter Tryd.func6, Tryd.ntmps6
    go_wp2_with fail
    refine (AW.out _ (bel1 _)).mono ?_
    rintro x w1 ⟨rfl, hb1⟩
    go_wp2
    go_ret
    exact ⟨rfl, hb1⟩
  have g1 : ¬ (20 : Int) < ((a.size : Nat) : Int) := by omega
  by_cases z2 : 20 < b.size
  · have g2 : (20 : Int) < ((b.size : Nat) : Int) := by omega
    clear hS hP HLn
    go_enter Tryd.func6, Tryd.ntmps6
    go_wp2_with fail
    refine (AW.out _ (bel1 _)).mono ?_
    rintro x w1 ⟨rfl, hb1⟩
    go_wp2
    go_ret
    exact ⟨rfl, hb1⟩
  have g2 : ¬ (20 : Int) < ((b.size : Nat) : Int) := by omega
  by_cases z3 : 20 < p.size
  · have g3 : (20 : Int) < ((p.size : Nat) : Int) := by omega
    clear hS hP HLn
    go_enter Tryd.func6, Tryd.ntmps6
    go_wp2_with fail
    refine (AW.out _ (bel1 _)).mono ?_
    rintro x w1 ⟨rfl, hb1⟩
    go_wp2
    go_ret
    exact ⟨rfl, hb1⟩
  have g3 : ¬ (20 : Int) < ((p.size : Nat) : Int) := by omega
  have FD : okL L → ∃ f t n d e, (Hid (∀ w', Below w.heap.size w w' → Calls Tryd.prog 25 #[.slice A k c, .string a, .string b, .string p] w' fun x w'' => x = .returned (.tuple #[agR f t n d, .int .i64 e]) ∧ Below w'.heap.size w' w'')) ∧ (Hid (∀ w', Below w.heap.size w w' → Calls Tryd.prog 26 #[.slice A k c, .string a, .string b, .string p] w' fun x w'' => x = .returned (.tuple #[agR f t n d, .int .i64 e]) ∧ Below w'.heap.size w' w'')) := fun hok => by
    obtain ⟨f, t, n, d, e, hF⟩ := find_tot L hok a b p (by omega) (by omega) (by omega)
    exact ⟨f, t, n, d, e, Lib.hid fun w' hb' => (hF A k c w' (hS.later hb') (by omega) hc (hP.later hb' hw) (Nat.le_trans hw hb'.size)).1, Lib.hid fun w' hb' => (hF A k c w' (hS.later hb') (by omega) hc (hP.later hb' hw) (Nat.le_trans hw hb'.size)).2⟩
  have HFD := Lib.hid FD
  have HS := Lib.hid hS
  clear FD hS hP
  go_enter Tryd.func6, Tryd.ntmps6
  go_wp2_with fail
  go_loopw [3] (fun i wr => ∃ j : Nat, j ≤ k ∧ i = .int .i64 (j : Int) ∧ (∀ m x, m < j → L[m]? = some x → sml x) ∧ Blk wr w.heap.size 44 #[.slice A k c, .string a, .string b, .string p] ∧ Below w.heap.size w wr) (fun i _ => k - (intOf i).toNat)
  case atStart => exact ⟨0, Nat.zero_le _, rfl, fun m x hm => absurd hm (by omega), Blk.new _ _ _, bel1 _⟩
  case round =>
    obtain ⟨j, hj, rfl, hno, hA, hB⟩ := hrel
    have HN := Lib.hid hno
    have HA := Lib.hid hA
    have HB := Lib.hid hB
    have q0 := hA.cell 0
    have q1 := hA.cell 1
    have q2 := hA.cell 2
    have q3 := hA.cell 3
    have ql := hA.lt
    by_cases hlt : j < k
    · obtain ⟨ad, x, pp, rfl, hx, hp0, hpb, c0, c1, c2, c3⟩ := Rts.at (Rts.below HS.out hB) hlt
      have HX := Lib.hid hx
      have hsz := HLn.out x (rr_mem hx)
      have hpl : pp.block < wr.heap.size := Nat.lt_of_lt_of_le hpb hB.size
      by_cases hs : sml x
      · have SM := Lib.hid (fun w => small_any x.f x.t x.n x.d hsz.1 hsz.2 (Lib.hid (decide_eq_true hs)) w)
        clear hno hA hB hx hsz
        go_wp2_with fail
        with_reducible refine (SM.out _).mono ?_
        rintro z w1 ⟨rfl, hP1⟩
        have HA1 := Lib.hid (HA.out.below hP1.below HA.out.lt)
        have HB1 := Lib.hid (HB.out.trans (hP1.below.mono HB.out.size))
        clear hP1 c0 c1 c2 c3 q0 q1 q2 q3 ql
        go_wp2
        go_round
        case rel => exact ⟨j + 1, by omega, by go_num, sml_snoc HN.out HX.out hs, HA1.out, HB1.out⟩
        case measure => simp [intOf]; omega
      · have SM := Lib.hid (fun w => small_any x.f x.t x.n x.d hsz.1 hsz.2 (Lib.hid (decide_eq_false hs)) w)
        clear hno hA hB hx hsz hs
        go_wp2_with fail
        with_reducible refine (SM.out _).mono ?_
        rintro z w1 ⟨rfl, hP1⟩
        have HB1 := Lib.hid (HB.out.trans (hP1.below.mono HB.out.size))
        clear hP1 c0 c1 c2 c3 q0 q1 q2 q3 ql
        go_wp2_with fail
        refine (AW.out _ HB1.out).mono ?_
        rintro z w2 ⟨rfl, hb2⟩
        go_wp2
        go_ret
        exact ⟨rfl, hb2⟩
    · obtain rfl : j = k := by omega
      have hok : okL L := fun r hr => by
        obtain ⟨m, hm, rfl⟩ := List.getElem_of_mem hr
        have := hno m _ (by rw [← HS.out.1]; exact hm) (List.getElem?_eq_getElem hm)
        exact ⟨by have := this.1; omega, by have := this.2; omega⟩
      obtain ⟨f, t, n, d, e, F1, F2⟩ := HFD.out hok
      clear hno hA hB hok HFD HLn HS HN
      go_wp2_with fail
      with_reducible refine (F1.out _ HB.out).mono ?_
      rintro z w1 ⟨rfl, h1⟩
      have hA1 := HA.out.below h1 HA.out.lt
      have hB1 := HB.out.trans (h1.mono HB.out.size)
      clear q0 q1 q2 q3 ql
      have q0 := hA1.cell 0
      have q1 := hA1.cell 1
      have q2 := hA1.cell 2
      have q3 := hA1.cell 3
      have ql := hA1.lt
      have HB1 := Lib.hid hB1
      clear hA1 hB1 h1
      go_wp2_with fail
      with_reducible refine (F2.out _ (bel_alloc HB1.out _)).mono ?_
      rintro z w2 ⟨rfl, h2⟩
      have HB2 := Lib.hid ((bel_alloc HB1.out (.cells #[.string f, .string t, .int .i64 n, .int .i64 d] 23)).trans (h2.mono (bel_alloc HB1.out _).size))
      have hx2 := (Blk.new w1 23 #[.string f, .string t, .int .i64 n, .int .i64 d]).below h2 (by simp)
      have x0 := hx2.cell 0
      have x1 := hx2.cell 1
      have x2 := hx2.cell 2
      have x3 := hx2.cell 3
      have xl := hx2.lt
      clear q0 q1 q2 q3 ql hx2 h2
      go_wp2_with fail
      refine (AW.out _ (bel_alloc HB2.out _)).mono ?_
      rintro z w3 ⟨rfl, hb3⟩
      go_wp2
      go_ret
      exact ⟨rfl, hb3⟩

theorem own : ownKnob Tryd.prog.godebug = none := by kernel_rfl
theorem laidOut : laidOutB Tryd.prog = true := by kernel_rfl
theorem gTab : Tryd.prog.globalNamed "math/bits.deBruijn64tab" = some 7 := by kernel_rfl
theorem gTabType : (Tryd.prog.globals[7]?).map (·.type) = some 116 := by kernel_rfl
theorem cellsTab : Tryd.prog.cellsOf 116 = 64 := by kernel_rfl
theorem cellsOne : Tryd.prog.cellsOf 5 = 1 := by kernel_rfl
theorem gPow : Tryd.prog.globalNamed "internal/strconv.uint64pow10" = some 2 := by kernel_rfl
theorem gPowType : (Tryd.prog.globals[2]?).map (·.type) = some 95 := by kernel_rfl
theorem cellsPow : Tryd.prog.cellsOf 95 = 20 := by kernel_rfl
theorem cellsU64 : Tryd.prog.cellsOf 67 = 1 := by kernel_rfl
theorem table {W : World} (h : laidMetH Tryd.prog Rows.rateFindsRow.laid W) : Pow W ∧ 8 ≤ W.heap.size := by
  rw [MakeChecks.laidMetH_plain _ _ _ (by kernel_rfl)] at h
  have h1 := h
  have hp : Pow W := Lib.tabIs_of_head (k := .u64) (zs := Lib.pow10Tab) gPow gPowType Tryd.underlying95 Tryd.underlying67 cellsU64 cellsPow h1.tail.tail
  refine ⟨hp, ?_⟩
  have hc := (Lib.tabIs_of_head (k := .u8) (zs := [0, 1, 56, 2, 57, 49, 28, 3, 61, 58, 42, 50, 38, 29, 17, 4, 62, 47, 59, 36, 45, 43, 51, 22, 53, 39, 33, 30, 24, 18, 12, 5, 63, 55, 48, 27, 60, 41, 37, 16, 46, 35, 44, 21, 52, 32, 23, 11, 54, 26, 40, 15, 34, 20, 31, 10, 25, 14, 19, 9, 13, 8, 7, 6]) gTab gTabType Tryd.underlying116 Tryd.underlying5 cellsOne cellsTab h.tail).cell gTab 15 (by decide)
  rcases Nat.lt_or_ge 7 W.heap.size with hl | hl
  · omega
  · simp [World.cell?, Array.getElem?_eq_none hl] at hc

noncomputable def laidWorld (os : Os) : World := World.doorLaid Tryd.prog 400 os
theorem laid_met (os : Os) : laidMetH Tryd.prog Rows.rateFindsRow.laid ((laidWorld os).forCall (fun _ _ => 0) ⟨#[], #[.agg #[.slice none 0 0, .string ⟨#[]⟩, .string ⟨#[]⟩, .string ⟨#[]⟩]], []⟩).memory :=
  laidMetH_of_parts3 (fuel := 8) (laidMet_of_run' 8 (by kernel_rfl) (by kernel_rfl)) (by kernel_rfl) (by kernel_rfl)
theorem reads (os : Os) {H : Type} (enc : TypeId × Value → H) : ∃ places, DataW.whole enc Tryd.prog ((laidWorld os).forCall (fun _ _ => 0) ⟨#[], #[.agg #[.slice none 0 0, .string ⟨#[]⟩, .string ⟨#[]⟩, .string ⟨#[]⟩]], []⟩).memory Tryd.f6.params.toList Rows.rateFindsSpec.vars false (#[.agg #[.slice none 0 0, .string ⟨#[]⟩, .string ⟨#[]⟩, .string ⟨#[]⟩]] : Array Value).toList 8 = some ([.agg [.nil, .lit (.string []), .lit (.string []), .lit (.string [])]], [], places) :=
  ⟨[], by kernel_rfl⟩
set_option maxRecDepth 100000 in
theorem contract (H : Type) (enc : TypeId × Value → H) (W : World) (base : Nat) (args : Array Value) (ds gs : List (DataW H)) (before : List MemPlace)
    (hval0 : ∀ (j : Nat) t v, Tryd.f6.params[j]? = some t → args[j]? = some v → Value.okWide Tryd.prog W .any base t v)
    (hW : DataW.Whole enc Tryd.prog Tryd.f6.params.toList Rows.rateFindsSpec.vars false W args.toList ds gs before) (hL : laidMetH Tryd.prog Rows.rateFindsRow.laid W) :
    Calls Tryd.prog 6 args W fun e W' => ∃ v, e = .returned v ∧ Rows.rateFindsSpec.post enc Tryd.prog Tryd.f6 false true false false W args v W' := by
  have hval : ∀ (j : Nat) t v, Tryd.f6.params[j]? = some t → args[j]? = some v → Value.okWide Tryd.prog W .any base t v := hval0
  have hW' := hW
  obtain ⟨p, q, hA0, hV, rfl, hfz, hnd⟩ := hW
  have hA : DataW.TrodAll enc Tryd.prog W 0 (fun _ => true) true Tryd.f6.params.toList args.toList ds p := hA0
  rw [Tryd.params6] at hA hval
  obtain ⟨v0, vs0, d0, ds0, p0, q0, hargs, rfl, rfl, h0, r0⟩ := trodAll_cons hA
  obtain ⟨rfl, rfl, rfl⟩ := trodAll_nil r0
  obtain rfl : args = #[v0] := by cases args; simp_all
  obtain ⟨rfl, rfl⟩ := trodVars_none hV
  have k0 := h0
  have lt0 : ∀ x ∈ p0, x.block < W.heap.size := by obtain ⟨m, hm⟩ := k0; exact DataW.trod_lt m _ _ _ hm
  obtain ⟨u0_0, u0_1, u0_2, u0_3, y0_0, y0_1, y0_2, y0_3, m0, rfl, g0_0, g0_1, g0_2, g0_3⟩ := open_agg4 Tryd.underlying44 (by kernel_rfl) (by kernel_rfl) (hval 0 44 v0 rfl rfl) h0
  obtain ⟨A, ka, ca, LL, rfl, lk, lc, lS, lL⟩ := open_rates g0_0
  obtain ⟨a, rfl, w_a⟩ := one_string Tryd.underlying9 g0_1
  obtain ⟨b, rfl, w_b⟩ := one_string Tryd.underlying9 g0_2
  obtain ⟨p, rfl, w_p⟩ := one_string Tryd.underlying9 g0_3
  clear hA0 hval0
  refine (walk A ka ca LL a b p W lk lc lS lL w_a w_b w_p (table hL)).mono fun e W' ⟨he, bel⟩ => ?_
  subst he
  exact ⟨_, rfl, _, _, _, [], _, [], hW', trodAll_mk1 (shut_bool Tryd.underlying4 _), (trodAll_cons_mk (Below.trod laidOut (by kernel_rfl) (of_decide_eq_true (by kernel_rfl)) k0 bel lt0) trodAll_mk0), rfl, bel.frame _, fun h => by cases h⟩

set_option maxRecDepth 100000 in
theorem lifted (os : Os) (started : os.Started) (H : Type) (enc : TypeId × Value → H) (F : Stop.Interp) :
    ReturnsInHanded {} Tryd.checked os 6 .any ((OpenSpec.ofChange Rows.rateFindsSpec).preRow enc Tryd.prog Tryd.f6 Rows.rateFindsRow.domain false Rows.rateFindsRow.laid) (((OpenSpec.ofChange Rows.rateFindsSpec).at F).post enc Tryd.prog Tryd.f6 false true false false) := by
  obtain ⟨places, hx⟩ := reads os enc
  refine returnsInHanded_of_row (C := Tryd.checked) (s := OpenSpec.ofChange Rows.rateFindsSpec) own started (by kernel_rfl) Tryd.func6
    (witness_row_at (enc := enc) (C := Tryd.checked) false (laidWorld os) #[.agg #[.slice none 0 0, .string ⟨#[]⟩, .string ⟨#[]⟩, .string ⟨#[]⟩]] rfl (by kernel_rfl) (by kernel_rfl) (by kernel_rfl)
      (OpenSpec.preRow_of_cond 8 hx (by kernel_rfl) (fun k hk => by cases hk) (by kernel_rfl) (laid_met os))) ?_
  intro W base args ds gs before hval hW _ _ _ hL _ _
  exact contract H enc W base args ds gs before hval hW hL
theorem said : Rows.RateFindsSaid :=
  OpenClaim.holds_of_cond 6 Tryd.f6 rfl rfl rfl rfl rfl rfl rfl ⟨rfl, rfl, rfl, rfl, rfl⟩ rfl rfl rfl rfl rfl (by kernel_rfl) Tryd.func6 (by kernel_rfl)
    (of_decide_eq_true (by kernel_rfl)) (by unfold Func.isWrapper; first | (rw [if_pos (by decide +kernel)]; kernel_rfl) | (rw [if_neg (by decide +kernel)]; exact ⟨rfl, rfl⟩))
    (fun os started H enc _ F => by rw [OpenClaim.pre_eq_preRow]; exact lifted os started H enc F)
/-- No parameter wants a stand-in; the program's own looks are off. -/
theorem plain (f : FuncId) (fn : Func) (hf : Tryd.pinned.checked.prog.funcNamed "cardnet/cardnetlaw02.RateFinds" = some f) (hfn : Tryd.pinned.checked.prog.funcs[f]? = some fn) :
    true = Tryd.pinned.checked.prog.looks [] ∧ ∀ (j : Nat) t, fn.params[j]? = some t → Tryd.pinned.checked.prog.wantsStandIn t = false := by
  obtain rfl : f = 6 := Option.some.inj ((show Tryd.prog.funcNamed "cardnet/cardnetlaw02.RateFinds" = some 6 by kernel_rfl).symm.trans hf) |>.symm
  obtain rfl : fn = Tryd.f6 := (Option.some.inj (Tryd.func6.symm.trans hfn)).symm
  refine ⟨by kernel_rfl, fun j t ht => ?_⟩
  rw [Tryd.params6] at ht
  have hm : t ∈ [44] := by simpa using Array.mem_of_getElem? ht
  have hall : ([44].all fun u => !Tryd.prog.wantsStandIn u) = true := by kernel_rfl
  exact (show Tryd.prog.wantsStandIn t = false by simpa using List.all_eq_true.1 hall t hm)
/-- THE CARD: the statement. -/
theorem proved : Rows.RateFindsCardSaid :=
  Claim7.holds_tied_plain_at .later [] _ _ _ _ said (fun _ h => by cases h) (by kernel_rfl) (fun _ h => by cases h) rateFinds_row_tie rfl ⟨rfl, rfl⟩ (by kernel_rfl) rfl plain (by kernel_rfl)
#print axioms proved
end Go.Proofs.YtobnkfgikafanaaDoor.rateFinds
