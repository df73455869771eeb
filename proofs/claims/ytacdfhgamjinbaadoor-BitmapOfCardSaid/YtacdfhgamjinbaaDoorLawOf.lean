/-
  PROVED: for every slice of numbers, the law BitmapOf returns true: Of returns the bitmap of the numbers, or the specified error, and the examples hold; the card ties the listed tables to the program's text. Conditions: none besides the form's own reach.
-/
import Derived.Test.YtacdfhgamjinbaaDoorCards
import Derived.Test.YtacdfhgamjinbaaDoorTie
import Derived.WalkKit
import Derived.ProofKit
import Derived.OpenShut
import Derived.ShutString
import Derived.ChangeOld
import Derived.Below
import Derived.Deep.DeepHandedRow
import Derived.Lib.LaidTab
import Derived.LaidMore
import Derived.Stop.LaidErr
import Derived.Stop.Joined
import Derived.LaidHandle
import Derived.ChangeSlices
import Derived.SliceStrings
import Derived.Test.YtacdfhgamjinbaaDoorB5
namespace Go.Proofs.YtacdfhgamjinbaaDoor.bitmapOf
open Go.ChangeShapes Go.WideShapes Go.ChangeAt Go.RowKit
open Go.ChangeMaps (open_string shut_string)
set_option linter.unusedVariables false
theorem cellsInt : Tryd.prog.cellsOf 3 = 1 := by kernel_rfl
set_option maxHeartbeats 1000000 in
theorem walk (A : Option Addr) (n c : Nat) (zs : List Int) (w : World) (hS : Ints w w.heap.size A n zs) (hn : n ≤ maxLen) (hc : n ≤ c) (hT : Tab w) :
    Calls Tryd.prog 4 #[.slice A n c] w fun e w' => e = .returned (.bool true) ∧ Below w.heap.size w w' := by
  have hz : ∀ w : World, (zeroValue 24).run Tryd.prog w = .ok (.agg #[.int .u64 0, .int .u64 0]) w := fun _ => by kernel_rfl
  have HS := Lib.hid hS
  have HT := Lib.hid hT
  have HC := Lib.hid hc
  have hT1 := hT.1
  clear hS hT hn hc
  by_cases hl : 300 < n
  · go_enter Tryd.func4, Tryd.ntmps4
    go_wp2_with (go_at_call 20; refine (awake_any _ HT.out).mono ?_; rintro e w1 ⟨rfl, hb⟩)
    go_ret
    exact ⟨rfl, by assumption⟩
  have hl2 : n ≤ 300 := by omega
  clear hl
  obtain ⟨r, hr⟩ : ∃ r, ofL zs 0 0 = r := ⟨_, rfl⟩
  have HR := Lib.hid hr
  clear hr
  rcases r with _ | ⟨a, b⟩
  ·
    have he : ∀ w : World, (Op.equalIn 10000 24 (.agg #[.int .u64 0, .int .u64 0]) (.agg #[.int .u64 0, .int .u64 0])).run Tryd.prog w = .ok true w := fun w => by rw [eq_arr]; simp
    go_enter Tryd.func4, Tryd.ntmps4
    go_wp2_with fail
    refine (of_any A n c zs _ HS.out hl2 HC.out HR).mono ?_
    rintro e w1 ⟨rfl, hb1⟩
    simp only [ofV]
    have hB1 : Below w.heap.size w (w1.alloc (.cells #[.int .u64 0, .int .u64 0] 24)) := hb1.alloc hb1.size _
    have hS1 : Ints (w1.alloc (.cells #[.int .u64 0, .int .u64 0] 24)) (w1.alloc (.cells #[.int .u64 0, .int .u64 0] 24)).heap.size A n zs := Reads.more (Reads.below HS.out hB1) hB1.size
    have HS1 := Lib.hid hS1
    have HK : Hid (Blk (w1.alloc (.cells #[.int .u64 0, .int .u64 0] 24)) w1.heap.size 24 #[.int .u64 0, .int .u64 0]) := Lib.hid (Blk.new _ _ _)
    have HB1 := Lib.hid hB1
    clear hb1 hB1 hS1
    go_wp2_with fail
    refine (rof_any A n c zs _ HS1.out hl2 HC.out HR).mono ?_
    rintro e w2 ⟨rfl, hb2⟩
    simp only [ofV]
    have hK2 := HK.out.below hb2 HK.out.lt
    have p0 := hK2.cell 0
    have p1 := hK2.cell 1
    have hl3 := hK2.lt
    have hn3 : ¬ w1.heap.size = w2.heap.size := by omega
    have hB2 : Below w.heap.size w w2 := HB1.out.trans (hb2.mono HB1.out.size)
    have HB3 := Lib.hid (hB2.alloc hB2.size (.cells #[.int .u64 0, .int .u64 0] 24) : Below w.heap.size w (w2.alloc (.cells #[.int .u64 0, .int .u64 0] 24)))
    clear hb2 hK2 hB2
    go_wp2_with fail
    refine (awake_any _ (HT.out.below HB3.out hT1)).mono ?_
    rintro e w3 ⟨rfl, hb3⟩
    go_wp2
    go_ret
    exact ⟨rfl, HB3.out.trans (hb3.mono HB3.out.size)⟩
  ·
    have he : ∀ w : World, (Op.equalIn 10000 24 (.agg #[.int .u64 (a : Int), .int .u64 (b : Int)]) (.agg #[.int .u64 (a : Int), .int .u64 (b : Int)])).run Tryd.prog w = .ok true w := fun w => by rw [eq_arr]; simp
    go_enter Tryd.func4, Tryd.ntmps4
    go_wp2_with fail
    refine (of_any A n c zs _ HS.out hl2 HC.out HR).mono ?_
    rintro e w1 ⟨rfl, hb1⟩
    simp only [ofV]
    have hB1 : Below w.heap.size w (w1.alloc (.cells #[.int .u64 (a : Int), .int .u64 (b : Int)] 24)) := hb1.alloc hb1.size _
    have hS1 : Ints (w1.alloc (.cells #[.int .u64 (a : Int), .int .u64 (b : Int)] 24)) (w1.alloc (.cells #[.int .u64 (a : Int), .int .u64 (b : Int)] 24)).heap.size A n zs := Reads.more (Reads.below HS.out hB1) hB1.size
    have HS1 := Lib.hid hS1
    have HK : Hid (Blk (w1.alloc (.cells #[.int .u64 (a : Int), .int .u64 (b : Int)] 24)) w1.heap.size 24 #[.int .u64 (a : Int), .int .u64 (b : Int)]) := Lib.hid (Blk.new _ _ _)
    have HB1 := Lib.hid hB1
    clear hb1 hB1 hS1
    go_wp2_with fail
    refine (rof_any A n c zs _ HS1.out hl2 HC.out HR).mono ?_
    rintro e w2 ⟨rfl, hb2⟩
    simp only [ofV]
    have hK2 := HK.out.below hb2 HK.out.lt
    have p0 := hK2.cell 0
    have p1 := hK2.cell 1
    have hl3 := hK2.lt
    have hn3 : ¬ w1.heap.size = w2.heap.size := by omega
    have hB2 : Below w.heap.size w w2 := HB1.out.trans (hb2.mono HB1.out.size)
    have HB3 := Lib.hid (hB2.alloc hB2.size (.cells #[.int .u64 (a : Int), .int .u64 (b : Int)] 24) : Below w.heap.size w (w2.alloc (.cells #[.int .u64 (a : Int), .int .u64 (b : Int)] 24)))
    clear hb2 hK2 hB2
    go_wp2_with fail
    refine (awake_any _ (HT.out.below HB3.out hT1)).mono ?_
    rintro e w3 ⟨rfl, hb3⟩
    go_wp2
    go_ret
    exact ⟨rfl, HB3.out.trans (hb3.mono HB3.out.size)⟩

theorem own : ownKnob Tryd.prog.godebug = none := by kernel_rfl
theorem laidOut : laidOutB Tryd.prog = true := by kernel_rfl
theorem tab_of_cell {W : World} (h : W.cell? ⟨4, 15, none⟩ = some (.int .u8 4)) : Tab W := by
  refine ⟨?_, h⟩
  rcases Nat.lt_or_ge 4 W.heap.size with hl | hl
  · exact hl
  · simp [World.cell?, Array.getElem?_eq_none hl] at h
theorem gTab : Tryd.prog.globalNamed "math/bits.deBruijn64tab" = some 4 := by kernel_rfl
theorem gTabType : (Tryd.prog.globals[4]?).map (·.type) = some 89 := by kernel_rfl
theorem cellsTab : Tryd.prog.cellsOf 89 = 64 := by kernel_rfl
theorem cellsOne : Tryd.prog.cellsOf 5 = 1 := by kernel_rfl
theorem table {W : World} (h : laidMetH Tryd.prog Rows.bitmapOfRow.laid W) : Tab W := by
  rw [MakeChecks.laidMetH_plain _ _ _ (by kernel_rfl)] at h
  have h1 := h
  have hc := (Lib.tabIs_of_head (k := .u8) (zs := [0, 1, 56, 2, 57, 49, 28, 3, 61, 58, 42, 50, 38, 29, 17, 4, 62, 47, 59, 36, 45, 43, 51, 22, 53, 39, 33, 30, 24, 18, 12, 5, 63, 55, 48, 27, 60, 41, 37, 16, 46, 35, 44, 21, 52, 32, 23, 11, 54, 26, 40, 15, 34, 20, 31, 10, 25, 14, 19, 9, 13, 8, 7, 6]) gTab gTabType Tryd.underlying89 Tryd.underlying5 cellsOne cellsTab h1.tail).cell gTab 15 (by decide)
  exact tab_of_cell hc

noncomputable def laidWorld (os : Os) : World := World.doorLaid Tryd.prog 400 os
theorem laid_met (os : Os) : laidMetH Tryd.prog Rows.bitmapOfRow.laid ((laidWorld os).forCall (fun _ _ => 0) ⟨#[], #[.slice none 0 0], []⟩).memory :=
  laidMetH_of_parts3 (fuel := 8) (laidMet_of_run' 8 (by kernel_rfl) (by kernel_rfl)) (by kernel_rfl) (by kernel_rfl)
theorem reads (os : Os) {H : Type} (enc : TypeId × Value → H) : ∃ places, DataW.whole enc Tryd.prog ((laidWorld os).forCall (fun _ _ => 0) ⟨#[], #[.slice none 0 0], []⟩).memory Tryd.f4.params.toList Rows.bitmapOfSpec.vars false (#[.slice none 0 0] : Array Value).toList 8 = some ([.nil], [], places) :=
  ⟨[], by kernel_rfl⟩
theorem contract (H : Type) (enc : TypeId × Value → H) (W : World) (base : Nat) (args : Array Value) (ds gs : List (DataW H)) (before : List MemPlace)
    (hval0 : ∀ (j : Nat) t v, Tryd.f4.params[j]? = some t → args[j]? = some v → Value.okWide Tryd.prog W .any base t v)
    (hW : DataW.Whole enc Tryd.prog Tryd.f4.params.toList Rows.bitmapOfSpec.vars false W args.toList ds gs before) (hL : laidMetH Tryd.prog Rows.bitmapOfRow.laid W) :
    Calls Tryd.prog 4 args W fun e W' => ∃ v, e = .returned v ∧ Rows.bitmapOfSpec.post enc Tryd.prog Tryd.f4 false true false false W args v W' := by
  have hval : ∀ (j : Nat) t v, Tryd.f4.params[j]? = some t → args[j]? = some v → Value.okWide Tryd.prog W .any base t v := hval0
  have hW' := hW
  obtain ⟨p, q, hA0, hV, rfl, hfz, hnd⟩ := hW
  have hA : DataW.TrodAll enc Tryd.prog W 0 (fun _ => true) true Tryd.f4.params.toList args.toList ds p := hA0
  rw [Tryd.params4] at hA hval
  obtain ⟨v0, vs0, d0, ds0, p0, q0, hargs, rfl, rfl, h0, r0⟩ := trodAll_cons hA
  obtain ⟨rfl, rfl, rfl⟩ := trodAll_nil r0
  obtain rfl : args = #[v0] := by cases args; simp_all
  obtain ⟨rfl, rfl⟩ := trodVars_none hV
  have k0 := h0
  have lt0 : ∀ x ∈ p0, x.block < W.heap.size := by obtain ⟨m, hm⟩ := k0; exact DataW.trod_lt m _ _ _ hm
  have aux0 : ∃ (A : Option Addr) (n c : Nat) (zs : List Int), v0 = .slice A n c ∧ n ≤ maxLen ∧ n ≤ c ∧ Ints W W.heap.size A n zs := by
    obtain ⟨m, hm⟩ := h0
    rcases open_ints Tryd.underlying30 Tryd.underlying3 cellsInt hm with ⟨hcs, hx⟩ | ⟨a, n, c, zs, hcs, _, hl, hm2, hz, hx, hcell, hws⟩
    · obtain ⟨A, n, c, rfl⟩ := okWide_slice Tryd.underlying30 (hval 0 30 v0 rfl rfl)
      simp [Value.cells] at hcs
      obtain ⟨rfl, rfl, rfl⟩ := hcs
      exact ⟨none, 0, 0, [], rfl, Nat.zero_le _, Nat.le_refl _, Reads.none_⟩
    · obtain ⟨A, n', c', rfl⟩ := okWide_slice Tryd.underlying30 (hval 0 30 v0 rfl rfl)
      simp [Value.cells] at hcs
      obtain ⟨rfl, rfl, rfl⟩ := hcs
      have hln : n' ≤ zs.length := by rw [hz]; split <;> omega
      refine ⟨some a, n', c', zs.take n', rfl, by omega, hl, ⟨by simp; omega, fun hn => ⟨a, rfl, ?_, fun j u hu => ?_⟩⟩⟩
      · have h0 := hcell 0 (by omega)
        rcases Nat.lt_or_ge a.block W.heap.size with hlt | hge
        · exact hlt
        · exfalso
          have : (a.add 0).block = a.block := block_of_add a 0
          simp [World.cell?, this, Array.getElem?_eq_none hge] at h0
      · rw [List.getElem?_map, List.getElem?_take] at hu
        split at hu
        · rename_i hj
          rw [hcell j (by omega), ← hu, List.getD_eq_getElem?_getD, List.getElem?_eq_getElem (by omega)]
          rfl
        · simp at hu
  obtain ⟨A0, n0, c0, s0, rfl, g0, gc0, S0⟩ := aux0
  clear hA0 hval0
  refine (walk A0 n0 c0 s0 W S0 g0 gc0 (table hL)).mono fun e W' ⟨he, bel⟩ => ?_
  subst he
  exact ⟨_, rfl, _, _, _, [], _, [], hW', trodAll_mk1 (shut_bool Tryd.underlying4 _), (trodAll_cons_mk (Below.trod laidOut (by kernel_rfl) (of_decide_eq_true (by kernel_rfl)) k0 bel lt0) trodAll_mk0), rfl, bel.frame _, fun h => by cases h⟩

set_option maxRecDepth 100000 in
theorem lifted (os : Os) (started : os.Started) (H : Type) (enc : TypeId × Value → H) (F : Stop.Interp) :
    ReturnsInHanded {} Tryd.checked os 4 .any ((OpenSpec.ofChange Rows.bitmapOfSpec).preRow enc Tryd.prog Tryd.f4 Rows.bitmapOfRow.domain false Rows.bitmapOfRow.laid) (((OpenSpec.ofChange Rows.bitmapOfSpec).at F).post enc Tryd.prog Tryd.f4 false true false false) := by
  obtain ⟨places, hx⟩ := reads os enc
  refine returnsInHanded_of_row (C := Tryd.checked) (s := OpenSpec.ofChange Rows.bitmapOfSpec) own started (by kernel_rfl) Tryd.func4
    (witness_row_at (enc := enc) (C := Tryd.checked) false (laidWorld os) #[.slice none 0 0] rfl (by kernel_rfl) (by kernel_rfl) (by kernel_rfl)
      (OpenSpec.preRow_of_cond 8 hx (by kernel_rfl) (fun k hk => by cases hk) (by kernel_rfl) (laid_met os))) ?_
  intro W base args ds gs before hval hW _ _ _ hL _ _
  exact contract H enc W base args ds gs before hval hW hL
theorem said : Rows.BitmapOfSaid :=
  OpenClaim.holds_of_cond 4 Tryd.f4 rfl rfl rfl rfl rfl rfl rfl ⟨rfl, rfl, rfl, rfl, rfl⟩ rfl rfl rfl rfl rfl (by kernel_rfl) Tryd.func4 (by kernel_rfl)
    (of_decide_eq_true (by kernel_rfl)) (by unfold Func.isWrapper; first | (rw [if_pos (by decide +kernel)]; kernel_rfl) | (rw [if_neg (by decide +kernel)]; exact ⟨rfl, rfl⟩))
    (fun os started H enc _ F => by rw [OpenClaim.pre_eq_preRow]; exact lifted os started H enc F)
/-- No parameter wants a stand-in; the program's own looks are off. -/
theorem plain (f : FuncId) (fn : Func) (hf : Tryd.pinned.checked.prog.funcNamed "cardnet/cardnetlaw05.BitmapOf" = some f) (hfn : Tryd.pinned.checked.prog.funcs[f]? = some fn) :
    true = Tryd.pinned.checked.prog.looks [] ∧ ∀ (j : Nat) t, fn.params[j]? = some t → Tryd.pinned.checked.prog.wantsStandIn t = false := by
  obtain rfl : f = 4 := Option.some.inj ((show Tryd.prog.funcNamed "cardnet/cardnetlaw05.BitmapOf" = some 4 by kernel_rfl).symm.trans hf) |>.symm
  obtain rfl : fn = Tryd.f4 := (Option.some.inj (Tryd.func4.symm.trans hfn)).symm
  refine ⟨by kernel_rfl, fun j t ht => ?_⟩
  rw [Tryd.params4] at ht
  have hm : t ∈ [30] := by simpa using Array.mem_of_getElem? ht
  have hall : ([30].all fun u => !Tryd.prog.wantsStandIn u) = true := by kernel_rfl
  exact (show Tryd.prog.wantsStandIn t = false by simpa using List.all_eq_true.1 hall t hm)
/-- THE CARD: the statement. -/
theorem proved : Rows.BitmapOfCardSaid :=
  Claim7.holds_tied_plain_at .later [] _ _ _ _ said (fun _ h => by cases h) (by kernel_rfl) (fun _ h => by cases h) bitmapOf_row_tie rfl ⟨rfl, rfl⟩ (by kernel_rfl) rfl plain (by kernel_rfl)
#print axioms proved
end Go.Proofs.YtacdfhgamjinbaaDoor.bitmapOf
