/-
  PROVED: for every string, the law LexerRoundTrip returns true: printed lexemes are scanned back, with the same kinds, texts and numbers; the card ties the listed tables and variables to the program's text. Conditions: none besides the form's own reach.
-/
import Derived.Test.YtklogijbdpghpaaDoorCards
import Derived.Test.YtklogijbdpghpaaDoorTie
import Derived.WalkKit
import Derived.ProofKit
import Derived.OpenShut
import Derived.ShutString
import Derived.ChangeOld
import Derived.Below
import Derived.Deep.DeepHandedRow
import Derived.Lib.LaidTab
import Derived.LaidMore
import Derived.Stop.LaidErr
import Derived.Stop.Joined
import Derived.LaidHandle
import Derived.Test.YtklogijbdpghpaaDoorLXW
namespace Go.Proofs.YtklogijbdpghpaaDoor.lexerRoundTrip
open Go.ChangeShapes Go.WideShapes Go.ChangeAt Go.RowKit
open Go.ChangeMaps (open_string shut_string)
set_option linter.unusedVariables false
theorem lxs_of_row {w : World} {K n c : Nat} {A : Option Addr} {L : List Lx} (h : w.ownsRow K 30 4 (.slice A n c) n (lcells L)) (hl : L.length = n) : Lxs w w.heap.size A n L := by
  refine ⟨hl, fun hn => ?_⟩
  obtain ⟨g, cap, e, -, hgl, hc⟩ := row_cells h hn
  injection e with e1 e2 e3
  subst e1
  refine ⟨_, rfl, hgl, fun k x hx => ?_⟩
  have hk : k < n := by rw [← hl]; exact (List.getElem?_eq_some_iff.1 hx).1
  obtain ⟨x0, x1, x2, x3⟩ := lcells_at L hx
  have ha : ∀ j, (⟨g, 0, none⟩ : Addr).add j = ⟨g, j, none⟩ := fun j => by unfold Addr.add; split <;> simp_all
  have hb : ∀ i j, (⟨g, i, none⟩ : Addr).add j = ⟨g, i + j, none⟩ := fun i j => by unfold Addr.add; split <;> simp_all
  rw [ha, hb, hb, hb]
  exact ⟨(hc _ (by omega)).trans x0, (hc _ (by omega)).trans x1, (hc _ (by omega)).trans x2, (hc _ (by omega)).trans x3⟩
theorem ok_key : ∀ {xs ys : List Lx}, xs.map keyX = ys.map keyX → (∀ y ∈ ys, okW y) → ∀ x ∈ xs, okW x
  | [], _, _, _ => fun x hx => by cases hx
  | x :: xs, [], h, _ => by simp at h
  | x :: xs, y :: ys, h, hy => fun z hz => by
    rw [List.map_cons, List.map_cons, List.cons.injEq] at h
    rcases List.mem_cons.1 hz with rfl | hz
    · have h1 := h.1
      unfold keyX at h1
      simp only [Prod.mk.injEq] at h1
      have := hy y (List.mem_cons_self)
      unfold okW at *
      rw [h1.2.1, h1.2.2]
      exact this
    · exact ok_key h.2 (fun u hu => hy u (List.mem_cons_of_mem _ hu)) z hz
theorem ok_end (n : Nat) : okW (endL n) := ⟨Nat.zero_le _, by show (-9223372036854775808 : Int) ≤ 0; decide, by show (0 : Int) ≤ 9223372036854775807; decide⟩
set_option maxHeartbeats 6400000 in
set_option maxRecDepth 5000 in
theorem walk (s : ByteArray) (w : World) (hs : s.size ≤ maxLen) (hT : Pow w ∧ Errs w ∧ 5 ≤ w.heap.size) : Calls Tryd.prog 7 #[.string s] w fun e w' => e = .returned (.bool true) ∧ Below w.heap.size w w' := by
  have AW : Hid (∀ w', Below w.heap.size w w' → Calls Tryd.prog 9 #[] w' fun e w'' => e = .returned (.bool true) ∧ Below w.heap.size w w'') := Lib.hid fun w' hb => (awake_any w' (hT.2.1.later hb hT.2.2) (Nat.le_trans hT.2.2 hb.size)).mono fun e w'' h => ⟨h.1, hb.trans (h.2.mono hb.size)⟩
  have HT := Lib.hid hT
  clear hT
  go_enter Tryd.func7, Tryd.ntmps7
  by_cases h19 : 1900 < s.size
  · have d1 : decide ((1900 : Int) < (s.size : Int)) = true := decide_eq_true (by omega)
    have HBB := Lib.hid (Below.refl w.heap.size w)
    clear h19
    go_wp2_with fail
    refine (AW.out _ HBB.out).mono ?_
    rintro e w9 ⟨rfl, hb⟩
    go_wp2_with fail
    go_ret
    exact ⟨rfl, hb⟩
  have d1 : decide ((1900 : Int) < (s.size : Int)) = false := decide_eq_false (by omega)
  have hs19 : s.size ≤ 1900 := by omega
  clear h19
  rcases round_trip s hs19 with ⟨M, N, hR, hR2, hkey, hP, hz, hok⟩ | ⟨e0, p0, he, hR⟩
  case inr =>
    have SC := Lib.hid (scan_any s (by omega) w HT.out.2.1 HT.out.2.2 hR)
    have e1 : (e0 == 0) = false := beq_false_of_ne he
    have e2 : (e0 != 0) = true := by simp [he]
    clear hR he
    go_wp2_with fail
    refine SC.out.mono ?_
    rintro e w1 ⟨v, rfl, ho, hb⟩
    have HBB := Lib.hid hb
    simp only at ho
    obtain ⟨A, c, hv, -, -, -⟩ := row_form ho
    subst hv
    clear ho hb
    go_wp2_with fail
    refine (AW.out _ HBB.out).mono ?_
    rintro e w9 ⟨rfl, hb⟩
    go_wp2_with fail
    go_ret
    exact ⟨rfl, hb⟩
  have SC := Lib.hid (scan_any s (by omega) w HT.out.2.1 HT.out.2.2 hR)
  have SC2 := Lib.hid (fun w h h5 => scan_any (printS (M ++ [endL s.size])) (by omega) w h h5 hR2)
  have hlen : N.length = M.length := by have := congrArg List.length hkey; simpa using this
  obtain ⟨n, hn⟩ : ∃ n, n = M.length + 1 := ⟨_, rfl⟩
  have hl1 : (M ++ [endL s.size]).length = n := by simp [hn]
  have hl2 : (N ++ [endL (printS (M ++ [endL s.size])).size]).length = n := by simp [hn, hlen]
  have hkeys : (N ++ [endL (printS (M ++ [endL s.size])).size]).map keyX = (M ++ [endL s.size]).map keyX := by rw [List.map_append, List.map_append, hkey]; rfl
  have hok1 : ∀ x ∈ M ++ [endL s.size], okW x := fun x hx => by
    rcases List.mem_append.1 hx with h | h
    · exact hok x h
    · rw [List.mem_singleton.1 h]; exact ok_end _
  have hok2 := ok_key hkeys hok1
  have hn5 : n ≤ 4001 := by have := scS_len s; rw [hR] at this; simp only at this; omega
  have hn1 : 1 ≤ n := by omega
  clear hR hR2 hkey hok hlen hn hz
  generalize N ++ [endL (printS (M ++ [endL s.size])).size] = L2 at *
  generalize hL : M ++ [endL s.size] = L at *
  clear hL
  have HP := Lib.hid hP
  have HKEY := Lib.hid hkeys
  have HOK1 := Lib.hid hok1
  have HOK2 := Lib.hid hok2
  have HL1 := Lib.hid hl1
  have HL2 := Lib.hid hl2
  clear hP hkeys hok1 hok2 hl1 hl2
  obtain ⟨t, ht⟩ : ∃ t, t = printS L := ⟨_, rfl⟩
  have HTT := Lib.hid ht
  rw [← ht] at SC2 HP
  clear ht
  go_wp2_with fail
  refine SC.out.mono ?_
  rintro e w1 ⟨v, rfl, ho, hb⟩
  simp only at ho
  rw [HL1.out] at ho
  obtain ⟨A, c, hv, -, -, -⟩ := row_form ho
  subst hv
  have HO := Lib.hid ho
  have HB := Lib.hid hb
  have PA := Lib.hid (print_any A n c L w1 (lxs_of_row ho HL1.out) HOK1.out (by omega) (HT.out.1.later hb HT.out.2.2) (Nat.le_trans HT.out.2.2 hb.size))
  rw [← HTT.out] at PA
  clear ho hb d1
  go_wp2_with fail
  refine PA.out.mono ?_
  rintro e w2 ⟨rfl, hb⟩
  have HO1 := Lib.hid (row_of HO.out (fun j hj => hb.block j (row_lt HO.out hj).2))
  have HB1 := Lib.hid (HB.out.trans (hb.mono HB.out.size))
  clear hb HO HB
  go_wp2_with fail
  refine (SC2.out _ (HT.out.2.1.later HB1.out HT.out.2.2) (Nat.le_trans HT.out.2.2 HB1.out.size)).mono ?_
  rintro e w3 ⟨v2, rfl, ho, hb⟩
  simp only at ho
  rw [HL2.out] at ho
  obtain ⟨A2, c2, hv, -, -, -⟩ := row_form ho
  subst hv
  have HO2 := Lib.hid (row_of HO1.out (fun j hj => hb.block j (row_lt HO1.out hj).2))
  have HU := Lib.hid ho
  have HBX := Lib.hid (HB1.out.trans (hb.mono HB1.out.size))
  have hne : ((n : Int) == 0) = false := beq_false_of_ne (by omega)
  have hne2 : (n == 0) = false := beq_false_of_ne (by omega)
  clear ho hb HO1 HB1 SC SC2 PA
  go_wp2_with fail
  go_loopw [9] (fun v wr => ∃ k : Nat, k ≤ n ∧ v = .int .i64 (k : Int) ∧ Below w3.heap.size w3 wr) (fun v _ => n - (intOf v).toNat)
  case atStart => exact ⟨0, Nat.zero_le _, rfl, Below.refl _ _⟩
  case round =>
    obtain ⟨k, hk, rfl, hB⟩ := hrel
    have HW := Lib.hid hB
    by_cases hlt : k < n
    · have hx : L[k]? = some (L[k]'(by rw [HL1.out]; exact hlt)) := List.getElem?_eq_getElem _
      generalize (L[k]'(by rw [HL1.out]; exact hlt)) = x at hx
      have hy : L2[k]? = some (L2[k]'(by rw [HL2.out]; exact hlt)) := List.getElem?_eq_getElem _
      generalize (L2[k]'(by rw [HL2.out]; exact hlt)) = y at hy
      have hxy : keyX y = keyX x := by
        have h1 : (L2.map keyX)[k]? = some (keyX y) := by rw [List.getElem?_map, hy]; rfl
        rw [HKEY.out, List.getElem?_map, hx] at h1
        exact (Option.some.inj h1).symm
      obtain ⟨xk, xt, xn, xp⟩ := x
      obtain ⟨yk, yt, yn, yp⟩ := y
      unfold keyX at hxy
      simp only [Prod.mk.injEq] at hxy
      obtain ⟨rfl, rfl, rfl⟩ := hxy
      obtain ⟨g, cap, e, -, hgl, hc⟩ := row_cells HO2.out (by omega)
      injection e with e1 e2 e3
      subst e1 e3
      obtain ⟨g2, cap2, e, -, hgl2, hc2⟩ := row_cells HU.out (by omega)
      injection e with e1 e2 e3
      subst e1 e3
      obtain ⟨x0, x1, x2, -⟩ := lcells_at L hx
      obtain ⟨y0, y1, y2, -⟩ := lcells_at L2 hy
      simp only at x0 x1 x2 y0 y1 y2
      have p0 : wr.cell? ⟨g, k * 4, none⟩ = some (.int .i64 yk) := ((HW.out.cell (p := ⟨g, k * 4, none⟩) hgl).trans (hc _ (by omega))).trans x0
      have p1 : wr.cell? ⟨g, k * 4 + 1, none⟩ = some (.string yt) := ((HW.out.cell (p := ⟨g, k * 4 + 1, none⟩) hgl).trans (hc _ (by omega))).trans x1
      have p2 : wr.cell? ⟨g, k * 4 + 2, none⟩ = some (.int .i64 yn) := ((HW.out.cell (p := ⟨g, k * 4 + 2, none⟩) hgl).trans (hc _ (by omega))).trans x2
      have q0 : wr.cell? ⟨g2, k * 4, none⟩ = some (.int .i64 yk) := ((HW.out.cell (p := ⟨g2, k * 4, none⟩) hgl2).trans (hc2 _ (by omega))).trans y0
      have q1 : wr.cell? ⟨g2, k * 4 + 1, none⟩ = some (.string yt) := ((HW.out.cell (p := ⟨g2, k * 4 + 1, none⟩) hgl2).trans (hc2 _ (by omega))).trans y1
      have q2 : wr.cell? ⟨g2, k * 4 + 2, none⟩ = some (.int .i64 yn) := ((HW.out.cell (p := ⟨g2, k * 4 + 2, none⟩) hgl2).trans (hc2 _ (by omega))).trans y2
      clear hc hc2 hx hy x0 x1 x2 y0 y1 y2 hB
      go_wp2_with fail
      go_quiet (fail)
      go_wp2_with fail
      go_round
      case rel => exact ⟨k + 1, by omega, by go_num, by repeat (first | with_reducible exact HW.out | with_reducible refine bel_drewN ?_ _ | with_reducible refine Below.drew ?_)⟩
      case measure => simp [intOf]; omega
    · obtain rfl : k = n := by omega
      have HOr := Lib.hid (row_of HO2.out (fun j hj => hB.block j (row_lt HO2.out hj).2))
      have HUr := Lib.hid (row_of HU.out (fun j hj => hB.block j (row_lt HU.out hj).2))
      have hBB := HBX.out.trans (hB.mono HBX.out.size)
      have HBr := Lib.hid hBB
      have PA2 := Lib.hid (print_any A2 k c2 L2 wr (lxs_of_row HUr.out HL2.out) HOK2.out (by omega) (HT.out.1.later hBB HT.out.2.2) (Nat.le_trans HT.out.2.2 hBB.size))
      rw [HP.out] at PA2
      clear hB hBB
      go_wp2_with fail
      refine PA2.out.mono ?_
      rintro e w4 ⟨rfl, hb⟩
      have hBB := HBr.out.trans (hb.mono HBr.out.size)
      have HB4 := Lib.hid hBB
      have hO4 := row_of HOr.out (fun j hj => hb.block j (row_lt HOr.out hj).2)
      have PA3 := Lib.hid (print_any A k c L w4 (lxs_of_row hO4 HL1.out) HOK1.out (by omega) (HT.out.1.later hBB HT.out.2.2) (Nat.le_trans HT.out.2.2 hBB.size))
      rw [← HTT.out] at PA3
      clear hb hBB hO4
      go_wp2_with fail
      refine PA3.out.mono ?_
      rintro e w5 ⟨rfl, hb⟩
      have HBB := Lib.hid (HB4.out.trans (hb.mono HB4.out.size))
      clear hb
      go_wp2_with fail
      refine (AW.out _ HBB.out).mono ?_
      rintro e w9 ⟨rfl, hb⟩
      go_wp2_with fail
      go_ret
      exact ⟨rfl, hb⟩

theorem own : ownKnob Tryd.prog.godebug = none := by kernel_rfl
theorem laidOut : laidOutB Tryd.prog = true := by kernel_rfl
theorem gPow : Tryd.prog.globalNamed "internal/strconv.uint64pow10" = some 0 := by kernel_rfl
theorem gPowType : (Tryd.prog.globals[0]?).map (·.type) = some 105 := by kernel_rfl
theorem cellsPow : Tryd.prog.cellsOf 105 = 20 := by kernel_rfl
theorem cellsU64 : Tryd.prog.cellsOf 85 = 1 := by kernel_rfl
theorem gTab : Tryd.prog.globalNamed "math/bits.deBruijn64tab" = some 5 := by kernel_rfl
theorem gTabType : (Tryd.prog.globals[5]?).map (·.type) = some 122 := by kernel_rfl
theorem cellsTab : Tryd.prog.cellsOf 122 = 64 := by kernel_rfl
theorem cellsOne : Tryd.prog.cellsOf 5 = 1 := by kernel_rfl
theorem star : "*" ++ "errors.errorString" = "*errors.errorString" := by decide
theorem rowES (u : TypeId) (h : Tryd.prog.typeName? 3 u = some "*errors.errorString") : u = 123 :=
  typeName_ptr_named (nm := "errors.errorString") (by rw [star]; kernel_rfl) (by kernel_rfl) (by decide) u (by rw [star]; exact h)
theorem gSyn : Tryd.prog.globalNamed "strconv.ErrSyntax" = some 2 := by kernel_rfl
theorem gRan : Tryd.prog.globalNamed "strconv.ErrRange" = some 3 := by kernel_rfl
theorem table {W : World} (h : laidMetH Tryd.prog Rows.lexerRoundTripRow.laid W) : Pow W ∧ Errs W ∧ 5 ≤ W.heap.size := by
  rw [MakeChecks.laidMetH_plain _ _ _ (by kernel_rfl)] at h
  have h1 := h
  have hp : Pow W := Lib.tabIs_of_head (k := .u64) (zs := Lib.pow10Tab) gPow gPowType Tryd.underlying105 Tryd.underlying85 cellsU64 cellsPow h1.tail.tail
  have hr := h.tail.tail.tail
  have hy := hr.tail
  have hroom : 5 ≤ W.heap.size := by
    have hc := (Lib.tabIs_of_head (k := .u8) (zs := [0, 1, 56, 2, 57, 49, 28, 3, 61, 58, 42, 50, 38, 29, 17, 4, 62, 47, 59, 36, 45, 43, 51, 22, 53, 39, 33, 30, 24, 18, 12, 5, 63, 55, 48, 27, 60, 41, 37, 16, 46, 35, 44, 21, 52, 32, 23, 11, 54, 26, 40, 15, 34, 20, 31, 10, 25, 14, 19, 9, 13, 8, 7, 6]) gTab gTabType Tryd.underlying122 Tryd.underlying5 cellsOne cellsTab h.tail).cell gTab 15 (by decide)
    rcases Nat.lt_or_ge 5 W.heap.size with hl | hl
    · omega
    · simp [World.cell?, Array.getElem?_eq_none hl] at hc
  refine ⟨hp, ⟨?_, ?_⟩, hroom⟩
  · obtain ⟨a, x, hv, -, -, -⟩ := laid_sentinel hy gSyn (by kernel_rfl) Tryd.underlying70 rowES Tryd.underlying123 Tryd.underlying125 rfl rfl Tryd.underlying9 (by kernel_rfl) (by kernel_rfl)
    exact ⟨_, _, by simpa using World.var?_cell gSyn hv 0⟩
  · obtain ⟨a, x, hv, -, -, -⟩ := laid_sentinel hr gRan (by kernel_rfl) Tryd.underlying70 rowES Tryd.underlying123 Tryd.underlying125 rfl rfl Tryd.underlying9 (by kernel_rfl) (by kernel_rfl)
    exact ⟨_, _, by simpa using World.var?_cell gRan hv 0⟩

noncomputable def laidWorld (os : Os) : World := World.doorLaid Tryd.prog 400 os
theorem laid_met (os : Os) : laidMetH Tryd.prog Rows.lexerRoundTripRow.laid ((laidWorld os).forCall (fun _ _ => 0) ⟨#[], #[.string ⟨#[]⟩], []⟩).memory :=
  laidMetH_of_parts3 (fuel := 8) (laidMet_of_run' 8 (by kernel_rfl) (by kernel_rfl)) (by kernel_rfl) (by kernel_rfl)
theorem reads (os : Os) {H : Type} (enc : TypeId × Value → H) : ∃ places, DataW.whole enc Tryd.prog ((laidWorld os).forCall (fun _ _ => 0) ⟨#[], #[.string ⟨#[]⟩], []⟩).memory Tryd.f7.params.toList Rows.lexerRoundTripSpec.vars false (#[.string ⟨#[]⟩] : Array Value).toList 8 = some ([.lit (.string [])], [], places) :=
  ⟨[], by kernel_rfl⟩
set_option maxRecDepth 100000 in
theorem contract (H : Type) (enc : TypeId × Value → H) (W : World) (base : Nat) (args : Array Value) (ds gs : List (DataW H)) (before : List MemPlace)
    (hval0 : ∀ (j : Nat) t v, Tryd.f7.params[j]? = some t → args[j]? = some v → Value.okWide Tryd.prog W .any base t v)
    (hW : DataW.Whole enc Tryd.prog Tryd.f7.params.toList Rows.lexerRoundTripSpec.vars false W args.toList ds gs before) (hL : laidMetH Tryd.prog Rows.lexerRoundTripRow.laid W) :
    Calls Tryd.prog 7 args W fun e W' => ∃ v, e = .returned v ∧ Rows.lexerRoundTripSpec.post enc Tryd.prog Tryd.f7 false true false false W args v W' := by
  have hval : ∀ (j : Nat) t v, Tryd.f7.params[j]? = some t → args[j]? = some v → Value.okWide Tryd.prog W .any base t v := hval0
  have hW' := hW
  obtain ⟨p, q, hA0, hV, rfl, hfz, hnd⟩ := hW
  have hA : DataW.TrodAll enc Tryd.prog W 0 (fun _ => true) true Tryd.f7.params.toList args.toList ds p := hA0
  rw [Tryd.params7] at hA hval
  obtain ⟨v0, vs0, d0, ds0, p0, q0, hargs, rfl, rfl, h0, r0⟩ := trodAll_cons hA
  obtain ⟨rfl, rfl, rfl⟩ := trodAll_nil r0
  obtain rfl : args = #[v0] := by cases args; simp_all
  obtain ⟨rfl, rfl⟩ := trodVars_none hV
  have k0 := h0
  have lt0 : ∀ x ∈ p0, x.block < W.heap.size := by obtain ⟨m, hm⟩ := k0; exact DataW.trod_lt m _ _ _ hm
  obtain ⟨a0, rfl, -, -, w0⟩ := open_string Tryd.underlying9 (hval 0 9 v0 rfl rfl) h0
  clear hA0 hval0
  refine (walk a0 W w0 (table hL)).mono fun e W' ⟨he, bel⟩ => ?_
  subst he
  exact ⟨_, rfl, _, _, _, [], _, [], hW', trodAll_mk1 (shut_bool Tryd.underlying4 _), (trodAll_cons_mk (Below.trod laidOut (by kernel_rfl) (of_decide_eq_true (by kernel_rfl)) k0 bel lt0) trodAll_mk0), rfl, bel.frame _, fun h => by cases h⟩

set_option maxRecDepth 100000 in
theorem lifted (os : Os) (started : os.Started) (H : Type) (enc : TypeId × Value → H) (F : Stop.Interp) :
    ReturnsInHanded {} Tryd.checked os 7 .any ((OpenSpec.ofChange Rows.lexerRoundTripSpec).preRow enc Tryd.prog Tryd.f7 Rows.lexerRoundTripRow.domain false Rows.lexerRoundTripRow.laid) (((OpenSpec.ofChange Rows.lexerRoundTripSpec).at F).post enc Tryd.prog Tryd.f7 false true false false) := by
  obtain ⟨places, hx⟩ := reads os enc
  refine returnsInHanded_of_row (C := Tryd.checked) (s := OpenSpec.ofChange Rows.lexerRoundTripSpec) own started (by kernel_rfl) Tryd.func7
    (witness_row_at (enc := enc) (C := Tryd.checked) false (laidWorld os) #[.string ⟨#[]⟩] rfl (by kernel_rfl) (by kernel_rfl) (by kernel_rfl)
      (OpenSpec.preRow_of_cond 8 hx (by kernel_rfl) (fun k hk => by cases hk) (by kernel_rfl) (laid_met os))) ?_
  intro W base args ds gs before hval hW _ _ _ hL _ _
  exact contract H enc W base args ds gs before hval hW hL
theorem said : Rows.LexerRoundTripSaid :=
  OpenClaim.holds_of_cond 7 Tryd.f7 rfl rfl rfl rfl rfl rfl rfl ⟨rfl, rfl, rfl, rfl, rfl⟩ rfl rfl rfl rfl rfl (by kernel_rfl) Tryd.func7 (by kernel_rfl)
    (of_decide_eq_true (by kernel_rfl)) (by unfold Func.isWrapper; first | (rw [if_pos (by decide +kernel)]; kernel_rfl) | (rw [if_neg (by decide +kernel)]; exact ⟨rfl, rfl⟩))
    (fun os started H enc _ F => by rw [OpenClaim.pre_eq_preRow]; exact lifted os started H enc F)
/-- No parameter wants a stand-in; the program's own looks are off. -/
theorem plain (f : FuncId) (fn : Func) (hf : Tryd.pinned.checked.prog.funcNamed "cardnet/cardnetlaw08.LexerRoundTrip" = some f) (hfn : Tryd.pinned.checked.prog.funcs[f]? = some fn) :
    true = Tryd.pinned.checked.prog.looks [] ∧ ∀ (j : Nat) t, fn.params[j]? = some t → Tryd.pinned.checked.prog.wantsStandIn t = false := by
  obtain rfl : f = 7 := Option.some.inj ((show Tryd.prog.funcNamed "cardnet/cardnetlaw08.LexerRoundTrip" = some 7 by kernel_rfl).symm.trans hf) |>.symm
  obtain rfl : fn = Tryd.f7 := (Option.some.inj (Tryd.func7.symm.trans hfn)).symm
  refine ⟨by kernel_rfl, fun j t ht => ?_⟩
  rw [Tryd.params7] at ht
  have hm : t ∈ [9] := by simpa using Array.mem_of_getElem? ht
  have hall : ([9].all fun u => !Tryd.prog.wantsStandIn u) = true := by kernel_rfl
  exact (show Tryd.prog.wantsStandIn t = false by simpa using List.all_eq_true.1 hall t hm)
/-- THE CARD: the statement. -/
theorem proved : Rows.LexerRoundTripCardSaid :=
  Claim7.holds_tied_plain_at .later [] _ _ _ _ said (fun _ h => by cases h) (by kernel_rfl) (fun _ h => by cases h) lexerRoundTrip_row_tie rfl ⟨rfl, rfl⟩ (by kernel_rfl) rfl plain (by kernel_rfl)
#print axioms proved
end Go.Proofs.YtklogijbdpghpaaDoor.lexerRoundTrip
