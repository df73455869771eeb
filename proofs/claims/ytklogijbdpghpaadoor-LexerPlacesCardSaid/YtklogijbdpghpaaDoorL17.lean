/-
  THE WALK of LexerPlaces.
-/
import Derived.Test.YtklogijbdpghpaaDoorCards
import Derived.Test.YtklogijbdpghpaaDoorTie
import Derived.WalkKit
import Derived.ProofKit
import Derived.OpenShut
import Derived.ShutString
import Derived.ChangeOld
import Derived.Below
import Derived.Deep.DeepHandedRow
import Derived.Lib.LaidTab
import Derived.LaidMore
import Derived.Stop.LaidErr
import Derived.Stop.Joined
import Derived.LaidHandle
import Derived.Test.YtklogijbdpghpaaDoorLXP
import Derived.Test.YtklogijbdpghpaaDoorL13
namespace Go.Proofs.YtklogijbdpghpaaDoor.lexerPlaces
open Go.ChangeShapes Go.WideShapes Go.ChangeAt Go.RowKit
open Go.ChangeMaps (open_string shut_string)
set_option linter.unusedVariables false
theorem bne_of {a b : Int} (h : a ≠ b) : (a != b) = true := by simp [h]
theorem pre_true (s : ByteArray) (p q : Nat) (h : q ≤ s.size) : Lib.hasPrefix (off s p).data.toList (s.extract p q).data.toList = true := by
  unfold Lib.hasPrefix off
  rw [ByteArray.data_extract, ByteArray.data_extract, Array.toList_extract, Array.toList_extract, List.isPrefixOf_iff_prefix, List.extract_eq_take_drop, List.extract_eq_take_drop]
  have h1 : q - p ≤ s.size - p := by omega
  have : List.take (q - p) (List.drop p s.data.toList) = List.take (q - p) (List.take (s.size - p) (List.drop p s.data.toList)) := by rw [List.take_take, Nat.min_eq_left h1]
  rw [this]
  exact List.take_prefix _ _
set_option maxHeartbeats 6400000 in
set_option maxRecDepth 5000 in
theorem walk (s : ByteArray) (m0 : Int) (w : World) (hs : s.size ≤ maxLen) (hm0 : (Lit.int .u8 m0).wf = true) (hT : Pow w ∧ Errs w ∧ 5 ≤ w.heap.size) : Calls Tryd.prog 8 #[.string s, .int .u8 m0] w fun e w' => e = .returned (.bool true) ∧ Below w.heap.size w w' := by
  have AW : Hid (∀ w', Below w.heap.size w w' → Calls Tryd.prog 9 #[] w' fun e w'' => e = .returned (.bool true) ∧ Below w.heap.size w w'') := Lib.hid fun w' hb => (awake_any w' (hT.2.1.later hb hT.2.2) (Nat.le_trans hT.2.2 hb.size)).mono fun e w'' h => ⟨h.1, hb.trans (h.2.mono hb.size)⟩
  have HT := Lib.hid hT
  clear hT
  obtain ⟨mz, mz2⟩ : 0 ≤ m0 ∧ m0 < 256 := by
    simp [Lit.wf, IntKind.min, IntKind.max, IntKind.signed, IntKind.bits] at hm0
    exact ⟨by omega, by omega⟩
  obtain ⟨m, rfl⟩ := Int.eq_ofNat_of_zero_le mz
  clear hm0
  go_enter Tryd.func8, Tryd.ntmps8
  by_cases h5 : 3000 < s.size
  · have d1 : decide ((3000 : Int) < (s.size : Int)) = true := decide_eq_true (by omega)
    clear h5
    go_wp2_with fail
    refine (AW.out _ (Below.refl _ _)).mono ?_
    rintro e w1 ⟨rfl, hb⟩
    go_wp2
    go_ret
    exact ⟨rfl, hb⟩
  have d1 : decide ((3000 : Int) < (s.size : Int)) = false := decide_eq_false (by omega)
  have SC := Lib.hid (scan_any s (by omega) w HT.out.2.1 HT.out.2.2 (R := scS s) rfl)
  obtain ⟨u, hu⟩ : ∃ u : ByteArray, u = ⟨(Lib.repeatL (⟨#[32]⟩ : ByteArray).data.toList m).toArray⟩ := ⟨_, rfl⟩
  have hul : u.data.toList = List.replicate m 32 := by
    rw [hu]
    show Lib.repeatL (List.replicate 1 32) m = _
    rw [Lib.repeatL_replicate, Nat.mul_one]
  have husz : u.size = m := by
    have : u.data.toList.length = m := by rw [hul, List.length_replicate]
    exact this
  have hub : ∀ k, k < u.size → byt u k = 32 := fun k hk => by
    rw [byt, hul, List.getD_eq_getElem?_getD, List.getElem?_replicate, if_pos (by omega)]
    rfl
  have RP := Lib.hid (fun w => Tryd.strings_Repeat ⟨#[32]⟩ m w (by omega) (by show 1 * m ≤ _; omega))
  rw [← hu] at RP
  have hsu : (s ++ u).size = s.size + m := by rw [ByteArray.size_append, husz]
  have SC2 := Lib.hid (fun w h h5 => scan_any (s ++ u) (by omega) w h h5 (R := scS (s ++ u)) rfl)
  have HS := Lib.hid (scans_app (s := s) hub (by omega))
  have HLN := Lib.hid (scS_len s)
  have hsm : s.size ≤ 3000 := by omega
  have HSU := Lib.hid hsu
  have hwm : IntKind.i64.wrap (m : Int) = (m : Int) := by simp [IntKind.wrap, IntKind.bits, IntKind.signed]; omega
  generalize hR : scS s = R at *
  generalize hR2 : scS (s ++ u) = R2 at *
  obtain ⟨L, e0, q0⟩ := R
  obtain ⟨L2, e2, q2⟩ := R2
  clear hR hR2 hu hul hub hsu h5
  go_wp2_with fail
  refine SC.out.mono ?_
  rintro e w1 ⟨v, rfl, ho, hb⟩
  have HO := Lib.hid ho
  have HB := Lib.hid hb
  clear ho hb d1
  go_wp2_with fail
  refine (RP.out _).mono ?_
  rintro e w2 ⟨rfl, hb⟩
  have HO1 := Lib.hid (row_of HO.out (fun j hj => hb.block j (row_lt HO.out hj).2))
  have HB1 := Lib.hid (HB.out.trans (hb.mono HB.out.size))
  clear hb HO HB
  go_wp2_with fail
  refine (SC2.out _ (HT.out.2.1.later HB1.out HT.out.2.2) (Nat.le_trans HT.out.2.2 HB1.out.size)).mono ?_
  rintro e w3 ⟨v2, rfl, ho, hb⟩
  have HO2 := Lib.hid (row_of HO1.out (fun j hj => hb.block j (row_lt HO1.out hj).2))
  have HU := Lib.hid ho
  have HBX := Lib.hid (HB1.out.trans (hb.mono HB1.out.size))
  clear ho hb HO1 HB1
  obtain ⟨A, c, hv, -, -, -⟩ := row_form HO2.out
  obtain ⟨A2, c2, hv2, -, -, -⟩ := row_form HU.out
  simp only at hv hv2 HO2 HU HLN
  subst hv hv2
  rcases HS.out with ⟨M, h1, h2, h3⟩ | ⟨e, p, h1, h2, h3, h4⟩
  case inr =>
    injection h3 with a1 a2 a3
    injection h4 with b1 b2 b3
    subst a1 a2 a3 b1 b2 b3
    have n1 : (e2 == 0) = false := beq_false_of_ne h1
    have n2 : (e2 != 0) = true := bne_of h1
    have n3 : decide ((q2 : Int) < (s.size : Int)) = true := decide_eq_true (by omega)
    have n4 : decide ((0 : Int) ≤ (q2 : Int)) = true := decide_eq_true (by omega)
    clear h1
    go_wp2_with fail
    refine (AW.out _ HBX.out).mono ?_
    rintro e w4 ⟨rfl, hb⟩
    go_wp2_with fail
    go_ret
    exact ⟨rfl, hb⟩
  injection h1 with a1 a2 a3
  injection h2 with b1 b2 b3
  have HL1 := Lib.hid a1
  have HL2 := Lib.hid b1
  have HAS := Lib.hid h3
  have hn1 : L.length = M.length + 1 := by rw [a1]; simp
  have hn2 : L2.length = M.length + 1 := by rw [b1]; simp
  subst a2 a3 b2 b3
  obtain ⟨n, hnn⟩ : ∃ n, n = M.length + 1 := ⟨_, rfl⟩
  rw [← hnn] at hn1 hn2
  rw [hn1] at HO2 HLN
  rw [hn1, hn2]
  rw [hn2] at HU
  have HLEN := Lib.hid hn1
  have HLEN2 := Lib.hid hn2
  have HN := Lib.hid hnn
  have hNb := HLN.out
  have hw1 : IntKind.i64.wrap ((n : Int) - 1) = (n : Int) - 1 := by simp [IntKind.wrap, IntKind.bits, IntKind.signed]; omega
  clear a1 b1 h3 hn1 hn2 hnn SC RP SC2 HS HT HLN
  go_wp2_with fail
  go_loopw [11] (fun v wr => ∃ k : Nat, k ≤ n ∧ v = .int .i64 (k : Int) ∧ Below w3.heap.size w3 wr) (fun v _ => n - (intOf v).toNat)
  case atStart => exact ⟨0, Nat.zero_le _, rfl, Below.refl _ _⟩
  case round =>
    obtain ⟨k, hk, rfl, hB⟩ := hrel
    have HW := Lib.hid hB
    clear hB
    by_cases hlt : k < n
    · have hx : L[k]? = some (L[k]'(by rw [HLEN.out]; exact hlt)) := List.getElem?_eq_getElem _
      generalize (L[k]'(by rw [HLEN.out]; exact hlt)) = x at hx
      have hAt := Asc.at HAS.out (by rw [← HL1.out]; exact hx)
      have hLt : ∀ j y, k = j + 1 → L[j]? = some y → y.p < x.p := fun j y hj hy => Asc.lt HAS.out (by rw [← HL1.out]; exact hy) (by rw [← HL1.out, ← hj]; exact hx)
      obtain ⟨g, cap, e, -, hgl, hc⟩ := row_cells HO2.out (by omega)
      injection e with e1 e2 e3
      subst e1 e3
      obtain ⟨g2, cap2, e, -, hgl2, hc2⟩ := row_cells HU.out (by omega)
      injection e with e1 e2 e3
      subst e1 e3
      obtain ⟨x0, x1, x2, x3⟩ := lcells_at L hx
      have hgr : g < wr.heap.size := Nat.lt_of_lt_of_le hgl HW.out.size
      have hgr2 : g2 < wr.heap.size := Nat.lt_of_lt_of_le hgl2 HW.out.size
      have p0 : wr.cell? ⟨g, k * 4, none⟩ = some (.int .i64 x.k) := ((HW.out.cell (p := ⟨g, k * 4, none⟩) hgl).trans (hc _ (by omega))).trans x0
      have p1 : wr.cell? ⟨g, k * 4 + 1, none⟩ = some (.string x.t) := ((HW.out.cell (p := ⟨g, k * 4 + 1, none⟩) hgl).trans (hc _ (by omega))).trans x1
      have p2 : wr.cell? ⟨g, k * 4 + 2, none⟩ = some (.int .i64 x.n) := ((HW.out.cell (p := ⟨g, k * 4 + 2, none⟩) hgl).trans (hc _ (by omega))).trans x2
      have p3 : wr.cell? ⟨g, k * 4 + 3, none⟩ = some (.int .i64 x.p) := ((HW.out.cell (p := ⟨g, k * 4 + 3, none⟩) hgl).trans (hc _ (by omega))).trans x3
      obtain ⟨p, hp, -, hps, hpre⟩ := hAt
      obtain ⟨xk, xt, xn, xp⟩ := x
      simp only at hp hpre hLt x0 x1 x2 x3 p0 p1 p2 p3
      subst hp
      have f1 : decide ((p : Int) < 0) = false := decide_eq_false (by omega)
      have f2 : decide ((s.size : Int) < (p : Int)) = false := decide_eq_false (by omega)
      have f2n : decide (s.size < p) = false := decide_eq_false (by omega)
      have f2m : (s.size < p) = False := eq_false (by omega)
      have hsl := fun w => sl_l s p hps (i := (p : Int)) rfl w
      rw [show s.extract p s.size = off s p from rfl] at hsl
      have hkinds : (xk ≠ 1 ∧ xk ≠ 4) ∨ ((xk = 1 ∨ xk = 4) ∧ Lib.hasPrefix (off s p).data.toList xt.data.toList = true) := by
        by_cases h14 : xk = 1 ∨ xk = 4
        · obtain ⟨q, hq1, rfl⟩ := hpre h14
          exact .inr ⟨h14, pre_true s p q hq1⟩
        · exact .inl ⟨fun h => h14 (.inl h), fun h => h14 (.inr h)⟩
      have hsec : (k + 1 < n ∧ L2[k]? = some ⟨xk, xt, xn, p⟩) ∨ (k + 1 = n ∧ xk = 0 ∧ p = s.size ∧ L2[k]? = some ⟨0, ⟨#[]⟩, 0, ((s.size : Int) + (m : Int))⟩) := by
        have hN := HN.out
        by_cases hkN : k < M.length
        · left
          refine ⟨by omega, ?_⟩
          rw [HL1.out, List.getElem?_append_left hkN] at hx
          rw [HL2.out, List.getElem?_append_left hkN]
          exact hx
        · obtain rfl : k = M.length := by omega
          right
          rw [HL1.out, List.getElem?_append_right (Nat.le_refl _), Nat.sub_self] at hx
          rw [HL2.out, List.getElem?_append_right (Nat.le_refl _), Nat.sub_self]
          simp only [endL, List.getElem?_cons_zero, Option.some.injEq, Lx.mk.injEq] at hx
          refine ⟨by omega, hx.1.symm, by omega, ?_⟩
          simp only [endL, List.getElem?_cons_zero]
          rw [HSU.out]
          rfl
      have hfirst : k = 0 ∨ ∃ j, k = j + 1 ∧ ∃ yp, wr.cell? ⟨g, j * 4 + 3, none⟩ = some (.int .i64 yp) ∧ decide ((p : Int) ≤ yp) = false := by
        rcases Nat.eq_zero_or_pos k with h | h
        · exact .inl h
        · right
          obtain ⟨j, rfl⟩ : ∃ j, k = j + 1 := ⟨k - 1, by omega⟩
          have hy : L[j]? = some (L[j]'(by rw [HLEN.out]; omega)) := List.getElem?_eq_getElem _
          generalize (L[j]'(by rw [HLEN.out]; omega)) = y at hy
          exact ⟨j, rfl, y.p, ((HW.out.cell (p := ⟨g, j * 4 + 3, none⟩) hgl).trans (hc _ (by omega))).trans (lcells_at L hy).2.2.2, decide_eq_false (by have := hLt j y rfl hy; omega)⟩
      clear hx hLt hpre x0 x1 x2 x3 hc
      have hz0 : ∀ {a b : Int}, a ≠ b → (a == b) = false := fun h => beq_false_of_ne h
      rcases hsec with ⟨hkN, hx2⟩ | ⟨hkE, rfl, rfl, hx2⟩
      · have dN : decide ((k : Int) < (n : Int) - 1) = true := decide_eq_true (by omega)
        have eN : ((k : Int) == (n : Int) - 1) = false := beq_false_of_ne (by omega)
        obtain ⟨y0, y1, y2, y3⟩ := lcells_at L2 hx2
        simp only at y0 y1 y2 y3
        have q0 : wr.cell? ⟨g2, k * 4, none⟩ = some (.int .i64 xk) := ((HW.out.cell (p := ⟨g2, k * 4, none⟩) hgl2).trans (hc2 _ (by omega))).trans y0
        have q1 : wr.cell? ⟨g2, k * 4 + 1, none⟩ = some (.string xt) := ((HW.out.cell (p := ⟨g2, k * 4 + 1, none⟩) hgl2).trans (hc2 _ (by omega))).trans y1
        have q2 : wr.cell? ⟨g2, k * 4 + 2, none⟩ = some (.int .i64 xn) := ((HW.out.cell (p := ⟨g2, k * 4 + 2, none⟩) hgl2).trans (hc2 _ (by omega))).trans y2
        have q3 : wr.cell? ⟨g2, k * 4 + 3, none⟩ = some (.int .i64 (p : Int)) := ((HW.out.cell (p := ⟨g2, k * 4 + 3, none⟩) hgl2).trans (hc2 _ (by omega))).trans y3
        clear hc2 hx2 y0 y1 y2 y3 hz0
        rcases hkinds with ⟨hk1, hk4⟩ | ⟨rfl | rfl, hpf⟩
        · have e1 : (xk == 1) = false := beq_false_of_ne hk1
          have e4 : (xk == 4) = false := beq_false_of_ne hk4
          clear hk1 hk4
          rcases hfirst with hk0 | ⟨j, rfl, yp, r3, f3⟩
          · have z1 : decide ((0 : Int) < (k : Int)) = false := decide_eq_false (by omega)
            have z2 : decide (0 < k) = false := decide_eq_false (by omega)
            clear hk0
            go_wp2_with fail
            have hX : Blk (wr.alloc (.cells #[.int .i64 xk, .string xt, .int .i64 xn, .int .i64 (p : Int)] 30)) wr.heap.size 30 #[.int .i64 xk, .string xt, .int .i64 xn, .int .i64 (p : Int)] := Blk.new _ _ _
            have hBV : Below wr.heap.size wr (wr.alloc (.cells #[.int .i64 xk, .string xt, .int .i64 xn, .int .i64 (p : Int)] 30)) := (Below.refl _ _).alloc (Nat.le_refl _) _
            have HBV : Hid (Below w3.heap.size w3 (wr.alloc (.cells #[.int .i64 xk, .string xt, .int .i64 xn, .int .i64 (p : Int)] 30))) := Lib.hid (HW.out.trans (hBV.mono HW.out.size))
            replace p0 := (hBV.cell hgr).trans p0
            replace p1 := (hBV.cell hgr).trans p1
            replace p2 := (hBV.cell hgr).trans p2
            replace p3 := (hBV.cell hgr).trans p3
            replace q0 := (hBV.cell hgr2).trans q0
            replace q1 := (hBV.cell hgr2).trans q1
            replace q2 := (hBV.cell hgr2).trans q2
            replace q3 := (hBV.cell hgr2).trans q3
            have x0 : (wr.alloc (.cells #[.int .i64 xk, .string xt, .int .i64 xn, .int .i64 (p : Int)] 30)).cell? ⟨wr.heap.size, 0, none⟩ = some (.int .i64 xk) := hX.cell 0
            have x1 : (wr.alloc (.cells #[.int .i64 xk, .string xt, .int .i64 xn, .int .i64 (p : Int)] 30)).cell? ⟨wr.heap.size, 1, none⟩ = some (.string xt) := hX.cell 1
            have x2 : (wr.alloc (.cells #[.int .i64 xk, .string xt, .int .i64 xn, .int .i64 (p : Int)] 30)).cell? ⟨wr.heap.size, 2, none⟩ = some (.int .i64 xn) := hX.cell 2
            have x3 : (wr.alloc (.cells #[.int .i64 xk, .string xt, .int .i64 xn, .int .i64 (p : Int)] 30)).cell? ⟨wr.heap.size, 3, none⟩ = some (.int .i64 (p : Int)) := hX.cell 3
            have xl := hX.lt
            clear hBV hX
            generalize wr.alloc (.cells #[.int .i64 xk, .string xt, .int .i64 xn, .int .i64 (p : Int)] 30) = V, wr.heap.size = X at *
            go_quiet ((go_at_call 28; exact Calls.quiet_of_same (Tryd.strings_HasPrefix _ _ _)))
            go_wp2_with fail
            go_quiet (fail)
            go_wp2_with fail
            go_round
            case rel => exact ⟨k + 1, by omega, by go_num, by repeat (first | with_reducible exact HBV.out | with_reducible refine bel_drewN ?_ _ | with_reducible refine Below.drew ?_ | with_reducible refine bel_alloc ?_ (Nat.le_refl _) _)⟩
            case measure => simp [intOf]; omega
          · have hjb : j < n := by omega
            have hjb3 : (j : Int) < (n : Int) := by omega
            have hjb4 : (0 : Int) ≤ (j : Int) := by omega
            have dN2 : decide ((j : Int) + 1 < (n : Int) - 1) = true := decide_eq_true (by have := of_decide_eq_true dN; omega)
            have eN2 : ((j : Int) + 1 == (n : Int) - 1) = false := beq_false_of_ne (by have := of_decide_eq_true dN; omega)
            clear dN eN
            have hjw2 : IntKind.i64.wrap (j : Int) = (j : Int) := by simp [IntKind.wrap, IntKind.bits, IntKind.signed]; omega
            go_wp2_with fail
            have hX : Blk (wr.alloc (.cells #[.int .i64 xk, .string xt, .int .i64 xn, .int .i64 (p : Int)] 30)) wr.heap.size 30 #[.int .i64 xk, .string xt, .int .i64 xn, .int .i64 (p : Int)] := Blk.new _ _ _
            have hBV : Below wr.heap.size wr (wr.alloc (.cells #[.int .i64 xk, .string xt, .int .i64 xn, .int .i64 (p : Int)] 30)) := (Below.refl _ _).alloc (Nat.le_refl _) _
            have HBV : Hid (Below w3.heap.size w3 (wr.alloc (.cells #[.int .i64 xk, .string xt, .int .i64 xn, .int .i64 (p : Int)] 30))) := Lib.hid (HW.out.trans (hBV.mono HW.out.size))
            replace p0 := (hBV.cell hgr).trans p0
            replace p1 := (hBV.cell hgr).trans p1
            replace p2 := (hBV.cell hgr).trans p2
            replace p3 := (hBV.cell hgr).trans p3
            replace q0 := (hBV.cell hgr2).trans q0
            replace q1 := (hBV.cell hgr2).trans q1
            replace q2 := (hBV.cell hgr2).trans q2
            replace q3 := (hBV.cell hgr2).trans q3
            replace r3 := (hBV.cell hgr).trans r3
            have x0 : (wr.alloc (.cells #[.int .i64 xk, .string xt, .int .i64 xn, .int .i64 (p : Int)] 30)).cell? ⟨wr.heap.size, 0, none⟩ = some (.int .i64 xk) := hX.cell 0
            have x1 : (wr.alloc (.cells #[.int .i64 xk, .string xt, .int .i64 xn, .int .i64 (p : Int)] 30)).cell? ⟨wr.heap.size, 1, none⟩ = some (.string xt) := hX.cell 1
            have x2 : (wr.alloc (.cells #[.int .i64 xk, .string xt, .int .i64 xn, .int .i64 (p : Int)] 30)).cell? ⟨wr.heap.size, 2, none⟩ = some (.int .i64 xn) := hX.cell 2
            have x3 : (wr.alloc (.cells #[.int .i64 xk, .string xt, .int .i64 xn, .int .i64 (p : Int)] 30)).cell? ⟨wr.heap.size, 3, none⟩ = some (.int .i64 (p : Int)) := hX.cell 3
            have xl := hX.lt
            clear hBV hX
            generalize wr.alloc (.cells #[.int .i64 xk, .string xt, .int .i64 xn, .int .i64 (p : Int)] 30) = V, wr.heap.size = X at *
            go_quiet ((go_at_call 28; exact Calls.quiet_of_same (Tryd.strings_HasPrefix _ _ _)))
            go_wp2_with fail
            go_quiet (fail)
            go_wp2_with fail
            go_round
            case rel => exact ⟨(j + 1) + 1, by omega, by go_num, by repeat (first | with_reducible exact HBV.out | with_reducible refine bel_drewN ?_ _ | with_reducible refine Below.drew ?_ | with_reducible refine bel_alloc ?_ (Nat.le_refl _) _)⟩
            case measure => simp [intOf]; omega
        · rcases hfirst with hk0 | ⟨j, rfl, yp, r3, f3⟩
          · have z1 : decide ((0 : Int) < (k : Int)) = false := decide_eq_false (by omega)
            have z2 : decide (0 < k) = false := decide_eq_false (by omega)
            clear hk0
            go_wp2_with fail
            have hX : Blk (wr.alloc (.cells #[.int .i64 1, .string xt, .int .i64 xn, .int .i64 (p : Int)] 30)) wr.heap.size 30 #[.int .i64 1, .string xt, .int .i64 xn, .int .i64 (p : Int)] := Blk.new _ _ _
            have hBV : Below wr.heap.size wr (wr.alloc (.cells #[.int .i64 1, .string xt, .int .i64 xn, .int .i64 (p : Int)] 30)) := (Below.refl _ _).alloc (Nat.le_refl _) _
            have HBV : Hid (Below w3.heap.size w3 (wr.alloc (.cells #[.int .i64 1, .string xt, .int .i64 xn, .int .i64 (p : Int)] 30))) := Lib.hid (HW.out.trans (hBV.mono HW.out.size))
            replace p0 := (hBV.cell hgr).trans p0
            replace p1 := (hBV.cell hgr).trans p1
            replace p2 := (hBV.cell hgr).trans p2
            replace p3 := (hBV.cell hgr).trans p3
            replace q0 := (hBV.cell hgr2).trans q0
            replace q1 := (hBV.cell hgr2).trans q1
            replace q2 := (hBV.cell hgr2).trans q2
            replace q3 := (hBV.cell hgr2).trans q3
            have x0 : (wr.alloc (.cells #[.int .i64 1, .string xt, .int .i64 xn, .int .i64 (p : Int)] 30)).cell? ⟨wr.heap.size, 0, none⟩ = some (.int .i64 1) := hX.cell 0
            have x1 : (wr.alloc (.cells #[.int .i64 1, .string xt, .int .i64 xn, .int .i64 (p : Int)] 30)).cell? ⟨wr.heap.size, 1, none⟩ = some (.string xt) := hX.cell 1
            have x2 : (wr.alloc (.cells #[.int .i64 1, .string xt, .int .i64 xn, .int .i64 (p : Int)] 30)).cell? ⟨wr.heap.size, 2, none⟩ = some (.int .i64 xn) := hX.cell 2
            have x3 : (wr.alloc (.cells #[.int .i64 1, .string xt, .int .i64 xn, .int .i64 (p : Int)] 30)).cell? ⟨wr.heap.size, 3, none⟩ = some (.int .i64 (p : Int)) := hX.cell 3
            have xl := hX.lt
            clear hBV hX
            generalize wr.alloc (.cells #[.int .i64 1, .string xt, .int .i64 xn, .int .i64 (p : Int)] 30) = V, wr.heap.size = X at *
            go_quiet ((go_at_call 28; exact Calls.quiet_of_same (Tryd.strings_HasPrefix _ _ _)))
            go_wp2_with fail
            go_quiet (fail)
            go_wp2_with fail
            go_round
            case rel => exact ⟨k + 1, by omega, by go_num, by repeat (first | with_reducible exact HBV.out | with_reducible refine bel_drewN ?_ _ | with_reducible refine Below.drew ?_ | with_reducible refine bel_alloc ?_ (Nat.le_refl _) _)⟩
            case measure => simp [intOf]; omega
          · have hjb : j < n := by omega
            have hjb3 : (j : Int) < (n : Int) := by omega
            have hjb4 : (0 : Int) ≤ (j : Int) := by omega
            have dN2 : decide ((j : Int) + 1 < (n : Int) - 1) = true := decide_eq_true (by have := of_decide_eq_true dN; omega)
            have eN2 : ((j : Int) + 1 == (n : Int) - 1) = false := beq_false_of_ne (by have := of_decide_eq_true dN; omega)
            clear dN eN
            have hjw2 : IntKind.i64.wrap (j : Int) = (j : Int) := by simp [IntKind.wrap, IntKind.bits, IntKind.signed]; omega
            go_wp2_with fail
            have hX : Blk (wr.alloc (.cells #[.int .i64 1, .string xt, .int .i64 xn, .int .i64 (p : Int)] 30)) wr.heap.size 30 #[.int .i64 1, .string xt, .int .i64 xn, .int .i64 (p : Int)] := Blk.new _ _ _
            have hBV : Below wr.heap.size wr (wr.alloc (.cells #[.int .i64 1, .string xt, .int .i64 xn, .int .i64 (p : Int)] 30)) := (Below.refl _ _).alloc (Nat.le_refl _) _
            have HBV : Hid (Below w3.heap.size w3 (wr.alloc (.cells #[.int .i64 1, .string xt, .int .i64 xn, .int .i64 (p : Int)] 30))) := Lib.hid (HW.out.trans (hBV.mono HW.out.size))
            replace p0 := (hBV.cell hgr).trans p0
            replace p1 := (hBV.cell hgr).trans p1
            replace p2 := (hBV.cell hgr).trans p2
            replace p3 := (hBV.cell hgr).trans p3
            replace q0 := (hBV.cell hgr2).trans q0
            replace q1 := (hBV.cell hgr2).trans q1
            replace q2 := (hBV.cell hgr2).trans q2
            replace q3 := (hBV.cell hgr2).trans q3
            replace r3 := (hBV.cell hgr).trans r3
            have x0 : (wr.alloc (.cells #[.int .i64 1, .string xt, .int .i64 xn, .int .i64 (p : Int)] 30)).cell? ⟨wr.heap.size, 0, none⟩ = some (.int .i64 1) := hX.cell 0
            have x1 : (wr.alloc (.cells #[.int .i64 1, .string xt, .int .i64 xn, .int .i64 (p : Int)] 30)).cell? ⟨wr.heap.size, 1, none⟩ = some (.string xt) := hX.cell 1
            have x2 : (wr.alloc (.cells #[.int .i64 1, .string xt, .int .i64 xn, .int .i64 (p : Int)] 30)).cell? ⟨wr.heap.size, 2, none⟩ = some (.int .i64 xn) := hX.cell 2
            have x3 : (wr.alloc (.cells #[.int .i64 1, .string xt, .int .i64 xn, .int .i64 (p : Int)] 30)).cell? ⟨wr.heap.size, 3, none⟩ = some (.int .i64 (p : Int)) := hX.cell 3
            have xl := hX.lt
            clear hBV hX
            generalize wr.alloc (.cells #[.int .i64 1, .string xt, .int .i64 xn, .int .i64 (p : Int)] 30) = V, wr.heap.size = X at *
            go_quiet ((go_at_call 28; exact Calls.quiet_of_same (Tryd.strings_HasPrefix _ _ _)))
            go_wp2_with fail
            go_quiet (fail)
            go_wp2_with fail
            go_round
            case rel => exact ⟨(j + 1) + 1, by omega, by go_num, by repeat (first | with_reducible exact HBV.out | with_reducible refine bel_drewN ?_ _ | with_reducible refine Below.drew ?_ | with_reducible refine bel_alloc ?_ (Nat.le_refl _) _)⟩
            case measure => simp [intOf]; omega
        · rcases hfirst with hk0 | ⟨j, rfl, yp, r3, f3⟩
          · have z1 : decide ((0 : Int) < (k : Int)) = false := decide_eq_false (by omega)
            have z2 : decide (0 < k) = false := decide_eq_false (by omega)
            clear hk0
            go_wp2_with fail
            have hX : Blk (wr.alloc (.cells #[.int .i64 4, .string xt, .int .i64 xn, .int .i64 (p : Int)] 30)) wr.heap.size 30 #[.int .i64 4, .string xt, .int .i64 xn, .int .i64 (p : Int)] := Blk.new _ _ _
            have hBV : Below wr.heap.size wr (wr.alloc (.cells #[.int .i64 4, .string xt, .int .i64 xn, .int .i64 (p : Int)] 30)) := (Below.refl _ _).alloc (Nat.le_refl _) _
            have HBV : Hid (Below w3.heap.size w3 (wr.alloc (.cells #[.int .i64 4, .string xt, .int .i64 xn, .int .i64 (p : Int)] 30))) := Lib.hid (HW.out.trans (hBV.mono HW.out.size))
            replace p0 := (hBV.cell hgr).trans p0
            replace p1 := (hBV.cell hgr).trans p1
            replace p2 := (hBV.cell hgr).trans p2
            replace p3 := (hBV.cell hgr).trans p3
            replace q0 := (hBV.cell hgr2).trans q0
            replace q1 := (hBV.cell hgr2).trans q1
            replace q2 := (hBV.cell hgr2).trans q2
            replace q3 := (hBV.cell hgr2).trans q3
            have x0 : (wr.alloc (.cells #[.int .i64 4, .string xt, .int .i64 xn, .int .i64 (p : Int)] 30)).cell? ⟨wr.heap.size, 0, none⟩ = some (.int .i64 4) := hX.cell 0
            have x1 : (wr.alloc (.cells #[.int .i64 4, .string xt, .int .i64 xn, .int .i64 (p : Int)] 30)).cell? ⟨wr.heap.size, 1, none⟩ = some (.string xt) := hX.cell 1
            have x2 : (wr.alloc (.cells #[.int .i64 4, .string xt, .int .i64 xn, .int .i64 (p : Int)] 30)).cell? ⟨wr.heap.size, 2, none⟩ = some (.int .i64 xn) := hX.cell 2
            have x3 : (wr.alloc (.cells #[.int .i64 4, .string xt, .int .i64 xn, .int .i64 (p : Int)] 30)).cell? ⟨wr.heap.size, 3, none⟩ = some (.int .i64 (p : Int)) := hX.cell 3
            have xl := hX.lt
            clear hBV hX
            generalize wr.alloc (.cells #[.int .i64 4, .string xt, .int .i64 xn, .int .i64 (p : Int)] 30) = V, wr.heap.size = X at *
            go_quiet ((go_at_call 28; exact Calls.quiet_of_same (Tryd.strings_HasPrefix _ _ _)))
            go_wp2_with fail
            go_quiet (fail)
            go_wp2_with fail
            go_round
            case rel => exact ⟨k + 1, by omega, by go_num, by repeat (first | with_reducible exact HBV.out | with_reducible refine bel_drewN ?_ _ | with_reducible refine Below.drew ?_ | with_reducible refine bel_alloc ?_ (Nat.le_refl _) _)⟩
            case measure => simp [intOf]; omega
          · have hjb : j < n := by omega
            have hjb3 : (j : Int) < (n : Int) := by omega
            have hjb4 : (0 : Int) ≤ (j : Int) := by omega
            have dN2 : decide ((j : Int) + 1 < (n : Int) - 1) = true := decide_eq_true (by have := of_decide_eq_true dN; omega)
            have eN2 : ((j : Int) + 1 == (n : Int) - 1) = false := beq_false_of_ne (by have := of_decide_eq_true dN; omega)
            clear dN eN
            have hjw2 : IntKind.i64.wrap (j : Int) = (j : Int) := by simp [IntKind.wrap, IntKind.bits, IntKind.signed]; omega
            go_wp2_with fail
            have hX : Blk (wr.alloc (.cells #[.int .i64 4, .string xt, .int .i64 xn, .int .i64 (p : Int)] 30)) wr.heap.size 30 #[.int .i64 4, .string xt, .int .i64 xn, .int .i64 (p : Int)] := Blk.new _ _ _
            have hBV : Below wr.heap.size wr (wr.alloc (.cells #[.int .i64 4, .string xt, .int .i64 xn, .int .i64 (p : Int)] 30)) := (Below.refl _ _).alloc (Nat.le_refl _) _
            have HBV : Hid (Below w3.heap.size w3 (wr.alloc (.cells #[.int .i64 4, .string xt, .int .i64 xn, .int .i64 (p : Int)] 30))) := Lib.hid (HW.out.trans (hBV.mono HW.out.size))
            replace p0 := (hBV.cell hgr).trans p0
            replace p1 := (hBV.cell hgr).trans p1
            replace p2 := (hBV.cell hgr).trans p2
            replace p3 := (hBV.cell hgr).trans p3
            replace q0 := (hBV.cell hgr2).trans q0
            replace q1 := (hBV.cell hgr2).trans q1
            replace q2 := (hBV.cell hgr2).trans q2
            replace q3 := (hBV.cell hgr2).trans q3
            replace r3 := (hBV.cell hgr).trans r3
            have x0 : (wr.alloc (.cells #[.int .i64 4, .string xt, .int .i64 xn, .int .i64 (p : Int)] 30)).cell? ⟨wr.heap.size, 0, none⟩ = some (.int .i64 4) := hX.cell 0
            have x1 : (wr.alloc (.cells #[.int .i64 4, .string xt, .int .i64 xn, .int .i64 (p : Int)] 30)).cell? ⟨wr.heap.size, 1, none⟩ = some (.string xt) := hX.cell 1
            have x2 : (wr.alloc (.cells #[.int .i64 4, .string xt, .int .i64 xn, .int .i64 (p : Int)] 30)).cell? ⟨wr.heap.size, 2, none⟩ = some (.int .i64 xn) := hX.cell 2
            have x3 : (wr.alloc (.cells #[.int .i64 4, .string xt, .int .i64 xn, .int .i64 (p : Int)] 30)).cell? ⟨wr.heap.size, 3, none⟩ = some (.int .i64 (p : Int)) := hX.cell 3
            have xl := hX.lt
            clear hBV hX
            generalize wr.alloc (.cells #[.int .i64 4, .string xt, .int .i64 xn, .int .i64 (p : Int)] 30) = V, wr.heap.size = X at *
            go_quiet ((go_at_call 28; exact Calls.quiet_of_same (Tryd.strings_HasPrefix _ _ _)))
            go_wp2_with fail
            go_quiet (fail)
            go_wp2_with fail
            go_round
            case rel => exact ⟨(j + 1) + 1, by omega, by go_num, by repeat (first | with_reducible exact HBV.out | with_reducible refine bel_drewN ?_ _ | with_reducible refine Below.drew ?_ | with_reducible refine bel_alloc ?_ (Nat.le_refl _) _)⟩
            case measure => simp [intOf]; omega
      · have hsub : (n : Int) - 1 = (k : Int) := by omega
        have hwk : IntKind.i64.wrap (k : Int) = (k : Int) := by simp [IntKind.wrap, IntKind.bits, IntKind.signed]; omega
        obtain ⟨y0, y1, y2, y3⟩ := lcells_at L2 hx2
        simp only at y0 y1 y2 y3
        have q0 : wr.cell? ⟨g2, k * 4, none⟩ = some (.int .i64 0) := ((HW.out.cell (p := ⟨g2, k * 4, none⟩) hgl2).trans (hc2 _ (by omega))).trans y0
        have q3 : wr.cell? ⟨g2, k * 4 + 3, none⟩ = some (.int .i64 ((s.size : Int) + (m : Int))) := ((HW.out.cell (p := ⟨g2, k * 4 + 3, none⟩) hgl2).trans (hc2 _ (by omega))).trans y3
        clear hc2 hx2 y0 y1 y2 y3 hkinds hz0
        rcases hfirst with hk0 | ⟨j, rfl, yp, r3, f3⟩
        · have z1 : decide ((0 : Int) < (k : Int)) = false := decide_eq_false (by omega)
          have z2 : decide (0 < k) = false := decide_eq_false (by omega)
          clear hk0
          go_wp2_with fail
          have hX : Blk (wr.alloc (.cells #[.int .i64 0, .string xt, .int .i64 xn, .int .i64 (s.size : Int)] 30)) wr.heap.size 30 #[.int .i64 0, .string xt, .int .i64 xn, .int .i64 (s.size : Int)] := Blk.new _ _ _
          have hBV : Below wr.heap.size wr (wr.alloc (.cells #[.int .i64 0, .string xt, .int .i64 xn, .int .i64 (s.size : Int)] 30)) := (Below.refl _ _).alloc (Nat.le_refl _) _
          have HBV : Hid (Below w3.heap.size w3 (wr.alloc (.cells #[.int .i64 0, .string xt, .int .i64 xn, .int .i64 (s.size : Int)] 30))) := Lib.hid (HW.out.trans (hBV.mono HW.out.size))
          replace p0 := (hBV.cell hgr).trans p0
          replace p1 := (hBV.cell hgr).trans p1
          replace p2 := (hBV.cell hgr).trans p2
          replace p3 := (hBV.cell hgr).trans p3
          replace q0 := (hBV.cell hgr2).trans q0
          replace q3 := (hBV.cell hgr2).trans q3
          have x0 : (wr.alloc (.cells #[.int .i64 0, .string xt, .int .i64 xn, .int .i64 (s.size : Int)] 30)).cell? ⟨wr.heap.size, 0, none⟩ = some (.int .i64 0) := hX.cell 0
          have x1 : (wr.alloc (.cells #[.int .i64 0, .string xt, .int .i64 xn, .int .i64 (s.size : Int)] 30)).cell? ⟨wr.heap.size, 1, none⟩ = some (.string xt) := hX.cell 1
          have x2 : (wr.alloc (.cells #[.int .i64 0, .string xt, .int .i64 xn, .int .i64 (s.size : Int)] 30)).cell? ⟨wr.heap.size, 2, none⟩ = some (.int .i64 xn) := hX.cell 2
          have x3 : (wr.alloc (.cells #[.int .i64 0, .string xt, .int .i64 xn, .int .i64 (s.size : Int)] 30)).cell? ⟨wr.heap.size, 3, none⟩ = some (.int .i64 (s.size : Int)) := hX.cell 3
          have xl := hX.lt
          clear hBV hX
          generalize wr.alloc (.cells #[.int .i64 0, .string xt, .int .i64 xn, .int .i64 (s.size : Int)] 30) = V, wr.heap.size = X at *
          go_quiet ((go_at_call 28; exact Calls.quiet_of_same (Tryd.strings_HasPrefix _ _ _)))
          go_wp2_with fail
          go_quiet (fail)
          go_wp2_with fail
          go_round
          case rel => exact ⟨k + 1, by omega, by go_num, by repeat (first | with_reducible exact HBV.out | with_reducible refine bel_drewN ?_ _ | with_reducible refine Below.drew ?_ | with_reducible refine bel_alloc ?_ (Nat.le_refl _) _)⟩
          case measure => simp [intOf]; omega
        · have hjb : j < n := by omega
          have hjb3 : (j : Int) < (n : Int) := by omega
          have hjb4 : (0 : Int) ≤ (j : Int) := by omega
          have hsub2 : (n : Int) - 1 = (j : Int) + 1 := by omega
          have hwk2 : IntKind.i64.wrap ((j : Int) + 1) = (j : Int) + 1 := by simp [IntKind.wrap, IntKind.bits, IntKind.signed]; omega
          clear hsub hwk
          have hjw2 : IntKind.i64.wrap (j : Int) = (j : Int) := by simp [IntKind.wrap, IntKind.bits, IntKind.signed]; omega
          go_wp2_with fail
          have hX : Blk (wr.alloc (.cells #[.int .i64 0, .string xt, .int .i64 xn, .int .i64 (s.size : Int)] 30)) wr.heap.size 30 #[.int .i64 0, .string xt, .int .i64 xn, .int .i64 (s.size : Int)] := Blk.new _ _ _
          have hBV : Below wr.heap.size wr (wr.alloc (.cells #[.int .i64 0, .string xt, .int .i64 xn, .int .i64 (s.size : Int)] 30)) := (Below.refl _ _).alloc (Nat.le_refl _) _
          have HBV : Hid (Below w3.heap.size w3 (wr.alloc (.cells #[.int .i64 0, .string xt, .int .i64 xn, .int .i64 (s.size : Int)] 30))) := Lib.hid (HW.out.trans (hBV.mono HW.out.size))
          replace p0 := (hBV.cell hgr).trans p0
          replace p1 := (hBV.cell hgr).trans p1
          replace p2 := (hBV.cell hgr).trans p2
          replace p3 := (hBV.cell hgr).trans p3
          replace q0 := (hBV.cell hgr2).trans q0
          replace q3 := (hBV.cell hgr2).trans q3
          replace r3 := (hBV.cell hgr).trans r3
          have x0 : (wr.alloc (.cells #[.int .i64 0, .string xt, .int .i64 xn, .int .i64 (s.size : Int)] 30)).cell? ⟨wr.heap.size, 0, none⟩ = some (.int .i64 0) := hX.cell 0
          have x1 : (wr.alloc (.cells #[.int .i64 0, .string xt, .int .i64 xn, .int .i64 (s.size : Int)] 30)).cell? ⟨wr.heap.size, 1, none⟩ = some (.string xt) := hX.cell 1
          have x2 : (wr.alloc (.cells #[.int .i64 0, .string xt, .int .i64 xn, .int .i64 (s.size : Int)] 30)).cell? ⟨wr.heap.size, 2, none⟩ = some (.int .i64 xn) := hX.cell 2
          have x3 : (wr.alloc (.cells #[.int .i64 0, .string xt, .int .i64 xn, .int .i64 (s.size : Int)] 30)).cell? ⟨wr.heap.size, 3, none⟩ = some (.int .i64 (s.size : Int)) := hX.cell 3
          have xl := hX.lt
          clear hBV hX
          generalize wr.alloc (.cells #[.int .i64 0, .string xt, .int .i64 xn, .int .i64 (s.size : Int)] 30) = V, wr.heap.size = X at *
          go_quiet ((go_at_call 28; exact Calls.quiet_of_same (Tryd.strings_HasPrefix _ _ _)))
          go_wp2_with fail
          go_quiet (fail)
          go_wp2_with fail
          go_round
          case rel => exact ⟨(j + 1) + 1, by omega, by go_num, by repeat (first | with_reducible exact HBV.out | with_reducible refine bel_drewN ?_ _ | with_reducible refine Below.drew ?_ | with_reducible refine bel_alloc ?_ (Nat.le_refl _) _)⟩
          case measure => simp [intOf]; omega
    · obtain rfl : k = n := by omega
      have HBY := Lib.hid (HBX.out.trans (HW.out.mono HBX.out.size))
      clear hlt
      go_wp2_with fail
      refine (AW.out _ HBY.out).mono ?_
      rintro e w4 ⟨rfl, hb⟩
      go_wp2_with fail
      go_ret
      exact ⟨rfl, hb⟩

end Go.Proofs.YtklogijbdpghpaaDoor.lexerPlaces
