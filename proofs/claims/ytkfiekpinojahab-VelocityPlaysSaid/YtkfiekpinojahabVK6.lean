/-
  CONTRACTS of velocity: New, Len, Last, Remove, Forget; an Add that is refused.
-/
import Derived.Test.YtkfiekpinojahabVK5
namespace Go.Proofs.Ytkfiekpinojahab
open Go.RowKit
set_option linter.unusedVariables false
set_option linter.unusedSimpArgs false
def newS (h : Nat) : VS := ⟨h, 0, []⟩
theorem new_any (h : Nat) (h1 : 1 ≤ h) (h2 : h ≤ 10000000) (w : World) {K : Nat} (hK : K ≤ w.heap.size) : Calls Try.prog 8 #[.int .i64 (h : Int)] w fun e w' => ∃ D, e = .returned (.tuple #[.pointer (some ⟨D, 0, none⟩), .int .i64 0]) ∧ Rep w' K D (.slice none 0 0) (newS h) ∧ Below w.heap.size w w' := by
  have a1 : decide ((h : Int) < 1) = false := decide_eq_false (by omega)
  have a2 : decide ((10000000 : Int) < (h : Int)) = false := decide_eq_false (by omega)
  have H2 := Lib.hid (And.intro h1 h2)
  clear h1 h2
  go_enter Try.func8, Try.ntmps8
  go_wp2
  go_ret2
  refine ⟨w.heap.size, rfl, ⟨Blk.new w 52 _, World.ownsRow_nil _ _ _ _, by simp [Value.ownBlock], hK, H2.out.1, H2.out.2, Int.le_refl _, (show (0 : Int) ≤ 1099511627776 by decide), by simp [newS], by simp [newS]⟩, (Below.refl _ _).alloc (Nat.le_refl _) _⟩
theorem len_any {K D : Nat} {v : Value} {s : VS} {w : World} (hr : Rep w K D v s) {c : Int} (hc : (s.us.length : Int) = c) : Calls Try.prog 22 #[.pointer (some ⟨D, 0, none⟩)] w fun e w' => e = .returned (.int .i64 c) ∧ Left w w' K D v v s := by
  have HL := Lib.hid (Left.same hr (Below.refl _ _))
  have hd := hr.win
  have hlt := hd.lt
  have d0 := hd.cell 0
  have d1 := hd.cell 1
  have d2 := hd.cell 2
  simp at d0 d1 d2
  obtain ⟨A, cap, hv, -, -, -⟩ := row_form hr.row
  rw [hv] at d2
  subst hc
  clear hr hd d0 d1 hv
  go_enter Try.func22, Try.ntmps22
  go_wp2
  go_ret
  exact ⟨rfl, HL.out⟩
theorem add_time {K D : Nat} {v : Value} {s : VS} {w : World} (hr : Rep w K D v s) (k : ByteArray) (at_ m : Int) (k0 : 0 < k.size) (k40 : k.size ≤ 40) (a0 : 0 ≤ at_) (aM : at_ ≤ 1099511627776) (al : at_ < s.last) : Calls Try.prog 10 #[.pointer (some ⟨D, 0, none⟩), .string k, .int .i64 at_, .int .i64 m] w fun e w' => e = .returned (.int .i64 14) ∧ Left w w' K D v v s := by
  have HL := Lib.hid (Left.same hr (Below.refl _ _))
  have IT := Lib.hid (fun w => isTime_any at_ a0 aM w)
  have hd := hr.win
  have hlt := hd.lt
  have d0 := hd.cell 0
  have d1 := hd.cell 1
  have d2 := hd.cell 2
  simp at d0 d1 d2
  have a1 : decide (at_ < s.last) = true := decide_eq_true al
  have a4 : decide ((40 : Int) < (k.size : Int)) = false := decide_eq_false (by omega)
  have k1 := str_eq0 (s := k) (by omega)
  clear hr hd d0 d2 k0 k40 a0 aM al
  go_enter Try.func10, Try.ntmps10
  go_wp2_with fail
  refine (IT.out _).mono ?_
  rintro e w1 ⟨rfl, rfl⟩
  go_wp2_with fail
  go_ret
  exact ⟨rfl, HL.out⟩
theorem add_full {K D : Nat} {v : Value} {s : VS} {w : World} (hr : Rep w K D v s) (k : ByteArray) (at_ m : Int) (ok : AddOk s k at_ m) (hfull : 1000 ≤ s.us.length - oldS s.us (at_ - s.hor)) : Calls Try.prog 10 #[.pointer (some ⟨D, 0, none⟩), .string k, .int .i64 at_, .int .i64 m] w fun e w' => e = .returned (.int .i64 12) ∧ Left w w' K D v v s := by
  have OA := Lib.hid (old_any hr at_ ok.a0 ok.aM)
  have IT := Lib.hid (fun w => isTime_any at_ ok.a0 ok.aM w)
  have HR := Lib.hid hr
  have hd := hr.win
  have hlt := hd.lt
  have d0 := hd.cell 0
  have d1 := hd.cell 1
  have d2 := hd.cell 2
  simp at d0 d1 d2
  have a1 : decide (at_ < s.last) = false := decide_eq_false (by have := ok.al; omega)
  have a2 : decide (m < 0) = false := decide_eq_false (by have := ok.m0; omega)
  have a3 : decide (999999999999 < m) = false := decide_eq_false (by have := ok.mM; omega)
  have a4 : decide ((40 : Int) < (k.size : Int)) = false := decide_eq_false (by have := ok.k40; omega)
  have k1 := str_eq0 (s := k) (by have := ok.k0; omega)
  have HOL := Lib.hid (oldS_le s.us (at_ - s.hor))
  have HF := Lib.hid hfull
  generalize oldS s.us (at_ - s.hor) = o at *
  clear hr hd ok hfull d0 d2
  go_enter Try.func10, Try.ntmps10
  go_wp2_with fail
  refine (IT.out _).mono ?_
  rintro e w1 ⟨rfl, rfl⟩
  go_wp2_with fail
  refine OA.out.mono ?_
  rintro e w1 ⟨rfl, hB1⟩
  have hr1 := HR.out.below hB1
  have HB1 := Lib.hid hB1
  obtain ⟨A1, cap1, hv, -, -, -⟩ := row_form hr1.row
  have q2 := hr1.win.cell 2
  simp at q2
  rw [hv] at q2
  have hlt1 := hr1.win.lt
  obtain ⟨r, hr0⟩ : ∃ r, r = s.us.length - o := ⟨_, rfl⟩
  have hsub : (s.us.length : Int) - (o : Int) = (r : Int) := by have := HOL.out; omega
  have hwr : wrap64 (r : Int) = (r : Int) := by have := hr1.lu; unfold wrap64; omega
  have g1 : decide ((1000 : Int) ≤ (r : Int)) = true := decide_eq_true (by have := HF.out; omega)
  clear hB1 hr1 d1 hv hr0
  generalize hU : s.us.length = U at *
  clear hU
  go_wp2_with fail
  go_ret
  exact ⟨rfl, Left.same HR.out HB1.out⟩
/-- Last of the very last use's key. -/
theorem last_any {K D : Nat} {v : Value} {s : VS} {w : World} (hr : Rep w K D v s) {us : List UR} {x : UR} (hs : s.us = us ++ [x]) : Calls Try.prog 20 #[.pointer (some ⟨D, 0, none⟩), .string x.k] w fun e w' => e = .returned (.tuple #[.int .i64 x.a, .bool true]) ∧ Left w w' K D v v s := by
  have HL := Lib.hid (Left.same hr (Below.refl _ _))
  have hd := hr.win
  have hlt := hd.lt
  have d0 := hd.cell 0
  have d1 := hd.cell 1
  have d2 := hd.cell 2
  simp at d0 d1 d2
  obtain ⟨A, cap, hv, -, -, -⟩ := row_form hr.row
  have hrow := hr.row
  rw [hv] at d2 hrow
  have hl : s.us.length = us.length + 1 := by rw [hs]; simp
  have hx : s.us[us.length]? = some x := by rw [hs]; simp
  obtain ⟨g, cap', e, -, hgl, hcell⟩ := row_cells hrow (by omega)
  injection e with e1' e2' e3'
  subst e1' e3'
  rw [hl] at d2 hcell
  have p0 : w.cell? ⟨g, us.length * 3, none⟩ = some (.string x.k) := (hcell _ (by omega)).trans (ucells_at s.us hx).1
  have p1 : w.cell? ⟨g, us.length * 3 + 1, none⟩ = some (.int .i64 x.a) := (hcell _ (by omega)).trans (ucells_at s.us hx).2.1
  have hlu := hr.lu
  rw [hl] at hlu
  generalize us.length = U at *
  have e0 : (x.k.toList == x.k.toList) = true := beq_self_eq_true _
  have ii : ((U + 1 : Nat) : Int) - 1 = (U : Int) := by omega
  clear hr hd d0 d1 hv hrow hs hl hx hcell e2'
  go_enter Try.func20, Try.ntmps20
  go_wp2
  refine wp_loop_rounds 1 ?_
  rw [rounds_succ]
  go_wp2
  go_ret2
  exact ⟨rfl, HL.out⟩
theorem forget_any {K D : Nat} {v : Value} {s : VS} {w : World} (hr : Rep w K D v s) (at_ : Int) (h0 : 0 ≤ at_) (hM : at_ ≤ 1099511627776) {c : Nat} (hc : oldS s.us (at_ - s.hor) = c) : Calls Try.prog 18 #[.pointer (some ⟨D, 0, none⟩), .int .i64 at_] w fun e w' => e = .returned (.int .i64 (c : Int)) ∧ ∃ v', Left w w' K D v v' { s with us := s.us.drop c } := by
  have OA := Lib.hid (old_any hr at_ h0 hM)
  have IT := Lib.hid (fun w => isTime_any at_ h0 hM w)
  have HR := Lib.hid hr
  have HOL := Lib.hid (oldS_le s.us (at_ - s.hor))
  rw [hc] at OA HOL
  have hlt := hr.win.lt
  clear hr h0 hM hc
  go_enter Try.func18, Try.ntmps18
  go_wp2_with fail
  refine (IT.out _).mono ?_
  rintro e w1 ⟨rfl, rfl⟩
  go_wp2_with fail
  refine OA.out.mono ?_
  rintro e w1 ⟨rfl, hB1⟩
  have HL1 := Lib.hid (Left.same HR.out hB1)
  clear hB1
  go_wp2_with fail
  refine (remove_any HL1.out.rep 0 c (Nat.zero_le _) HOL.out (.inl rfl)).mono ?_
  rintro e w2 ⟨rfl, v2, hL2⟩
  have HL2 := Lib.hid hL2
  clear hL2
  go_wp2
  go_ret
  refine ⟨rfl, v2, HL1.out.trans ?_⟩
  have := HL2.out
  rw [rmU_zero] at this
  exact this
def hitU (key : ByteArray) (at_ m : Int) (x : UR) : Prop := x.k = key ∧ x.a = at_ ∧ x.m = m
theorem rem_last {K D : Nat} {v : Value} {s : VS} {w : World} (hr : Rep w K D v s) {us : List UR} {x : UR} (hs : s.us = us ++ [x]) : Calls Try.prog 12 #[.pointer (some ⟨D, 0, none⟩), .string x.k, .int .i64 x.a, .int .i64 x.m] w fun e w' => e = .returned (.int .i64 0) ∧ ∃ v', Left w w' K D v v' { s with us := us } := by
  have HR := Lib.hid hr
  have hd := hr.win
  have hlt := hd.lt
  have d0 := hd.cell 0
  have d1 := hd.cell 1
  have d2 := hd.cell 2
  simp at d0 d1 d2
  obtain ⟨A, cap, hv, -, -, -⟩ := row_form hr.row
  have hrow := hr.row
  rw [hv] at d2 hrow
  have hl : s.us.length = us.length + 1 := by rw [hs]; simp
  have hx : s.us[us.length]? = some x := by rw [hs]; simp
  have hrm : rmU s.us us.length (us.length + 1) = us := by rw [hs]; simp [rmU]
  obtain ⟨g, cap', e, -, hgl, hcell⟩ := row_cells hrow (by omega)
  injection e with e1' e2' e3'
  subst e1' e3'
  have RM := Lib.hid (remove_any (w := w.alloc (.cells #[.string x.k, .int .i64 x.a, .int .i64 x.m] 59)) (hr.below ((Below.refl _ _).alloc (Nat.le_refl _) _)) us.length (us.length + 1) (by omega) (by omega) (.inr (by omega)))
  rw [hrm] at RM
  rw [hl] at d2 hcell
  have p0 : w.cell? ⟨g, us.length * 3, none⟩ = some (.string x.k) := (hcell _ (by omega)).trans (ucells_at s.us hx).1
  have p1 : w.cell? ⟨g, us.length * 3 + 1, none⟩ = some (.int .i64 x.a) := (hcell _ (by omega)).trans (ucells_at s.us hx).2.1
  have p2 : w.cell? ⟨g, us.length * 3 + 2, none⟩ = some (.int .i64 x.m) := (hcell _ (by omega)).trans (ucells_at s.us hx).2.2
  have hlu := hr.lu
  rw [hl] at hlu
  generalize us.length = U at *
  have e0 : (x.k.toList == x.k.toList) = true := beq_self_eq_true _
  have ii : ((U + 1 : Nat) : Int) - 1 = (U : Int) := by omega
  clear hr hd d0 d1 hv hrow hs hl hx hcell e2' hrm
  go_enter Try.func12, Try.ntmps12
  go_wp2
  refine wp_loop_rounds 1 ?_
  rw [rounds_succ]
  go_wp2_with fail
  refine RM.out.mono ?_
  rintro e w2 ⟨rfl, v2, hL2⟩
  have HL2 := Lib.hid hL2
  clear hL2
  go_wp2
  go_ret
  exact ⟨rfl, v2, (Left.same HR.out ((Below.refl _ _).alloc (Nat.le_refl _) _)).trans HL2.out⟩
theorem rem_none {K D : Nat} {v : Value} {s : VS} {w : World} (hr : Rep w K D v s) (key : ByteArray) (at_ m : Int) (hk : ∀ x ∈ s.us, x.k = key) (hm : ∀ x ∈ s.us, x.m ≠ m) : Calls Try.prog 12 #[.pointer (some ⟨D, 0, none⟩), .string key, .int .i64 at_, .int .i64 m] w fun e w' => e = .returned (.int .i64 6) ∧ Left w w' K D v v s := by
  have HR := Lib.hid hr
  have hd := hr.win
  have hlt := hd.lt
  have d0 := hd.cell 0
  have d1 := hd.cell 1
  have d2 := hd.cell 2
  simp at d0 d1 d2
  obtain ⟨A, cap, hv, -, -, -⟩ := row_form hr.row
  have hrow := hr.row
  rw [hv] at d2 hrow
  have HO := Lib.hid hrow
  have HD := Lib.hid hd
  have HV := Lib.hid hv
  have HKK := Lib.hid hk
  have HMM := Lib.hid hm
  have hlu := hr.lu
  generalize hU : s.us.length = U at *
  have HU := Lib.hid hU
  clear hr hd d0 d1 hv hrow hk hm hU
  go_enter Try.func12, Try.ntmps12
  go_wp2
  clear d2
  go_loopw [9] (fun i wr => ∃ j : Nat, j ≤ U ∧ i = .int .i64 ((j : Int) - 1) ∧ Below w.heap.size w wr) (fun i _ => (intOf i + 1).toNat)
  case atStart => exact ⟨U, Nat.le_refl _, rfl, Below.refl _ _⟩
  case round =>
    obtain ⟨j, hj, rfl, hB⟩ := hrel
    have HB := Lib.hid hB
    have hd := HD.out.below hB HD.out.lt
    have d2 := hd.cell 2
    simp only [HV.out] at d2
    simp at d2
    have hlt3 := hd.lt
    clear hB hd
    cases j with
    | zero =>
      go_wp2
      go_ret
      exact ⟨rfl, Left.same HR.out HB.out⟩
    | succ q =>
      have hq : q < s.us.length := by rw [HU.out]; omega
      obtain ⟨g, cap', e, -, hgl, hcell⟩ := row_cells HO.out (by omega)
      injection e with e1 e2 e3
      subst e1 e3
      have hx := List.getElem?_eq_getElem hq
      generalize s.us[q] = x at hx
      have p0 : wr.cell? ⟨g, q * 3, none⟩ = some (.string x.k) := ((HB.out.cell (p := ⟨g, q * 3, none⟩) hgl).trans (hcell _ (by omega))).trans (ucells_at s.us hx).1
      have p1 : wr.cell? ⟨g, q * 3 + 1, none⟩ = some (.int .i64 x.a) := ((HB.out.cell (p := ⟨g, q * 3 + 1, none⟩) hgl).trans (hcell _ (by omega))).trans (ucells_at s.us hx).2.1
      have p2 : wr.cell? ⟨g, q * 3 + 2, none⟩ = some (.int .i64 x.m) := ((HB.out.cell (p := ⟨g, q * 3 + 2, none⟩) hgl).trans (hcell _ (by omega))).trans (ucells_at s.us hx).2.2
      have hkx : x.k = key := HKK.out x (List.mem_of_getElem? hx)
      have hmx : x.m ≠ m := HMM.out x (List.mem_of_getElem? hx)
      have e0 : (x.k.toList == key.toList) = true := by rw [hkx]; exact beq_self_eq_true _
      have e2 : (x.m == m) = false := beq_false_of_ne hmx
      have hgr : g < wr.heap.size := Nat.lt_of_lt_of_le hgl HB.out.size
      have ii : ((q + 1 : Nat) : Int) - 1 = (q : Int) := by omega
      rw [ii]
      clear hcell hx hq hkx hmx
      cases hax : (x.a == at_)
      · go_wp2
        go_round
        case rel => exact ⟨q, by omega, by go_num, HB.out.alloc HB.out.size _⟩
        case measure => first | (simp [intOf]; done) | (simp [intOf]; omega)
      · go_wp2
        go_round
        case rel => exact ⟨q, by omega, by go_num, HB.out.alloc HB.out.size _⟩
        case measure => first | (simp [intOf]; done) | (simp [intOf]; omega)
end Go.Proofs.Ytkfiekpinojahab
