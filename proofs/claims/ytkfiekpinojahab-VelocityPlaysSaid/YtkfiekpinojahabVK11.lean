/-
  CONTRACTS of velocity: Count, Sum, Forget, Last, Remove at any arguments.
-/
import Derived.Test.YtkfiekpinojahabVK10
namespace Go.Proofs.Ytkfiekpinojahab
open Go.RowKit
set_option linter.unusedVariables false
set_option linter.unusedSimpArgs false
def wG (s : VS) (key : ByteArray) (at_ n : Int) : List UR := if tim at_ then wL s key at_ n else []
theorem within_time {K D : Nat} {v : Value} {s : VS} {w : World} (hr : Rep w K D v s) (key : ByteArray) (at_ n : Int) (ht : ¬ tim at_) : Calls Try.prog 30 #[.pointer (some ⟨D, 0, none⟩), .string key, .int .i64 at_, .int .i64 n] w fun e w' => e = .returned (.slice none 0 0) ∧ w = w' := by
  by_cases h : n < 1 ∨ (s.hor : Int) < n
  · exact within_no hr key at_ n h
  · have IT := Lib.hid (fun w => isTime_no at_ ht w)
    have hd := hr.win
    have d0 := hd.cell 0
    simp at d0
    have hlt := hd.lt
    have a1 : decide (n < 1) = false := decide_eq_false (by omega)
    have a2 : decide ((s.hor : Int) < n) = false := decide_eq_false (by omega)
    clear hr hd h ht
    go_enter Try.func30, Try.ntmps30
    go_wp2_with fail
    refine (IT.out _).mono ?_
    rintro e w1 ⟨rfl, rfl⟩
    go_wp2_with fail
    go_ret
    exact ⟨rfl, rfl⟩
theorem within_gen {K D : Nat} {v : Value} {s : VS} {w : World} (hr : Rep w K D v s) (key : ByteArray) (at_ n : Int) : Calls Try.prog 30 #[.pointer (some ⟨D, 0, none⟩), .string key, .int .i64 at_, .int .i64 n] w fun e w' => ∃ v', e = .returned v' ∧ w'.ownsRow w.heap.size 59 3 v' (wG s key at_ n).length (ucells (wG s key at_ n)) ∧ Below w.heap.size w w' := by
  unfold wG
  by_cases h : tim at_
  · rw [if_pos h]
    exact within_all hr key at_ n h.1 h.2
  · rw [if_neg h]
    refine (within_time hr key at_ n h).mono ?_
    rintro e w1 ⟨rfl, rfl⟩
    exact ⟨_, rfl, World.ownsRow_nil _ _ _ _, Below.refl _ _⟩
theorem count_gen {K D : Nat} {v : Value} {s : VS} {w : World} (hr : Rep w K D v s) (key : ByteArray) (at_ n : Int) {c : Int} (hc : ((wG s key at_ n).length : Int) = c) : Calls Try.prog 14 #[.pointer (some ⟨D, 0, none⟩), .string key, .int .i64 at_, .int .i64 n] w fun e w' => e = .returned (.int .i64 c) ∧ Left w w' K D v v s := by
  have WI := Lib.hid (within_gen hr key at_ n)
  have HR := Lib.hid hr
  subst hc
  clear hr
  go_enter Try.func14, Try.ntmps14
  go_wp2_with fail
  refine WI.out.mono ?_
  rintro e w1 ⟨v', rfl, ho, hB⟩
  obtain ⟨A, c1, rfl, -, -, -⟩ := row_form ho
  have HB := Lib.hid hB
  clear ho hB
  go_wp2
  go_ret
  exact ⟨rfl, Left.same HR.out HB.out⟩
theorem wG_sub (s : VS) (key : ByteArray) (at_ n : Int) : ∀ x ∈ wG s key at_ n, x ∈ s.us := fun x hx => by
  unfold wG at hx
  split at hx
  · exact wL_sub s key at_ n x hx
  · cases hx
theorem wG_len (s : VS) (key : ByteArray) (at_ n : Int) : (wG s key at_ n).length ≤ s.us.length := by
  unfold wG
  split
  · exact wL_len s key at_ n
  · exact Nat.zero_le _
set_option maxRecDepth 5000 in
theorem sum_gen {K D : Nat} {v : Value} {s : VS} {w : World} (hr : Rep w K D v s) (key : ByteArray) (at_ n : Int) {c : Int} (hc : sumU (wG s key at_ n) = c) : Calls Try.prog 16 #[.pointer (some ⟨D, 0, none⟩), .string key, .int .i64 at_, .int .i64 n] w fun e w' => e = .returned (.int .i64 c) ∧ Left w w' K D v v s := by
  have WI := Lib.hid (within_gen hr key at_ n)
  have HR := Lib.hid hr
  have hbd : ∀ k, 0 ≤ sumU ((wG s key at_ n).take k) ∧ sumU ((wG s key at_ n).take k) ≤ 999999999999 * 1000 := fun k => by
    have h1 := sumU_bound (l := (wG s key at_ n).take k) (fun x hx => ⟨(hr.ok x (wG_sub s key at_ n x (List.mem_of_mem_take hx))).2.2.2.1, (hr.ok x (wG_sub s key at_ n x (List.mem_of_mem_take hx))).2.2.2.2⟩)
    have h2 := wG_len s key at_ n
    have h3 := hr.lu
    have h4 : ((wG s key at_ n).take k).length ≤ (wG s key at_ n).length := by simp; omega
    omega
  have HBD := Lib.hid hbd
  subst hc
  have hl := Nat.le_trans (wG_len s key at_ n) hr.lu
  generalize wG s key at_ n = l at *
  clear hr hbd
  generalize hU : l.length = U at *
  have HU := Lib.hid hU
  clear hU
  go_enter Try.func16, Try.ntmps16
  go_wp2_with fail
  refine WI.out.mono ?_
  rintro e w1 ⟨v', rfl, ho, hB⟩
  obtain ⟨A, c1, rfl, -, -, -⟩ := row_form ho
  have HO := Lib.hid ho
  have HB := Lib.hid hB
  clear ho hB
  go_wp2
  go_loopw [9, 18] (fun vv i wr => ∃ k : Nat, k ≤ U ∧ i = .int .i64 (k : Int) ∧ vv = .int .i64 (sumU (l.take k)) ∧ Below w1.heap.size w1 wr) (fun _ i _ => U - (intOf i).toNat)
  case atStart => exact ⟨0, by omega, rfl, rfl, Below.refl _ _⟩
  case round =>
    obtain ⟨k, hk, rfl, rfl, hB⟩ := hrel
    have HB2 := Lib.hid hB
    clear hB
    by_cases hlt2 : k < U
    · have hm' : k < l.length := by rw [HU.out]; exact hlt2
      obtain ⟨g, cap', e, -, hgl, hcell⟩ := row_cells HO.out (by omega)
      injection e with e1' e2' e3'
      subst e1' e3'
      have hx := List.getElem?_eq_getElem hm'
      generalize l[k] = x at hx
      have p0 : wr.cell? ⟨g, k * 3, none⟩ = some (.string x.k) := ((HB2.out.cell (p := ⟨g, k * 3, none⟩) hgl).trans (hcell _ (by omega))).trans (ucells_at l hx).1
      have p1 : wr.cell? ⟨g, k * 3 + 1, none⟩ = some (.int .i64 x.a) := ((HB2.out.cell (p := ⟨g, k * 3 + 1, none⟩) hgl).trans (hcell _ (by omega))).trans (ucells_at l hx).2.1
      have p2 : wr.cell? ⟨g, k * 3 + 2, none⟩ = some (.int .i64 x.m) := ((HB2.out.cell (p := ⟨g, k * 3 + 2, none⟩) hgl).trans (hcell _ (by omega))).trans (ucells_at l hx).2.2
      have HT := Lib.hid (sumU_take hx)
      have hglr : g < wr.heap.size := Nat.lt_of_lt_of_le hgl HB2.out.size
      have hb1 := HBD.out (k + 1)
      obtain ⟨y, hy⟩ : ∃ y, y = sumU (l.take (k + 1)) := ⟨_, rfl⟩
      rw [← hy] at hb1
      have hya : sumU (l.take k) + x.m = y := by rw [hy]; exact HT.out.symm
      have hyw : wrap64 y = y := by unfold wrap64; omega
      have HY := Lib.hid hy
      clear hcell hx hm' hb1 hy
      generalize sumU (l.take k) = z at *
      go_wp2
      go_round
      case rel => exact ⟨k + 1, by omega, by go_num, by rw [hyw, HY.out], HB2.out.alloc HB2.out.size _⟩
      case measure => simp [intOf]; omega
    · obtain rfl : k = U := by omega
      have htk : l.take k = l := List.take_of_length_le (Nat.le_of_eq HU.out)
      rw [htk]
      go_wp2
      go_ret
      exact ⟨rfl, Left.same HR.out (HB.out.trans (HB2.out.mono HB.out.size))⟩
def forN (s : VS) (a : Int) : Nat := if tim a then oldS s.us (a - s.hor) else 0
theorem forget_gen {K D : Nat} {v : Value} {s : VS} {w : World} (hr : Rep w K D v s) (a : Int) {c : Nat} (hc : forN s a = c) : Calls Try.prog 18 #[.pointer (some ⟨D, 0, none⟩), .int .i64 a] w fun e w' => e = .returned (.int .i64 (c : Int)) ∧ ∃ v', Left w w' K D v v' { s with us := s.us.drop c } := by
  by_cases ht : tim a
  · unfold forN at hc
    rw [if_pos ht] at hc
    exact forget_any hr a ht.1 ht.2 hc
  · unfold forN at hc
    rw [if_neg ht] at hc
    subst hc
    have IT := Lib.hid (fun w => isTime_no a ht w)
    have HL := Lib.hid (Left.same hr (Below.refl _ _))
    have hlt := hr.win.lt
    clear hr ht
    go_enter Try.func18, Try.ntmps18
    go_wp2_with fail
    refine (IT.out _).mono ?_
    rintro e w1 ⟨rfl, rfl⟩
    go_wp2_with fail
    go_ret
    exact ⟨rfl, v, HL.out⟩
end Go.Proofs.Ytkfiekpinojahab
