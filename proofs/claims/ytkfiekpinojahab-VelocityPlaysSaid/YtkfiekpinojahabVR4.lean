/-
  CONTRACTS of velocity's specification: Last.
-/
import Derived.Test.YtkfiekpinojahabVR3
namespace Go.Proofs.Ytkfiekpinojahab.R
open Go.RowKit
set_option linter.unusedVariables false
set_option linter.unusedSimpArgs false
def maxS (us : List UR) (key : ByteArray) : Int × Bool := us.foldl (fun b x => if x.k = key then (max b.1 x.a, true) else b) (0, false)
theorem maxS_take {us : List UR} {key : ByteArray} {k : Nat} {x : UR} (hx : us[k]? = some x) : maxS (us.take (k + 1)) key = if x.k = key then (max (maxS (us.take k) key).1 x.a, true) else maxS (us.take k) key := by
  unfold maxS
  rw [List.take_add_one, hx, List.foldl_append]
  rfl
set_option maxRecDepth 5000 in
theorem last_gen {K D : Nat} {v : Value} {s : VS} {w : World} (hr : Rep w K D v s) (key : ByteArray) {a : Int} {b : Bool} (hl : maxS s.us key = (a, b)) : Calls Try.prog 21 #[.pointer (some ⟨D, 0, none⟩), .string key] w fun e w' => e = .returned (.tuple #[.int .i64 a, .bool b]) ∧ Left w w' K D v v s := by
  have HLS := Lib.hid hl
  clear hl
  have HR := Lib.hid hr
  have hd := hr.win
  have hlt := hd.lt
  have d1 := hd.cell 1
  simp at d1
  obtain ⟨A, cap, hv, -, -, -⟩ := row_form hr.row
  have hrow := hr.row
  rw [hv] at d1 hrow
  have HO := Lib.hid hrow
  have HD := Lib.hid hd
  have HV := Lib.hid hv
  have hlu := hr.lu
  generalize hU : s.us.length = U at *
  have HU := Lib.hid hU
  clear hr hd hv hrow hU
  go_enter Try.func21, Try.ntmps21
  go_wp2_with fail
  clear d1
  go_loopw [6, 7, 8] (fun bv ov iv wr => ∃ q : Nat, q ≤ U ∧ iv = .int .i64 (q : Int) ∧ bv = .int .i64 (maxS (s.us.take q) key).1 ∧ ov = .bool (maxS (s.us.take q) key).2 ∧ Below w.heap.size w wr) (fun _ _ i _ => U - (intOf i).toNat)
  case atStart => exact ⟨0, Nat.zero_le _, rfl, rfl, rfl, Below.refl _ _⟩
  case round =>
    obtain ⟨q, hq0, rfl, rfl, rfl, hB⟩ := hrel
    have HB := Lib.hid hB
    have hd := HD.out.below hB HD.out.lt
    have d1 := hd.cell 1
    simp only [HV.out] at d1
    simp at d1
    have hlt3 := hd.lt
    clear hB hd
    by_cases hqU : q < U
    · obtain ⟨c, hc⟩ : ∃ c, c = maxS (s.us.take q) key := ⟨_, rfl⟩
      obtain ⟨c1, c2⟩ := c
      rw [← hc]
      have HC := Lib.hid hc
      clear hc
      have hq : q < s.us.length := by rw [HU.out]; omega
      obtain ⟨g, cap', e, -, hgl, hcell⟩ := row_cells HO.out (by omega)
      injection e with e1 e2 e3
      subst e1 e3
      have hx := List.getElem?_eq_getElem hq
      generalize s.us[q] = x at hx
      have p0 : wr.cell? ⟨g, q * 3, none⟩ = some (.string x.k) := ((HB.out.cell (p := ⟨g, q * 3, none⟩) hgl).trans (hcell _ (by omega))).trans (ucells_at s.us hx).1
      have p1 : wr.cell? ⟨g, q * 3 + 1, none⟩ = some (.int .i64 x.a) := ((HB.out.cell (p := ⟨g, q * 3 + 1, none⟩) hgl).trans (hcell _ (by omega))).trans (ucells_at s.us hx).2.1
      have p2 : wr.cell? ⟨g, q * 3 + 2, none⟩ = some (.int .i64 x.m) := ((HB.out.cell (p := ⟨g, q * 3 + 2, none⟩) hgl).trans (hcell _ (by omega))).trans (ucells_at s.us hx).2.2
      have hgr : g < wr.heap.size := Nat.lt_of_lt_of_le hgl HB.out.size
      have HX := Lib.hid hx
      clear hcell hx hq
      by_cases hk : x.k = key
      · have e0 : (x.k.toList == key.toList) = true := by rw [hk]; exact beq_self_eq_true _
        have HN : Hid (maxS (s.us.take (q + 1)) key = (max c1 x.a, true)) := Lib.hid (by rw [maxS_take HX.out, if_pos hk, ← HC.out])
        clear hk
        go_wp2_with fail
        go_round
        case rel => exact ⟨q + 1, by omega, by go_num, by rw [HN.out]; show Value.int .i64 (if c1 < x.a then x.a else c1) = Value.int .i64 (max c1 x.a); congr 1; split <;> omega, by rw [HN.out], HB.out⟩
        case measure => first | (simp [intOf]; done) | (simp [intOf]; omega)
      · have e0 := str_ne hk
        have HN : Hid (maxS (s.us.take (q + 1)) key = (c1, c2)) := Lib.hid (by rw [maxS_take HX.out, if_neg hk, ← HC.out])
        clear hk
        go_wp2_with fail
        go_round
        case rel => exact ⟨q + 1, by omega, by go_num, by rw [HN.out], by rw [HN.out], HB.out⟩
        case measure => first | (simp [intOf]; done) | (simp [intOf]; omega)
    · obtain rfl : q = U := by omega
      have htk : s.us.take q = s.us := List.take_of_length_le (Nat.le_of_eq HU.out)
      rw [htk, HLS.out]
      clear htk hqU
      go_wp2_with fail
      go_ret2
      exact ⟨rfl, Left.same HR.out HB.out⟩
end Go.Proofs.Ytkfiekpinojahab.R
