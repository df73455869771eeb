/-
  CONTRACTS of velocity: what is too old; removing.
-/
import Derived.Test.YtkfiekpinojahabVK1
namespace Go.Proofs.Ytkfiekpinojahab
open Go.RowKit
set_option linter.unusedVariables false
set_option linter.unusedSimpArgs false
def oldS (us : List UR) (b : Int) : Nat := (us.takeWhile fun u => decide (u.a ≤ b)).length
theorem oldS_le (us : List UR) (b : Int) : oldS us b ≤ us.length := by
  unfold oldS
  exact (List.takeWhile_sublist _).length_le
theorem oldS_step {us : List UR} {b : Int} {k : Nat} {x : UR} (hx : us[k]? = some x) (hk : k ≤ oldS us b) : (x.a ≤ b → k + 1 ≤ oldS us b) ∧ (¬ x.a ≤ b → oldS us b = k) := by
  induction us generalizing k with
  | nil => simp at hx
  | cons y l ih =>
    unfold oldS at hk ⊢
    cases k with
    | zero =>
      simp at hx
      subst hx
      constructor
      · intro h
        rw [List.takeWhile_cons_of_pos (by simpa using h)]
        simp
      · intro h
        rw [List.takeWhile_cons_of_neg (by simpa using h)]
        rfl
    | succ k =>
      by_cases hy : y.a ≤ b
      · rw [List.takeWhile_cons_of_pos (by simpa using hy)] at hk ⊢
        have hk' : k ≤ oldS l b := by simpa [oldS] using hk
        have h := ih (by simpa using hx) hk'
        unfold oldS at h
        simp only [List.length_cons]
        constructor
        · intro h1; have := h.1 h1; omega
        · intro h1; have := h.2 h1; omega
      · rw [List.takeWhile_cons_of_neg (by simpa using hy)] at hk
        simp at hk
theorem bel_drewN {B : Nat} {a w : World} (h : Below B a w) (n : Nat) : Below B a (w.drewN n) := ⟨h.os, h.tape, h.output, h.size, h.block⟩
theorem old_any {K D : Nat} {v : Value} {s : VS} {w : World} (hr : Rep w K D v s) (at_ : Int) (h1 : 0 ≤ at_) (h2 : at_ ≤ 1099511627776) : Calls Try.prog 26 #[.pointer (some ⟨D, 0, none⟩), .int .i64 at_] w fun e w' => e = .returned (.int .i64 (oldS s.us (at_ - s.hor) : Int)) ∧ Below w.heap.size w w' := by
  have hd := hr.win
  have hwin := hr.win
  have hlt := hd.lt
  have d0 := hd.cell 0
  have d2 := hd.cell 2
  simp at d0 d2
  obtain ⟨A, cap, hv, hcap, hmax, hA⟩ := row_form hr.row
  rw [hv] at d2 hwin
  have HR := Lib.hid hr.row
  rw [hv] at HR
  have hh := hr.hh
  have hlu := hr.lu
  obtain ⟨hor, last, us⟩ := s
  simp only at *
  have HO := Lib.hid (oldS_le us (at_ - hor))
  obtain ⟨b, hb⟩ : ∃ b : Int, b = at_ - hor := ⟨_, rfl⟩
  have hbw : at_ - (hor : Int) = b := hb.symm
  have HB := Lib.hid hb
  have hwb : wrap64 b = b := by unfold wrap64; omega
  rw [hbw] at HO ⊢
  generalize hU : us.length = U at *
  have HU := Lib.hid hU
  clear hr hd hb h1 h2 hh hU hA hmax hcap
  go_enter Try.func26, Try.ntmps26
  go_wp2
  have HW := Lib.hid hwin
  clear hwin d0 d2
  go_loopw [5] (fun i wr => ∃ k : Nat, k ≤ U ∧ i = .int .i64 (k : Int) ∧ k ≤ oldS us b ∧ Below w.heap.size w wr) (fun i _ => U - (intOf i).toNat)
  case atStart => exact ⟨0, by omega, rfl, by omega, Below.refl _ _⟩
  case round =>
    obtain ⟨k, hk, rfl, hko, hB⟩ := hrel
    have HB2 := Lib.hid hB
    have hbl := HW.out.below hB HW.out.lt
    have d0 := hbl.cell 0
    have d2 := hbl.cell 2
    simp at d0 d2
    have hlt3 := hbl.lt
    clear hB hbl
    have HKO := Lib.hid hko
    clear hko
    by_cases hlt2 : k < U
    · have hm' : k < us.length := by rw [HU.out]; exact hlt2
      obtain ⟨g, cap', e, -, hgl, hcell⟩ := row_cells HR.out (by omega)
      injection e with e1' e2' e3'
      subst e1' e3'
      have hx := List.getElem?_eq_getElem hm'
      generalize us[k] = x at hx
      have HX := Lib.hid (oldS_step hx HKO.out)
      have p1 : wr.cell? ⟨g, k * 3 + 1, none⟩ = some (.int .i64 x.a) := ((HB2.out.cell (p := ⟨g, k * 3 + 1, none⟩) hgl).trans (hcell _ (by omega))).trans (ucells_at us hx).2.1
      clear hcell hx hm'
      by_cases hxa : x.a ≤ b
      · have HXA := Lib.hid hxa
        go_wp2
        go_quiet (fail)
        go_wp2
        go_round
        case rel => exact ⟨k + 1, by omega, by go_num, HX.out.1 HXA.out, bel_drewN HB2.out _⟩
        case measure => simp [intOf]; omega
      · have HXA := Lib.hid hxa
        have HE := Lib.hid (HX.out.2 hxa)
        go_wp2
        go_quiet (fail)
        go_wp2
        go_ret
        exact ⟨congrArg (fun n : Nat => Ending.returned (.int .i64 (n : Int))) HE.out.symm, bel_drewN HB2.out _⟩
    · obtain rfl : k = U := by omega
      have HE : Hid (oldS us b = k) := Lib.hid (by have := HKO.out; have := HO.out; omega)
      go_wp2
      go_quiet (fail)
      go_wp2
      go_ret
      exact ⟨congrArg (fun n : Nat => Ending.returned (.int .i64 (n : Int))) HE.out.symm, bel_drewN HB2.out _⟩
theorem size_use (W : World) : (sizeOf (Try.prog.elem 50)).run Try.prog W = .ok 3 W := by kernel_rfl
theorem sl_low (g f U cap : Nat) (h1 : f ≤ U) (W : World) : (Instr.slice 50 (.slice (some ⟨g, 0, none⟩) U cap) (some (.int .i64 (f : Int))) none none).run Try.prog W = .ok (.slice (some (if cap = f then ⟨g, 0, none⟩ else ⟨g, f * 3, none⟩)) (U - f) (cap - f)) W := by
  rw [run_slice_l W 50 (some ⟨g, 0, none⟩) U cap Try.underlying50 .i64 (f : Int) (by omega) (by omega), size_use]
  simp only [Result.andThen_ok, sliced, Int.toNat_natCast]
  split
  · rfl
  · simp [Addr.add]
    omega
theorem sl_high (g h U cap : Nat) (h1 : h ≤ cap) (W : World) : (Instr.slice 50 (.slice (some ⟨g, 0, none⟩) U cap) none (some (.int .i64 (h : Int))) none).run Try.prog W = .ok (.slice (some ⟨g, 0, none⟩) h cap) W := by
  rw [run_slice_h W 50 (some ⟨g, 0, none⟩) U cap Try.underlying50 .i64 (h : Int) (by omega) (by omega), size_use]
  simp only [Result.andThen_ok, sliced, Int.toNat_natCast]
  split
  · simp
  · simp [Addr.add]
def rmU (us : List UR) (f u : Nat) : List UR := us.take f ++ us.drop u
theorem rmU_len (us : List UR) {f u : Nat} (hfu : f ≤ u) (hu : u ≤ us.length) : (rmU us f u).length = f + (us.length - u) := by
  simp [rmU]
  omega
theorem copy_use {g cap : Nat} {us : List UR} {w : World} {K : Nat} (hr : w.ownsRow K 59 3 (.slice (some ⟨g, 0, none⟩) us.length cap) us.length (ucells us)) (f u : Nat) (hfu : f ≤ u) (hu : u ≤ us.length) (hf0 : f = 0 ∨ f < us.length) :
    ∃ w', (Builtin.copy_ #[50, 50] 3 #[.slice (some (if cap = f then ⟨g, 0, none⟩ else ⟨g, f * 3, none⟩)) (us.length - f) (cap - f), .slice (some (if cap = u then ⟨g, 0, none⟩ else ⟨g, u * 3, none⟩)) (us.length - u) (cap - u)]).run Try.prog w = .ok (.int .i64 ((us.length - u : Nat) : Int)) w' ∧ w'.ownsRow K 59 3 (.slice (some ⟨g, 0, none⟩) (f + (us.length - u)) cap) (f + (us.length - u)) (ucells (rmU us f u)) ∧ Kp (fun k => k = g) w w' := by
  obtain ⟨h1, ⟨hx, _⟩ | ⟨g', cap', cur, hx, hb, hg, hnc, hcm, hcs, htk⟩⟩ := hr
  · cases hx
  · simp only [Value.slice.injEq, Option.some.injEq, Addr.mk.injEq, and_true, true_and] at hx
    obtain ⟨rfl, rfl⟩ := hx
    obtain ⟨i, hi, hz, hz1, hz2⟩ := info_parts use_info
    have haddr : (if cap = f then (⟨g, 0, none⟩ : Addr) else ⟨g, f * 3, none⟩) = ⟨g, f * 3, none⟩ := by
      split
      · have : f = 0 := by omega
        rw [this]
      · rfl
    rw [haddr]
    have hcl : (ucells (us.drop u)).length = (us.length - u) * 3 := by rw [ucells_len, List.length_drop]
    have hmin : Nat.min (us.length - u) (us.length - f) = us.length - u := Nat.min_eq_left (by omega)
    have hsub : ∀ j, (ucells (us.drop u))[j]? = (ucells us)[u * 3 + j]? := fun j => by rw [← ucells_drop, List.getElem?_drop]
    have hrun := run_copy_many (P := Try.prog) w 50 50 3 59 g (f * 3) (us.length - f) (cap - f) (if cap = u then ⟨g, 0, none⟩ else ⟨g, u * 3, none⟩) (us.length - u) (cap - u) 3 cur 59 (ucells (us.drop u)) Try.underlying50 (by rw [hi]; simp [hz1]) hg (by rw [hcl, hmin]) (fun j v hv => by
      have hj : j < (us.length - u) * 3 := by rw [← hcl]; exact (List.getElem?_eq_some_iff.1 hv).1
      have hne : ¬ cap = u := by omega
      rw [if_neg hne]
      have hadd : (⟨g, u * 3, none⟩ : Addr).add j = ⟨g, u * 3 + j, none⟩ := by unfold Addr.add; split <;> simp_all
      rw [hadd, cell_of_row w g (u * 3 + j) cur 59 (0, 0) hg]
      rw [hsub j, ← htk, List.getElem?_take_of_lt (by omega)] at hv
      simpa using hv) (by rw [hcl, hcs]; omega) (ucells_one _)
    rw [hmin] at hrun
    refine ⟨_, hrun, ⟨by rw [ucells_len, rmU_len us hfu hu], .inr ⟨g, cap, _, rfl, hb, setRow_heap w g cur _ 59 (0, 0) hg, by omega, hcm, ?_, ?_⟩⟩, ⟨rfl, rfl, rfl, by simp [World.setRow], fun k hk hn => setRow_other w g k _ hn⟩⟩
    · simp only [List.size_toArray, List.length_append, List.length_take, List.length_drop, Array.length_toList, hcl, hcs]
      omega
    · have hA : (cur.toList.take (f * 3)) = ucells (us.take f) := by
        rw [← ucells_take, ← htk, List.take_take, Nat.min_eq_left (by omega)]
      rw [hA, List.append_assoc, ← List.append_assoc, ← ucells_app]
      have hl : (ucells (rmU us f u)).length = (f + (us.length - u)) * 3 := by rw [ucells_len, rmU_len us hfu hu]
      show List.take _ (ucells (rmU us f u) ++ _) = _
      rw [List.take_append_of_le_length (by rw [hl]; exact Nat.le_refl _), List.take_of_length_le (by rw [hl]; exact Nat.le_refl _)]
end Go.Proofs.Ytkfiekpinojahab
