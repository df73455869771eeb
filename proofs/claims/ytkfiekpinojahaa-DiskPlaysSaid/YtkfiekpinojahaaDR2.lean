/-
  CONTRACTS of disk's specification: a crash, Crash, Flush.
-/
import Derived.Test.YtkfiekpinojahaaDR1
namespace Go.Proofs.Ytkfiekpinojahaa.R
open Go.RowKit
set_option linter.unusedVariables false
set_option linter.unusedSimpArgs false
def crashR (s : DSt) (m : Nat) : DSt := { crashS s m with mask := 0 }
set_option maxRecDepth 5000 in
set_option maxHeartbeats 1600000 in
theorem crash_any (K D B : Nat) (v : Value) (s : DSt) (w : World) (hr : Rep w K D B v s) (m : Nat) (hm : m < 18446744073709551616) : Calls Try.prog 37 #[.pointer (some ⟨D, 0, none⟩), .int .u64 (m : Int)] w fun e w' => e = .returned (.tuple #[]) ∧ Left w w' K D B v (.slice none 0 0) (crashR s m) := by
  have HM := Lib.hid hm
  have HR := Lib.hid hr
  obtain ⟨A, cap, rfl⟩ := row_form hr.row
  obtain ⟨bl, pe, down, steps, mask⟩ := s
  have hd := hr.disk
  simp only at hd
  have lb := hr.lb
  have lp := hr.lp
  simp only at lb lp
  have hB0 : Blk w B 9 (strs (surv m bl pe 0)) := hr.blocks
  have hrow := hr.row
  have hinb := Lib.hid hr.inb
  simp only at hrow hinb
  have H1 := Lib.hid hd
  have H2 := Lib.hid hB0
  have H3 := Lib.hid hrow
  have HDB := Lib.hid hr.db
  have HDV := Lib.hid hr.dv
  have HBV := Lib.hid hr.bv
  clear hm hd hB0 hrow hr
  generalize hP : pe.length = P at *
  have HP := Lib.hid hP
  clear hP
  go_enter Try.func37, Try.ntmps37
  go_wp2_with fail
  go_loopw [4] (fun i wr => ∃ k : Nat, k ≤ P ∧ i = .int .i64 (k : Int) ∧ Blk wr D 62 #[.slice (some ⟨B, 0, none⟩) bl.length bl.length, .slice A P cap, .bool down, .int .i64 (steps : Int), .int .u64 (mask : Int)] ∧ Blk wr B 9 (strs (surv m bl pe k)) ∧ wr.ownsRow K 68 2 (.slice A P cap) P (wcells pe) ∧ Kp (fun i => i = B) w wr) (fun i _ => P - (intOf i).toNat)
  case atStart => exact ⟨0, by omega, rfl, H1.out, H2.out, H3.out, Kp.refl _ _⟩
  case round =>
    obtain ⟨k, hk, rfl, e1, e2, e3, e5⟩ := hrel
    clear H1 H2 H3
    have d0 := e1.cell 0
    have d1 := e1.cell 1
    simp at d0 d1
    have l1 := e1.lt
    by_cases hlk : k < P
    · have hm' : k < pe.length := by rw [HP.out]; exact hlk
      obtain ⟨g, cap', e, -, hgl, hcell⟩ := row_cells e3 (by omega)
      injection e with e1' e2' e3'
      subst e1' e3'
      have hx := List.getElem?_eq_getElem hm'
      generalize pe[k] = x at hx
      have HX := Lib.hid hx
      have hxin := hinb.out x (List.mem_of_getElem? hx)
      have p0 : wr.cell? ⟨g, k * 2, none⟩ = some (.int .i64 (x.1 : Int)) := (hcell _ (by omega)).trans (wcells_at pe HX.out).1
      have p1 : wr.cell? ⟨g, k * 2 + 1, none⟩ = some (.string x.2) := (hcell _ (by omega)).trans (wcells_at pe HX.out).2
      obtain ⟨q, hq⟩ : ∃ q, q = k % 64 := ⟨_, rfl⟩
      have hq1 : (k : Int) % 64 = (q : Int) := by omega
      have hq2 : q < 64 := by omega
      have hbit0 := bit_and m q HM.out
      have HQ := Lib.hid hq
      obtain ⟨z, hz⟩ : ∃ z, wr.cell? ⟨B, x.1, none⟩ = some z := by
        rw [e2.cell x.1, strs_get, List.getElem?_eq_getElem (by rw [surv_len]; exact hxin)]
        exact ⟨_, rfl⟩
      have hzf := e2.frozen x.1
      have l2 := e2.lt
      have E1 := Lib.hid e1
      have E2 := Lib.hid e2
      have E3 := Lib.hid e3
      have E5 := Lib.hid e5
      clear e1 e2 e3 e5 hx hcell hm' hq
      cases hbit : m.testBit q
      · rw [hbit] at hbit0
        have HN : Hid (surv m bl pe (k + 1) = surv m bl pe k) := Lib.hid (by rw [surv_succ m bl pe HX.out, ← HQ.out, hbit, if_neg (by simp)])
        clear hbit
        go_wp2
        go_round
        case rel => exact ⟨k + 1, by omega, by go_num, E1.out, by rw [HN.out]; exact E2.out, E3.out, E5.out⟩
        case measure => simp [intOf]; omega
      · rw [hbit] at hbit0
        have HN : Hid (surv m bl pe (k + 1) = (surv m bl pe k).set x.1 x.2) := Lib.hid (by rw [surv_succ m bl pe HX.out, ← HQ.out, hbit, if_pos rfl])
        clear hbit
        have hdb := HDB.out
        go_wp2_with fail
        go_region_with (fail)
        all_goals
          go_wp2
          go_round
          case rel => exact ⟨k + 1, by omega, by go_num, (by (repeat (first | with_reducible exact E1.out | with_reducible refine Blk.far ?_ ?_ _ | with_reducible refine Blk.drew ?_ | with_reducible refine Blk.alloc ?_ _)) <;> (dsimp only; omega)), (by rw [HN.out, ← strs_set]; first | exact (E2.out.set_ x.1 _).drew | exact E2.out.drew.set_ x.1 _), (by (repeat (first | with_reducible exact E3.out | with_reducible refine row_set ?_ ?_ _ | with_reducible refine row_drew ?_ | with_reducible refine row_alloc ?_ _)) <;> (first | exact HBV.out | (dsimp only; omega))), (by (repeat (first | with_reducible exact E5.out | with_reducible refine Kp.set ?_ ?_ _ | with_reducible refine Kp.drew ?_ | with_reducible refine Kp.alloc ?_ _)) <;> exact .inl rfl)⟩
          case measure => simp [intOf]; omega
    · obtain rfl : k = P := by omega
      have d2 := e1.cell 2
      have d3 := e1.cell 3
      have d4 := e1.cell 4
      have f1 := e1.frozen 1
      have f2 := e1.frozen 2
      have f3 := e1.frozen 3
      have f4 := e1.frozen 4
      simp at d2 d3 d4
      have E1 := Lib.hid e1
      have E2 := Lib.hid e2
      have E5 := Lib.hid e5
      clear e1 e2 e3 e5
      have HL := Lib.hid (surv_len m bl pe k)
      have HDS : Hid (crashR ⟨bl, pe, down, steps, mask⟩ m = ⟨surv m bl pe k, [], true, 0, 0⟩) := Lib.hid (by unfold crashR crashS; simp only [HP.out])
      go_wp2
      go_end0
      refine ⟨rfl, ?_⟩
      rw [HDS.out]
      refine ⟨⟨?_, ?_, World.ownsRow_nil _ _ _ _, HDB.out, by simp [Value.ownBlock], by simp [Value.ownBlock], HR.out.kd, HR.out.kb, by simp, by simp only [HL.out]; exact lb, by simp, by simp, by simp⟩, ?_, by simp [Value.ownBlock]⟩
      · simp only [HL.out]
        exact (((E1.out.set_ 1 (.slice none 0 0)).set_ 2 (.bool true)).set_ 3 (.int .i64 0)).set_ 4 (.int .u64 0)
      · have hdb := HDB.out
        exact (((E2.out.far (p := ⟨D, 1, none⟩) (Ne.symm hdb) _).far (p := ⟨D, 2, none⟩) (Ne.symm hdb) _).far (p := ⟨D, 3, none⟩) (Ne.symm hdb) _).far (p := ⟨D, 4, none⟩) (Ne.symm hdb) _
      · exact ((((E5.out.weak (S' := Own D B _) (fun i hi => .inr (.inl hi))).set (.inl (.inl rfl)) _).set (.inl (.inl rfl)) _).set (.inl (.inl rfl)) _).set (.inl (.inl rfl)) _
end Go.Proofs.Ytkfiekpinojahaa.R
