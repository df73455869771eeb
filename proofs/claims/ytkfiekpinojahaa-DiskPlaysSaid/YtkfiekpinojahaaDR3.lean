/-
  CONTRACTS of disk's specification: Crash, Flush.
-/
import Derived.Test.YtkfiekpinojahaaDR2
namespace Go.Proofs.Ytkfiekpinojahaa.R
open Go.RowKit
set_option linter.unusedVariables false
set_option linter.unusedSimpArgs false
def crashU (s : DSt) (m : Nat) : DSt := if s.down = true then s else crashR s m
theorem Crash_any (K D B : Nat) (v : Value) (s : DSt) (w : World) (hr : Rep w K D B v s) (m : Nat) (hm : m < 18446744073709551616) : Calls Try.prog 30 #[.pointer (some ⟨D, 0, none⟩), .int .u64 (m : Int)] w fun e w' => e = .returned (.int .i64 (if s.down = true then 13 else 0)) ∧ ∃ v', Left w w' K D B v v' (crashU s m) := by
  have hK : K ≤ w.heap.size := Nat.le_of_lt (Nat.lt_of_le_of_lt hr.kd hr.disk.lt)
  have CC := Lib.hid (crash_any K D B v s w hr m hm)
  have HL := Lib.hid (Left.same hr (Below.refl _ _))
  have d2 := hr.disk.cell 2
  simp at d2
  have hlt := hr.disk.lt
  clear hr hm hK
  cases hd : s.down
  · rw [hd] at d2
    have HT : Hid (crashU s m = crashR s m) := Lib.hid (by unfold crashU; rw [hd, if_neg (by simp)])
    clear hd
    go_enter Try.func30, Try.ntmps30
    go_wp2_with fail
    refine CC.out.mono ?_
    rintro e w1 ⟨rfl, h1⟩
    go_wp2
    go_ret
    exact ⟨rfl, _, by rw [HT.out]; exact h1⟩
  · rw [hd] at d2
    have HT : Hid (crashU s m = s) := Lib.hid (by unfold crashU; rw [hd, if_pos rfl])
    clear hd
    go_enter Try.func30, Try.ntmps30
    go_wp2_with fail
    go_ret
    exact ⟨rfl, _, by rw [HT.out]; exact HL.out⟩
def flushR (s : DSt) : DSt := if s.down = true then s else if s.steps = 1 then crashR { s with steps := s.steps - 1 } s.mask else { s with bl := appl s.bl s.pe, pe := [], steps := s.steps - 1 }
set_option maxHeartbeats 1600000 in
theorem flush_any (K D B : Nat) (v : Value) (s : DSt) (w : World) (hr : Rep w K D B v s) : Calls Try.prog 29 #[.pointer (some ⟨D, 0, none⟩)] w fun e w' => e = .returned (.int .i64 (flushE s)) ∧ ∃ v', Left w w' K D B v v' (flushR s) := by
  have NW := Lib.hid (now_any K D B v s w hr)
  have HL := Lib.hid (Left.same hr (Below.refl _ _))
  have d2 := hr.disk.cell 2
  simp at d2
  have hlt := hr.disk.lt
  have HM := Lib.hid hr.lm
  clear hr
  cases hd : s.down
  case true =>
    rw [hd] at d2
    have HE : Hid (flushE s = 13) := Lib.hid (by unfold flushE; rw [hd, if_pos rfl])
    have HT : Hid (flushR s = s) := Lib.hid (by unfold flushR; rw [hd, if_pos rfl])
    generalize flushE s = c at *
    clear hd
    go_enter Try.func29, Try.ntmps29
    go_wp2_with fail
    go_ret
    exact ⟨ret_eq HE.out, _, by rw [HT.out]; exact HL.out⟩
  rw [hd] at d2
  by_cases h1 : s.steps = 1
  · have HE : Hid (flushE s = 13) := Lib.hid (by unfold flushE; rw [hd, if_neg (by simp), if_pos h1])
    have HT : Hid (flushR s = crashR { s with steps := s.steps - 1 } s.mask) := Lib.hid (by unfold flushR; rw [hd, if_neg (by simp), if_pos h1])
    generalize flushE s = c at *
    have H1 := Lib.hid (decide_eq_true h1)
    rw [H1.out] at NW
    clear hd h1
    go_enter Try.func29, Try.ntmps29
    go_wp2_with fail
    refine NW.out.mono ?_
    rintro e w1 ⟨rfl, h1⟩
    have HL1 := Lib.hid h1
    have hr1 := h1.rep
    have CC := Lib.hid (crash_any K D B v _ w1 hr1 s.mask HM.out)
    have a4 := hr1.disk.cell 4
    simp at a4
    have l1 := hr1.disk.lt
    clear h1 hr1
    go_wp2_with fail
    refine CC.out.mono ?_
    rintro e w2 ⟨rfl, h2⟩
    go_wp2
    go_ret
    exact ⟨ret_eq HE.out, _, by rw [HT.out]; exact HL1.out.trans h2⟩
  have HE : Hid (flushE s = 0) := Lib.hid (by unfold flushE; rw [hd, if_neg (by simp), if_neg h1])
  have HT : Hid (flushR s = { s with bl := appl s.bl s.pe, pe := [], steps := s.steps - 1 }) := Lib.hid (by unfold flushR; rw [hd, if_neg (by simp), if_neg h1])
  generalize flushE s = c at *
  have H1 := Lib.hid (decide_eq_false h1)
  rw [H1.out] at NW
  clear h1
  go_enter Try.func29, Try.ntmps29
  go_wp2_with fail
  refine NW.out.mono ?_
  rintro e w1 ⟨rfl, h1⟩
  have HL1 := Lib.hid h1
  have hr1 := h1.rep
  clear h1 NW HL d2 hlt
  have HS1 := Lib.hid hr1
  obtain ⟨A, cap, rfl⟩ := row_form hr1.row
  have hdk := hr1.disk
  simp only at hdk
  have d0 := hdk.cell 0
  have d1 := hdk.cell 1
  simp at d0 d1
  have hlt := hdk.lt
  have lb := hr1.lb
  have lp := hr1.lp
  simp only at lb lp
  have hB0 : Blk w1 B 9 (strs (appl s.bl (s.pe.take 0))) := hr1.blocks
  have hrow := hr1.row
  have hinb := Lib.hid hr1.inb
  simp only at hrow hinb
  have G1 := Lib.hid hdk
  have G2 := Lib.hid hB0
  have G3 := Lib.hid hrow
  have HDB := Lib.hid hr1.db
  have HDV := Lib.hid hr1.dv
  have HBV := Lib.hid hr1.bv
  clear hdk hB0 hrow hr1
  obtain ⟨bl, pe, down, steps, mask⟩ := s
  simp only at *
  subst hd
  generalize hP : pe.length = P at *
  have HP := Lib.hid hP
  clear hP
  go_wp2_with fail
  go_loopw [3] (fun i wr => ∃ k : Nat, k ≤ P ∧ i = .int .i64 (k : Int) ∧ Blk wr D 62 #[.slice (some ⟨B, 0, none⟩) bl.length bl.length, .slice A P cap, .bool false, .int .i64 ((steps - 1 : Nat) : Int), .int .u64 (mask : Int)] ∧ Blk wr B 9 (strs (appl bl (pe.take k))) ∧ wr.ownsRow K 68 2 (.slice A P cap) P (wcells pe) ∧ Kp (fun i => i = B) w1 wr) (fun i _ => P - (intOf i).toNat)
  case atStart => exact ⟨0, by omega, rfl, G1.out, G2.out, G3.out, Kp.refl _ _⟩
  case round =>
    obtain ⟨k, hk, rfl, e1, e2, e3, e5⟩ := hrel
    clear G1 G2 G3 d0 d1
    have d0 := e1.cell 0
    have d1 := e1.cell 1
    simp at d0 d1
    have l1 := e1.lt
    by_cases hlk : k < P
    · have hm' : k < pe.length := by rw [HP.out]; exact hlk
      obtain ⟨g, cap', e, -, hgl, hcell⟩ := row_cells e3 (by omega)
      injection e with e1' e2' e3'
      subst e1' e3'
      have hx := List.getElem?_eq_getElem hm'
      generalize pe[k] = x at hx
      have HX := Lib.hid hx
      have hxin := hinb.out x (List.mem_of_getElem? hx)
      have p0 : wr.cell? ⟨g, k * 2, none⟩ = some (.int .i64 (x.1 : Int)) := (hcell _ (by omega)).trans (wcells_at pe HX.out).1
      have p1 : wr.cell? ⟨g, k * 2 + 1, none⟩ = some (.string x.2) := (hcell _ (by omega)).trans (wcells_at pe HX.out).2
      obtain ⟨z, hz⟩ : ∃ z, wr.cell? ⟨B, x.1, none⟩ = some z := by
        rw [e2.cell x.1, strs_get, List.getElem?_eq_getElem (by rw [appl_len]; exact hxin)]
        exact ⟨_, rfl⟩
      have hzf := e2.frozen x.1
      have l2 := e2.lt
      have E1 := Lib.hid e1
      have E2 := Lib.hid e2
      have E3 := Lib.hid e3
      have E5 := Lib.hid e5
      clear e1 e2 e3 e5 hx hcell hm'
      have HN : Hid (appl bl (pe.take (k + 1)) = (appl bl (pe.take k)).set x.1 x.2) := Lib.hid (appl_take bl pe HX.out)
      have hdb := HDB.out
      go_wp2_with fail
      go_region_with (fail)
      all_goals
        go_wp2
        go_round
        case rel => exact ⟨k + 1, by omega, by go_num, (by (repeat (first | with_reducible exact E1.out | with_reducible refine Blk.far ?_ ?_ _ | with_reducible refine Blk.drew ?_ | with_reducible refine Blk.alloc ?_ _)) <;> (dsimp only; omega)), (by rw [HN.out, ← strs_set]; first | exact (E2.out.set_ x.1 _).drew | exact E2.out.drew.set_ x.1 _), (by (repeat (first | with_reducible exact E3.out | with_reducible refine row_set ?_ ?_ _ | with_reducible refine row_drew ?_ | with_reducible refine row_alloc ?_ _)) <;> (first | exact HBV.out | (dsimp only; omega))), (by (repeat (first | with_reducible exact E5.out | with_reducible refine Kp.set ?_ ?_ _ | with_reducible refine Kp.drew ?_ | with_reducible refine Kp.alloc ?_ _)) <;> exact .inl rfl)⟩
        case measure => simp [intOf]; omega
    · obtain rfl : k = P := by omega
      have f1 := e1.frozen 1
      have E1 := Lib.hid e1
      have E2 := Lib.hid e2
      have E5 := Lib.hid e5
      clear e1 e2 e3 e5
      have HL := Lib.hid (appl_len bl pe)
      have HTK : Hid (appl bl (pe.take k) = appl bl pe) := Lib.hid (by rw [List.take_of_length_le (Nat.le_of_eq HP.out)])
      go_wp2
      go_ret
      refine ⟨ret_eq HE.out, .slice none 0 0, ?_⟩
      rw [HT.out]
      show Left w _ K D B (.slice A pe.length cap) _ _
      rw [HP.out]
      refine HL1.out.trans (show Left w1 (wr.setCell ⟨D, 1, none⟩ (.slice none 0 0)) K D B (.slice A k cap) (.slice none 0 0) ⟨appl bl pe, [], false, steps - 1, mask⟩ from ?_)
      refine ⟨⟨?_, ?_, World.ownsRow_nil _ _ _ _, HDB.out, by simp [Value.ownBlock], by simp [Value.ownBlock], HS1.out.kd, HS1.out.kb, by simp, by simp only [HL.out]; exact lb, by simp, HS1.out.ls, HS1.out.lm⟩, ?_, by simp [Value.ownBlock]⟩
      · simp only [HL.out]
        exact E1.out.set_ 1 (.slice none 0 0)
      · have hdb := HDB.out
        have := E2.out
        rw [HTK.out] at this
        exact this.far (p := ⟨D, 1, none⟩) (Ne.symm hdb) _
      · exact (E5.out.weak (S' := Own D B _) (fun i hi => .inr (.inl hi))).set (.inl (.inl rfl)) _
end Go.Proofs.Ytkfiekpinojahaa.R
