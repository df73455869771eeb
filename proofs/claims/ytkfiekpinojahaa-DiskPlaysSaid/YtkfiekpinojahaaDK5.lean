/-
  CONTRACTS of disk: a crash.
-/
import Derived.Test.YtkfiekpinojahaaDK4
namespace Go.Proofs.Ytkfiekpinojahaa
open Go.RowKit
set_option linter.unusedVariables false
set_option linter.unusedSimpArgs false
/-- The blocks after those of the first k writes that survive. -/
def surv (m : Nat) (l : List ByteArray) (pe : List (Nat × ByteArray)) (k : Nat) : List ByteArray :=
  (List.range k).foldl (fun l j => if m.testBit (j % 64) = true then (match pe[j]? with | some x => l.set x.1 x.2 | none => l) else l) l
theorem surv_succ (m : Nat) (l : List ByteArray) (pe : List (Nat × ByteArray)) {k : Nat} {x : Nat × ByteArray} (h : pe[k]? = some x) : surv m l pe (k + 1) = if m.testBit (k % 64) = true then (surv m l pe k).set x.1 x.2 else surv m l pe k := by
  unfold surv
  rw [List.range_succ, List.foldl_append]
  simp only [List.foldl_cons, List.foldl_nil, h]
theorem surv_len (m : Nat) (l : List ByteArray) (pe : List (Nat × ByteArray)) (k : Nat) : (surv m l pe k).length = l.length := by
  induction k with
  | zero => rfl
  | succ k ih =>
    cases h : pe[k]? with
    | some x =>
      rw [surv_succ m l pe h]
      split <;> simp [ih]
    | none =>
      unfold surv
      rw [List.range_succ, List.foldl_append]
      simp only [List.foldl_cons, List.foldl_nil, h, ite_self]
      exact ih
theorem strs_set (l : List ByteArray) (i : Nat) (t : ByteArray) : (strs l).setIfInBounds i (.string t) = strs (l.set i t) := by
  simp [strs, List.map_set]
theorem strs_size (l : List ByteArray) : (strs l).size = l.length := by simp [strs]
def crashS (s : DSt) (m : Nat) : DSt := { s with bl := surv m s.bl s.pe s.pe.length, pe := [], down := true, steps := 0 }
theorem copy64 (g h m : Nat) (w : World) (hg : Blk w g 69 (bA 0 0)) (hh : Blk w h 4 (bA m 64)) : ∃ w', (Builtin.copy_ #[70, 70] 3 #[.slice (some ⟨g, 0, none⟩) 64 64, .slice (some ⟨h, 0, none⟩) 64 64]).run Try.prog w = .ok (.int .i64 64) w' ∧ Blk w' g 69 (bA m 64) ∧ Kp (fun k => k = g) w w' := by
  obtain ⟨i, hi, hz, h1, h2⟩ := info_parts bool_info
  have hl : (bA m 64).toList.length = 64 := by simp [bA]
  have h := run_copy_row (P := Try.prog) w 70 70 3 4 g 0 64 64 ⟨h, 0, none⟩ 64 64 (bA 0 0) 69 (bA m 64).toList Try.underlying70 (by rw [hi]; simp [h1]) hg (by rw [hl]; rfl) (fun j u hu => by
    have : (⟨h, 0, none⟩ : Addr).add j = ⟨h, j, none⟩ := by unfold Addr.add; split <;> simp_all
    rw [this, hh.cell j]
    simpa using hu) (by rw [hl, bA_size]; omega) (fun u hu => by
      simp only [bA, List.mem_map] at hu
      obtain ⟨k, _, rfl⟩ := hu
      rfl)
  have ha : ((bA 0 0).toList.take 0 ++ (bA m 64).toList ++ (bA 0 0).toList.drop (0 + (bA m 64).toList.length)).toArray = bA m 64 := by
    rw [hl]
    simp [bA]
  rw [ha, hl] at h
  exact ⟨w.setRow g (bA m 64), h, setRow_heap w g (bA 0 0) _ 69 (0, 0) hg, ⟨rfl, rfl, rfl, by simp [World.setRow], fun k hk hn => setRow_other w g k _ hn⟩⟩
theorem row_drew {a : World} {K : Nat} {e : TypeId} {z n : Nat} {v : Value} {xs : List Value} (hr : a.ownsRow K e z v n xs) : a.drew.ownsRow K e z v n xs := hr
set_option maxHeartbeats 1600000 in
theorem crash_any (K D B : Nat) (v : Value) (s : DSt) (w : World) (hr : Rep w K D B v s) (hK : K ≤ w.heap.size) (m : Nat) (hm : m < 18446744073709551616) : Calls Try.prog 34 #[.pointer (some ⟨D, 0, none⟩), .int .u64 (m : Int)] w fun e w' => e = .returned (.tuple #[]) ∧ Left w w' K D B v (.slice none 0 0) (crashS s m) := by
  have hS : Blk (w.alloc (.cells (bA 0 0) 69)) w.heap.size 69 (bA 0 0) := Blk.new _ _ _
  have HM := Lib.hid hm
  clear hm
  go_enter Try.func34, Try.ntmps34
  go_wp2_with fail
  refine world_of (fun W => Blk W w.heap.size 69 (bA 0 0) ∧ Below w.heap.size w W ∧ W.heap.size = w.heap.size + 1) ⟨hS, (Below.refl _ _).alloc (Nat.le_refl _) _, by simp⟩ ?_
  rintro W ⟨hbS, hBW, hsz⟩
  go_region_with (first | ((with_reducible refine (bits_any m HM.out _).mono ?_); rintro e w1 ⟨rfl, hb1, hB1⟩; have hb1' : Blk w1 (w.heap.size + 1) 4 (bA m 64) := (by have := hb1; simpa [hsz] using this); have hS1 : Blk w1 w.heap.size 69 (bA 0 0) := hbS.drew.below hB1 (by simp [hsz]); obtain ⟨w2, hcp, hb2, hk2⟩ := copy64 w.heap.size (w.heap.size + 1) m w1 hS1 hb1'; clear hb1 hb1' hS1))
  have hK2 : Kp (fun k => k = w.heap.size) w w2 := ((Kp.of hBW).drew.trans (Kp.of hB1)).trans hk2
  have hr2 : Rep w2 K D B v s := hr.kp hK2 (fun i hi e => by have := (hr.lt hi).2; omega)
  have HSD : Hid (D < w.heap.size) := Lib.hid hr.disk.lt
  have HSB : Hid (B < w.heap.size) := Lib.hid hr.blocks.lt
  have hSO : Hid (¬ Own D B v w.heap.size) := Lib.hid (fun ho => by have := (hr.lt ho).2; omega)
  have HR := Lib.hid hr
  have HK := Lib.hid hK2
  have hS2 : w.heap.size < w2.heap.size := hb2.lt
  clear hcp hk2 hB1 hbS hBW hsz hS hr hK2
  obtain ⟨A, cap, rfl⟩ := row_form hr2.row
  obtain ⟨bl, pe, down, steps, mask⟩ := s
  have hd := hr2.disk
  simp only at hd
  have d0 := hd.cell 0
  have d1 := hd.cell 1
  simp at d0 d1
  have lb := hr2.lb
  have lp := hr2.lp
  simp only at lb lp
  have hB0 : Blk w2 B 9 (strs (surv m bl pe 0)) := hr2.blocks
  have hrow := hr2.row
  have hinb := Lib.hid hr2.inb
  simp only at hrow hinb
  have H1 := Lib.hid hd
  have H2 := Lib.hid hB0
  have H3 := Lib.hid hrow
  have H4 := Lib.hid hb2
  have H5 : Hid (Kp (fun i => i = B) w w2) := Lib.hid ((Kp.refl _ w).then HK.out (fun i hi e => by omega))
  have HDB := Lib.hid hr2.db
  have HDV := Lib.hid hr2.dv
  have HBV := Lib.hid hr2.bv
  clear hd hB0 hrow hb2 HK hr2
  generalize hP : pe.length = P at *
  have HP := Lib.hid hP
  clear hP
  go_wp2
  go_loopw [16] (fun i wr => ∃ k : Nat, k ≤ P ∧ i = .int .i64 (k : Int) ∧ Blk wr D 59 #[.slice (some ⟨B, 0, none⟩) bl.length bl.length, .slice A P cap, .bool down, .int .i64 (steps : Int), .int .u64 (mask : Int)] ∧ Blk wr B 9 (strs (surv m bl pe k)) ∧ wr.ownsRow K 65 2 (.slice A P cap) P (wcells pe) ∧ Blk wr w.heap.size 69 (bA m 64) ∧ Kp (fun i => i = B) w wr) (fun i _ => P - (intOf i).toNat)
  case atStart => exact ⟨0, by omega, rfl, H1.out, H2.out, H3.out, H4.out, H5.out⟩
  case round =>
    obtain ⟨k, hk, rfl, e1, e2, e3, e4, e5⟩ := hrel
    clear H1 H2 H3 H4 H5 d0 d1
    by_cases hlk : k < P
    · have hm' : k < pe.length := by rw [HP.out]; exact hlk
      obtain ⟨g, cap', e, -, hgl, hcell⟩ := row_cells e3 (by omega)
      injection e with e1' e2' e3'
      subst e1' e3'
      have hx := List.getElem?_eq_getElem hm'
      generalize pe[k] = x at hx
      have HX := Lib.hid hx
      have hxin := hinb.out x (List.mem_of_getElem? hx)
      have p0 : wr.cell? ⟨g, k * 2, none⟩ = some (.int .i64 (x.1 : Int)) := (hcell _ (by omega)).trans (wcells_at pe HX.out).1
      have p1 : wr.cell? ⟨g, k * 2 + 1, none⟩ = some (.string x.2) := (hcell _ (by omega)).trans (wcells_at pe HX.out).2
      obtain ⟨q, hq⟩ : ∃ q, q = k % 64 := ⟨_, rfl⟩
      have hq1 : (k : Int) % 64 = (q : Int) := by omega
      have hq2 : q < 64 := by omega
      have c0 := e4.cell q
      rw [bA_get m 64 q hq2, decide_eq_true hq2] at c0
      simp only [Bool.true_and] at c0
      have HQ := Lib.hid hq
      have d0 := e1.cell 0
      simp at d0
      obtain ⟨z, hz⟩ : ∃ z, wr.cell? ⟨B, x.1, none⟩ = some z := by
        rw [e2.cell x.1, strs_get, List.getElem?_eq_getElem (by rw [surv_len]; exact hxin)]
        exact ⟨_, rfl⟩
      have hzf := e2.frozen x.1
      have l1 := e1.lt
      have l2 := e2.lt
      have l4 := e4.lt
      have E1 := Lib.hid e1
      have E2 := Lib.hid e2
      have E3 := Lib.hid e3
      have E4 := Lib.hid e4
      have E5 := Lib.hid e5
      clear e1 e2 e3 e4 e5 hx hcell hm' hq
      cases hbit : m.testBit q
      · rw [hbit] at c0
        have HBIT := Lib.hid hbit
        clear hbit
        have HN : Hid (surv m bl pe (k + 1) = surv m bl pe k) := Lib.hid (by rw [surv_succ m bl pe HX.out, ← HQ.out, HBIT.out, if_neg (by simp)])
        go_wp2
        go_round
        case rel => exact ⟨k + 1, by omega, by go_num, (by (repeat (first | with_reducible exact E1.out | with_reducible refine Blk.far ?_ ?_ _ | with_reducible refine Blk.drew ?_ | with_reducible refine Blk.alloc ?_ _)) <;> (dsimp only; omega)), by rw [HN.out]; exact E2.out.alloc _, (by (repeat (first | with_reducible exact E3.out | with_reducible refine row_set ?_ ?_ _ | with_reducible refine row_drew ?_ | with_reducible refine row_alloc ?_ _)) <;> (first | exact HBV.out | (dsimp only; omega))), (by (repeat (first | with_reducible exact E4.out | with_reducible refine Blk.far ?_ ?_ _ | with_reducible refine Blk.drew ?_ | with_reducible refine Blk.alloc ?_ _)) <;> (dsimp only; omega)), (by (repeat (first | with_reducible exact E5.out | with_reducible refine Kp.set ?_ ?_ _ | with_reducible refine Kp.drew ?_ | with_reducible refine Kp.alloc ?_ _)) <;> exact .inl rfl)⟩
        case measure => simp [intOf]; omega
      · rw [hbit] at c0
        have HBIT := Lib.hid hbit
        clear hbit
        have HN : Hid (surv m bl pe (k + 1) = (surv m bl pe k).set x.1 x.2) := Lib.hid (by rw [surv_succ m bl pe HX.out, ← HQ.out, HBIT.out, if_pos rfl])
        have hdb := HDB.out
        have hsB : w.heap.size ≠ B := by have := HSB.out; omega
        have hsD : w.heap.size ≠ D := by have := HSD.out; omega
        go_wp2_with fail
        go_region_with (fail)
        all_goals
          go_wp2
          go_round
          case rel => exact ⟨k + 1, by omega, by go_num, (by (repeat (first | with_reducible exact E1.out | with_reducible refine Blk.far ?_ ?_ _ | with_reducible refine Blk.drew ?_ | with_reducible refine Blk.alloc ?_ _)) <;> (dsimp only; omega)), (by rw [HN.out, ← strs_set]; first | exact (((E2.out.set_ x.1 _).alloc _).drew) | exact ((E2.out.alloc _).drew.set_ x.1 _)), (by (repeat (first | with_reducible exact E3.out | with_reducible refine row_set ?_ ?_ _ | with_reducible refine row_drew ?_ | with_reducible refine row_alloc ?_ _)) <;> (first | exact HBV.out | (dsimp only; omega))), (by (repeat (first | with_reducible exact E4.out | with_reducible refine Blk.far ?_ ?_ _ | with_reducible refine Blk.drew ?_ | with_reducible refine Blk.alloc ?_ _)) <;> (dsimp only; omega)), (by (repeat (first | with_reducible exact E5.out | with_reducible refine Kp.set ?_ ?_ _ | with_reducible refine Kp.drew ?_ | with_reducible refine Kp.alloc ?_ _)) <;> exact .inl rfl)⟩
          case measure => simp [intOf]; omega
    · obtain rfl : k = P := by omega
      have d0 := e1.cell 0
      have d1 := e1.cell 1
      have d2 := e1.cell 2
      have d3 := e1.cell 3
      have f1 := e1.frozen 1
      have f2 := e1.frozen 2
      have f3 := e1.frozen 3
      simp at d0 d1 d2 d3
      have l1 := e1.lt
      have E1 := Lib.hid e1
      have E2 := Lib.hid e2
      have E5 := Lib.hid e5
      clear e1 e2 e3 e4 e5
      have HL := Lib.hid (surv_len m bl pe k)
      have HLM := Lib.hid HR.out.lm
      have HKD := Lib.hid HR.out.kd
      have HKB := Lib.hid HR.out.kb
      have HDS : Hid (crashS ⟨bl, pe, down, steps, mask⟩ m = ⟨surv m bl pe k, [], true, 0, mask⟩) := Lib.hid (by unfold crashS; simp only [HP.out])
      go_wp2
      go_end0
      refine ⟨rfl, ?_⟩
      rw [HDS.out]
      refine ⟨⟨?_, ?_, World.ownsRow_nil _ _ _ _, HDB.out, by simp [Value.ownBlock], by simp [Value.ownBlock], HKD.out, HKB.out, by simp, by simp only [HL.out]; exact lb, by simp, by simp, HLM.out⟩, ?_, by simp [Value.ownBlock]⟩
      · simp only [HL.out]
        exact ((E1.out.set_ 1 (.slice none 0 0)).set_ 3 (.int .i64 0)).set_ 2 (.bool true)
      · have hdb := HDB.out
        exact ((E2.out.far (p := ⟨D, 1, none⟩) (Ne.symm hdb) _).far (p := ⟨D, 3, none⟩) (Ne.symm hdb) _).far (p := ⟨D, 2, none⟩) (Ne.symm hdb) _
      · exact (((E5.out.weak (S' := Own D B _) (fun i hi => .inr (.inl hi))).set (.inl (.inl rfl)) _).set (.inl (.inl rfl)) _).set (.inl (.inl rfl)) _
end Go.Proofs.Ytkfiekpinojahaa
