/-
  CONTRACTS of bitmaps: the program's Has and Encode.
-/
import Derived.Test.YtacdfhgamjinbaaDoorB3
import Derived.Deep.RegionHeld3
namespace Go.Proofs.YtacdfhgamjinbaaDoor
open Go.RowKit
set_option linter.unusedVariables false
theorem bm_ne (n : Nat) : ¬ (((hiN n : Nat) : Int) = 0 ∧ ((loN n : Nat) : Int) = 0) := by
  unfold hiN loN
  split
  · have := Nat.pos_of_ne_zero (n := 2 ^ (64 - n)) (by simp)
    omega
  · have := Nat.pos_of_ne_zero (n := 2 ^ (128 - n)) (by simp)
    omega
theorem has_in (a b n : Nat) (ha : a < 18446744073709551616) (hb : b < 18446744073709551616) (h2 : 2 ≤ n) (h : n ≤ 128) (w : World) :
    Calls Tryd.prog 13 #[bmV a b, .int .i64 (n : Int)] w fun e w' => e = .returned (.bool (decide (clrN (a ||| hiN n) = clrN a ∧ b ||| loN n = b))) ∧ Below w.heap.size w w' := by
  have hz : ∀ w : World, (zeroValue 24).run Tryd.prog w = .ok (.agg #[.int .u64 0, .int .u64 0]) w := fun _ => by kernel_rfl
  have HX : Hid (hiN n < 18446744073709551616 ∧ loN n < 18446744073709551616) := Lib.hid ⟨Nat.lt_trans (hi_lt n h2) (by decide), lo_lt n⟩
  have HU := Lib.hid (fun w => union_any a b (hiN n) (loN n) ha hb HX.out.1 HX.out.2 w)
  have HM := Lib.hid (fun w => numbers_any a b ha w)
  have he : ∀ w : World, (Op.equalIn 10000 24 (.agg #[.int .u64 (hiN n : Int), .int .u64 (loN n : Int)]) (.agg #[.int .u64 0, .int .u64 0])).run Tryd.prog w = .ok false w := fun w => by rw [eq_arr, decide_eq_false (bm_ne n)]
  have he2 : ∀ w : World, (Op.equalIn 10000 24 (.agg #[.int .u64 (clrN (a ||| hiN n) : Int), .int .u64 ((b ||| loN n : Nat) : Int)]) (.agg #[.int .u64 (clrN a : Int), .int .u64 (b : Int)])).run Tryd.prog w = .ok (decide (clrN (a ||| hiN n) = clrN a ∧ b ||| loN n = b)) w := fun w => by rw [eq_arr]; congr 2; simp only [Int.ofNat_inj]
  go_enter Tryd.func13, Tryd.ntmps13
  go_wp2_with fail
  refine (single_in n h2 h _).mono ?_
  rintro e w1 ⟨rfl, hb1⟩
  have hA : Blk w1 (w.heap.size) 24 #[.int .u64 (a : Int), .int .u64 (b : Int)] := Blk.below (Blk.newAt rfl) hb1 (by simp)
  have hB1 : Below w.heap.size w w1 := ((Below.refl _ _).alloc (Nat.le_refl _) _).trans (hb1.mono (by simp))
  have hlt := hA.lt
  have hlt0 : w.heap.size < w1.heap.size := hlt
  have hA' : Blk (w1.alloc (.cells #[.int .u64 (hiN n : Int), .int .u64 (loN n : Int)] 24)) (w.heap.size) 24 #[.int .u64 (a : Int), .int .u64 (b : Int)] := hA.alloc _
  have hC' : Blk (w1.alloc (.cells #[.int .u64 (hiN n : Int), .int .u64 (loN n : Int)] 24)) (w1.heap.size) 24 #[.int .u64 (hiN n : Int), .int .u64 (loN n : Int)] := Blk.new _ _ _
  have KS : Hid (∀ w', Below (w1.heap.size + 1) (w1.alloc (.cells #[.int .u64 (hiN n : Int), .int .u64 (loN n : Int)] 24)) w' → Below (w1.heap.size + 1) (w1.alloc (.cells #[.int .u64 (hiN n : Int), .int .u64 (loN n : Int)] 24)) w' ∧ w'.cell? ⟨w.heap.size, 0, none⟩ = some (.int .u64 (a : Int)) ∧ w'.cell? ⟨w.heap.size, 1, none⟩ = some (.int .u64 (b : Int)) ∧ w'.cell? ⟨w1.heap.size, 0, none⟩ = some (.int .u64 (hiN n : Int)) ∧ w'.cell? ⟨w1.heap.size, 1, none⟩ = some (.int .u64 (loN n : Int))) :=
    Lib.hid fun w' hw => ⟨hw, (hA'.below hw (by omega)).cell 0, (hA'.below hw (by omega)).cell 1, (hC'.below hw (by omega)).cell 0, (hC'.below hw (by omega)).cell 1⟩
  have HB1 := Lib.hid hB1
  clear hA hA' hC' hB1 hb1 ha hb h2 h
  have hsz : (w1.alloc (.cells #[.int .u64 (hiN n : Int), .int .u64 (loN n : Int)] 24)).heap.size = w1.heap.size + 1 := by simp
  go_wp2_with fail
  go_region_held3 (fun w' => Below (w1.heap.size + 1) (w1.alloc (.cells #[.int .u64 (hiN n : Int), .int .u64 (loN n : Int)] 24)) w' ∧ w'.cell? ⟨w.heap.size, 0, none⟩ = some (.int .u64 (a : Int)) ∧ w'.cell? ⟨w.heap.size, 1, none⟩ = some (.int .u64 (b : Int)) ∧ w'.cell? ⟨w1.heap.size, 0, none⟩ = some (.int .u64 (hiN n : Int)) ∧ w'.cell? ⟨w1.heap.size, 1, none⟩ = some (.int .u64 (loN n : Int))) (first | exact KS.out _ ((Below.refl _ _).drew) | exact KS.out _ (Below.refl _ _) | exact KS.out _ ((Below.refl _ _).drew.trans (hbX.mono (by simp))) | exact KS.out _ (((Below.refl _ _).drew.trans (hbX.mono (by simp))).trans (hbY.mono (by have := hbX.size; simp at this; omega)))) (first | (go_at_call 23; refine (HU.out _).mono ?_; rintro e w2 ⟨rfl, hbX⟩) | (go_at_call 32; refine (HM.out _).mono ?_; rintro e w3 ⟨rfl, hbY⟩))
  all_goals go_wp2
  all_goals go_ret
  all_goals exact ⟨ret_boolv (by rw [Bool.decide_and]), ((HB1.out.alloc (Nat.le_of_lt hlt0) _).drew.trans (hbX.mono (by simp; omega))).trans (hbY.mono (by have := hbX.size; simp at this; omega))⟩
def encS (a b : Nat) : ByteArray := if b = 0 then hexS (clrN a) 16 else hexS (clrN a ||| 9223372036854775808) 16 ++ hexS b 16
set_option maxHeartbeats 1000000 in
theorem encode_any (a b : Nat) (ha : a < 18446744073709551616) (hb : b < 18446744073709551616) (w : World) (hT : Tab w) :
    Calls Tryd.prog 29 #[bmV a b] w fun e w' => e = .returned (.string (encS a b)) ∧ Below w.heap.size w w' := by
  have hz : ∀ w : World, (zeroValue 24).run Tryd.prog w = .ok (.agg #[.int .u64 0, .int .u64 0]) w := fun _ => by kernel_rfl
  obtain ⟨ca, hca⟩ : ∃ c, c = clrN a := ⟨_, rfl⟩
  have hcl : ca < 9223372036854775808 := hca ▸ clrN_lt a
  have ho := or_val ca 9223372036854775808 (Nat.lt_trans hcl (by decide)) (by decide)
  rw [show (((9223372036854775808 : Nat) : Int)) = 9223372036854775808 from rfl] at ho
  obtain ⟨u, hu⟩ : ∃ u, u = ca ||| 9223372036854775808 := ⟨_, rfl⟩
  have hul : u < 18446744073709551616 := hu ▸ or64 (Nat.lt_trans hcl (by decide)) (by decide)
  rw [← hu] at ho
  have HN : Hid (∀ w, Calls Tryd.prog 32 #[bmV a b] w fun e w' => e = .returned (bmV ca b) ∧ Below w.heap.size w w') := Lib.hid (hca ▸ numbers_any a b ha)
  have HXA : Hid (∀ W, Tab W → Calls Tryd.prog 38 #[.int .u64 (ca : Int)] W fun e w' => e = .returned (.string (hexS ca 16)) ∧ Below W.heap.size W w') := Lib.hid fun W h => hex_any ca (Nat.lt_trans hcl (by decide)) W h
  have HXU : Hid (∀ W, Tab W → Calls Tryd.prog 38 #[.int .u64 (bits BinOp.or IntKind.u64 (ca : Int) 9223372036854775808)] W fun e w' => e = .returned (.string (hexS u 16)) ∧ Below W.heap.size W w') := Lib.hid fun W h => by rw [ho]; exact hex_any u hul W h
  have HXB : Hid (∀ W, Tab W → Calls Tryd.prog 38 #[.int .u64 (b : Int)] W fun e w' => e = .returned (.string (hexS b 16)) ∧ Below W.heap.size W w') := Lib.hid fun W h => hex_any b hb W h
  have HE0 : Hid (b = 0 → encS a b = hexS ca 16) := Lib.hid fun h => by rw [encS, if_pos h, hca]
  have HE1 : Hid (¬ b = 0 → encS a b = hexS u 16 ++ hexS b 16) := Lib.hid fun h => by rw [encS, if_neg h, hu, hca]
  clear hca hu hcl hul ha ho
  have hx1 := hexS_size u 16
  have hx2 := hexS_size b 16
  generalize hexS u 16 = s1 at *
  generalize hexS b 16 = s2 at *
  have hzs : s1.size + s2.size ≤ 9223372036854775807 := by omega
  have hadd := fun w' => run_string_add_sum (P := Tryd.prog) w' s1 s2 hzs
  clear hx1 hx2 hzs
  have HT := Lib.hid hT
  have hT1 := hT.1
  clear hT hb
  go_enter Tryd.func29, Tryd.ntmps29
  go_wp2_with fail
  refine (HN.out _).mono ?_
  rintro e w1 ⟨rfl, hb1⟩
  have hA : Blk w1 (w.heap.size) 24 #[.int .u64 (a : Int), .int .u64 (b : Int)] := Blk.below (Blk.newAt rfl) hb1 (by simp)
  have hB1 : Below w.heap.size w w1 := ((Below.refl _ _).alloc (Nat.le_refl _) _).trans (hb1.mono (by simp))
  have hlt := hA.lt
  have q0 := hA.cell 0
  have q1 := hA.cell 1
  have q2 := hA.frozen 0
  have q3 := hA.frozen 1
  have hF : Blk ((w1.setCell ⟨w.heap.size, 0, none⟩ (.int .u64 (ca : Int))).setCell ⟨w.heap.size, 1, none⟩ (.int .u64 (b : Int))) w.heap.size 24 #[.int .u64 (ca : Int), .int .u64 (b : Int)] := (hA.set_ 0 _).set_ 1 _
  have HF := Lib.hid hF
  have HB2 := Lib.hid ((hB1.setCell (Nat.le_refl _) _).setCell (Nat.le_refl _) _ : Below w.heap.size w ((w1.setCell ⟨w.heap.size, 0, none⟩ (.int .u64 (ca : Int))).setCell ⟨w.heap.size, 1, none⟩ (.int .u64 (b : Int))))
  clear hA hB1 hb1 hF
  by_cases hb0 : b = 0
  · have HE := Lib.hid (HE0.out hb0)
    have hbi : (b : Int) = 0 := by omega
    go_wp2_with fail
    refine (HXA.out _ ?_).mono ?_
    · have := HT.out.below HB2.out hT1
      simpa [hbi] using this
    rintro e w3 ⟨rfl, hb3⟩
    go_wp2
    go_ret
    exact ⟨by rw [HE.out]; rfl, by have := HB2.out; simp only [hbi] at this; exact this.trans (hb3.mono (by simp; omega))⟩
  · have HE := Lib.hid (HE1.out hb0)
    have hbi : ¬ (b : Int) = 0 := by omega
    obtain ⟨V, hV⟩ : ∃ V, V = ((w1.setCell ⟨w.heap.size, 0, none⟩ (.int .u64 (ca : Int))).setCell ⟨w.heap.size, 1, none⟩ (.int .u64 (b : Int))) := ⟨_, rfl⟩
    go_wp2_with fail
    rw [← hV] at HF HB2 ⊢
    have hVl : w.heap.size < V.heap.size := HF.out.lt
    clear hV q0 q1 q2 q3
    have HTV := Lib.hid (HT.out.below HB2.out hT1)
    have T1 := Lib.hid (HTV.out.below (Below.refl w.heap.size V).drew hT1)
    have KS : Hid (∀ w', Below (w.heap.size + 1) V w' → Below (w.heap.size + 1) V w' ∧ w'.cell? ⟨w.heap.size, 0, none⟩ = some (.int .u64 (ca : Int)) ∧ w'.cell? ⟨w.heap.size, 1, none⟩ = some (.int .u64 (b : Int))) := Lib.hid fun w' hw => ⟨hw, (HF.out.below hw (by omega)).cell 0, (HF.out.below hw (by omega)).cell 1⟩
    go_region_held3 (fun w' => Below (w.heap.size + 1) V w' ∧ w'.cell? ⟨w.heap.size, 0, none⟩ = some (.int .u64 (ca : Int)) ∧ w'.cell? ⟨w.heap.size, 1, none⟩ = some (.int .u64 (b : Int))) (first | exact KS.out _ ((Below.refl _ _).drew) | exact KS.out _ (Below.refl _ _) | exact KS.out _ ((Below.refl _ _).drew.trans (hbX.mono hVl)) | exact KS.out _ (((Below.refl _ _).drew.trans (hbX.mono hVl)).trans (hbY.mono (Nat.le_trans hVl hbX.size)))) (first | (go_at_call 38; with_reducible refine (HXU.out _ T1.out).mono ?_; rintro e w2 ⟨rfl, hbX⟩) | (go_at_call 38; have T2 := T1.out.below (hbX.mono (Nat.le_of_lt hVl)) hT1; with_reducible refine (HXB.out _ T2).mono ?_; rintro e w3 ⟨rfl, hbY⟩))
    all_goals go_wp2
    all_goals go_ret
    all_goals exact ⟨by rw [HE.out]; rfl, (HB2.out.drew.trans (hbX.mono (Nat.le_of_lt hVl))).trans (hbY.mono (Nat.le_trans (Nat.le_of_lt hVl) hbX.size))⟩
end Go.Proofs.YtacdfhgamjinbaaDoor
