/-
  CONTRACTS of bitmaps: the specification's Encode.
-/
import Derived.Test.YtacdfhgamjinbaaDoorB17
import Derived.Test.YtacdfhgamjinbaaDoorB4
namespace Go.Proofs.YtacdfhgamjinbaaDoor
open Go.RowKit
set_option linter.unusedVariables false
set_option maxHeartbeats 1000000 in
theorem rencode_any (a b : Nat) (ha : a < 18446744073709551616) (hb : b < 18446744073709551616) (w : World) :
    Calls Tryd.prog 30 #[bmV a b] w fun e w' => e = .returned (.string (encS a b)) ∧ Below w.heap.size w w' := by
  have hz : ∀ w : World, (zeroValue 24).run Tryd.prog w = .ok (.agg #[.int .u64 0, .int .u64 0]) w := fun _ => by kernel_rfl
  obtain ⟨ca, hca⟩ : ∃ c, c = clrN a := ⟨_, rfl⟩
  have hcl : ca < 9223372036854775808 := hca ▸ clrN_lt a
  have ho := or_val ca 9223372036854775808 (Nat.lt_trans hcl (by decide)) (by decide)
  rw [show (((9223372036854775808 : Nat) : Int)) = 9223372036854775808 from rfl] at ho
  obtain ⟨u, hu⟩ : ∃ u, u = ca ||| 9223372036854775808 := ⟨_, rfl⟩
  have hul : u < 18446744073709551616 := hu ▸ or64 (Nat.lt_trans hcl (by decide)) (by decide)
  rw [← hu] at ho
  have HU : Hid (∀ w, Calls Tryd.prog 24 #[bmV a b, .agg #[.int .u64 0, .int .u64 0]] w fun e w' => e = .returned (bmV ca b) ∧ Below w.heap.size w w') := Lib.hid fun w => by
    have := runion_any a b 0 0 ha hb (by decide) (by decide) w
    rw [Nat.or_zero, Nat.or_zero, ← hca] at this
    exact this
  have HB1 : Hid (∀ w, Calls Tryd.prog 33 #[.int .i64 1] w fun e w' => e = .returned (.int .u64 9223372036854775808) ∧ w' = w) := Lib.hid fun w => (rbit_any 1 (by omega) (by omega) w).mono fun _ _ h => ⟨h.1, h.2.symm⟩
  have HXA : Hid (∀ W, Calls Tryd.prog 39 #[.int .u64 (ca : Int)] W fun e w' => e = .returned (.string (hexS ca 16)) ∧ W = w') := Lib.hid fun W => rhex_any ca (Nat.lt_trans hcl (by decide)) W
  have HXU : Hid (∀ W, Calls Tryd.prog 39 #[.int .u64 (bits BinOp.or IntKind.u64 (ca : Int) 9223372036854775808)] W fun e w' => e = .returned (.string (hexS u 16)) ∧ w' = W) := Lib.hid fun W => by rw [ho]; exact (rhex_any u hul W).mono fun _ _ h => ⟨h.1, h.2.symm⟩
  have HXB : Hid (∀ W, Calls Tryd.prog 39 #[.int .u64 (b : Int)] W fun e w' => e = .returned (.string (hexS b 16)) ∧ w' = W) := Lib.hid fun W => (rhex_any b hb W).mono fun _ _ h => ⟨h.1, h.2.symm⟩
  have HE0 : Hid (b = 0 → encS a b = hexS ca 16) := Lib.hid fun h => by rw [encS, if_pos h, hca]
  have HE1 : Hid (¬ b = 0 → encS a b = hexS u 16 ++ hexS b 16) := Lib.hid fun h => by rw [encS, if_neg h, hu, hca]
  clear hca hu hcl hul ha ho
  have hx1 := hexS_size u 16
  have hx2 := hexS_size b 16
  go_enter Tryd.func30, Tryd.ntmps30
  go_wp2_with fail
  refine (HU.out _).mono ?_
  rintro e w1 ⟨rfl, hb1⟩
  have hA : Blk w1 w.heap.size 24 #[.int .u64 (a : Int), .int .u64 (b : Int)] := Blk.bel (Blk.new _ _ _) hb1
  have a0 := hA.cell 0
  have a1 := hA.cell 1
  have a2 := hA.frozen 0
  have a3 := hA.frozen 1
  have HA := Lib.hid hA
  have HW := Lib.hid (((Below.refl _ _).alloc (Nat.le_refl _) _).trans (hb1.mono (by simp)) : Below w.heap.size w w1)
  clear hA hb1
  by_cases h0 : b = 0
  · have HE := Lib.hid (HE0.out h0)
    have hbi : (b : Int) = 0 := by omega
    clear h0
    go_wp2_with (go_at_call 39; refine (HXA.out _).mono ?_; rintro e w2 ⟨rfl, rfl⟩)
    go_ret
    exact ⟨ret_str HE.out.symm, (HW.out.setCell (by simp) _).setCell (by simp) _⟩
  · have HE := Lib.hid (HE1.out h0)
    have hne : ¬ (b : Int) = 0 := by omega
    have hne2 : ((b : Int) == 0) = false := by simp; omega
    clear h0
    go_wp2_with fail
    have hB : Blk ((w1.setCell ⟨w.heap.size, 0, none⟩ (.int .u64 (ca : Int))).setCell ⟨w.heap.size, 1, none⟩ (.int .u64 (b : Int))) w.heap.size 24 #[.int .u64 (ca : Int), .int .u64 (b : Int)] := Blk.set2 HA.out _ _
    have HW2 : Hid (Below w.heap.size w ((w1.setCell ⟨w.heap.size, 0, none⟩ (.int .u64 (ca : Int))).setCell ⟨w.heap.size, 1, none⟩ (.int .u64 (b : Int)))) := Lib.hid ((HW.out.setCell (by simp) _).setCell (by simp) _)
    have v0 := hB.cell 0
    have v1 := hB.cell 1
    clear hB a0 a1 a2 a3
    generalize (w1.setCell ⟨w.heap.size, 0, none⟩ (.int .u64 (ca : Int))).setCell ⟨w.heap.size, 1, none⟩ (.int .u64 (b : Int)) = V at *
    go_quiet ((first | (go_at_call 33; exact Calls.quiet_of_same (HB1.out _)) | (go_at_call 39; first | with_reducible exact Calls.quiet_of_same (HXU.out _) | with_reducible exact Calls.quiet_of_same (HXB.out _))))
    go_wp2
    go_ret
    exact ⟨ret_str HE.out.symm, HW2.out.trans ⟨rfl, rfl, rfl, Nat.le_refl _, fun _ _ => rfl⟩⟩
end Go.Proofs.YtacdfhgamjinbaaDoor
