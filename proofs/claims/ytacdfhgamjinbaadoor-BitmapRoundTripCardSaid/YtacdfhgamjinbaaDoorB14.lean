/-
  CONTRACTS of bitmaps: the specification's Clear and Count, the law's comparison of lists.
-/
import Derived.Test.YtacdfhgamjinbaaDoorB13
import Derived.Test.YtacdfhgamjinbaaDoorB11
namespace Go.Proofs.YtacdfhgamjinbaaDoor
open Go.RowKit
set_option linter.unusedVariables false
theorem ints_one (z : Int) (w : World) : Ints (w.alloc (.cells #[.int .i64 z] 3)) (w.alloc (.cells #[.int .i64 z] 3)).heap.size (some ⟨w.heap.size, 0, none⟩) 1 [z] := by
  refine ⟨rfl, fun _ => ⟨_, rfl, by simp, fun j u hu => ?_⟩⟩
  match j, hu with
  | 0, hu => simp at hu; subst hu; simp [Addr.add]
set_option maxHeartbeats 1000000 in
theorem rclear_out (a b : Nat) (z : Int) (h : z < 2 ∨ 128 < z) (w : World) :
    Calls Tryd.prog 12 #[bmV a b, .int .i64 z] w fun e w' => e = .returned (.tuple #[bmV 0 0, .int .i64 4]) ∧ Below w.heap.size w w' := by
  have hz : ∀ w : World, (zeroValue 24).run Tryd.prog w = .ok (.agg #[.int .u64 0, .int .u64 0]) w := fun _ => by kernel_rfl
  have HR : Hid (ofL [z] 0 0 = none) := Lib.hid (by rw [ofL, if_pos h])
  clear h
  go_enter Tryd.func12, Tryd.ntmps12
  go_wp2_with fail
  have HR0 : Hid (Blk (((w.alloc (.cells #[.int .u64 (a : Int), .int .u64 (b : Int)] 24)).alloc (.cells #[.int .u64 0, .int .u64 0] 24)).alloc (.cells #[.int .i64 z] 3)) (w.heap.size + 1) 24 #[.int .u64 0, .int .u64 0]) := Lib.hid ((Blk.newAt (by simp)).alloc _)
  have HW : Hid (Below w.heap.size w (((w.alloc (.cells #[.int .u64 (a : Int), .int .u64 (b : Int)] 24)).alloc (.cells #[.int .u64 0, .int .u64 0] 24)).alloc (.cells #[.int .i64 z] 3))) := Lib.hid ((((Below.refl _ _).alloc (Nat.le_refl _) _).alloc (by simp) _).alloc (by simp; omega) _)
  refine (rof_any _ 1 1 [z] _ (by have := ints_one z ((w.alloc (.cells #[.int .u64 (a : Int), .int .u64 (b : Int)] 24)).alloc (.cells #[.int .u64 0, .int .u64 0] 24)); simpa using this) (by omega) (by omega) HR).mono ?_
  rintro e w1 ⟨rfl, hb1⟩
  have hR := HR0.out.bel hb1
  have r0 := hR.cell 0
  have r1 := hR.cell 1
  have r2 := hR.frozen 0
  have r3 := hR.frozen 1
  have hl := hR.lt
  have hne : ¬ w.heap.size + 1 = w1.heap.size := by omega
  have HR1 := Lib.hid hR
  have HW1 := Lib.hid (HW.out.trans (hb1.mono HW.out.size))
  clear hR hb1 HW HR0
  simp only [ofV]
  go_wp2
  have hF : Blk (((w1.setCell ⟨w.heap.size + 1, 0, none⟩ (.int .u64 0)).setCell ⟨w.heap.size + 1, 1, none⟩ (.int .u64 0)).alloc (.cells #[.int .u64 0, .int .u64 0] 24)) (w.heap.size + 1) 24 #[.int .u64 0, .int .u64 0] := (Blk.set2 HR1.out _ _).alloc _
  have f0 := hF.cell 0
  have f1 := hF.cell 1
  exact bodyPost_ret (v := .tuple #[bmV 0 0, .int .i64 4]) (by simp [results, Tryd.results12, go_sem, f0, f1]) rfl ⟨rfl, ((HW1.out.setCell (by simp) _).setCell (by simp) _).alloc (by simp; omega) _⟩
set_option maxHeartbeats 1000000 in
theorem rclear_in (a b n : Nat) (ha : a < 18446744073709551616) (hb : b < 18446744073709551616) (h2 : 2 ≤ n) (h : n ≤ 128) (w : World) :
    Calls Tryd.prog 12 #[bmV a b, .int .i64 (n : Int)] w fun e w' => e = .returned (.tuple #[bmV (clrN (minN a (hiN n))) (minN b (loN n)), .int .i64 0]) ∧ Below w.heap.size w w' := by
  have hz : ∀ w : World, (zeroValue 24).run Tryd.prog w = .ok (.agg #[.int .u64 0, .int .u64 0]) w := fun _ => by kernel_rfl
  have HR : Hid (ofL [(n : Int)] 0 0 = some (hiN n, loN n)) := Lib.hid (by rw [ofL, if_neg (by omega), ofL]; simp)
  have CM := Lib.hid (fun w => rminus_any a b (hiN n) (loN n) ha hb (Nat.lt_trans (hi_lt n h2) (by decide)) (lo_lt n) w)
  clear h h2 ha hb
  go_enter Tryd.func12, Tryd.ntmps12
  go_wp2_with fail
  have HR0 : Hid (Blk (((w.alloc (.cells #[.int .u64 (a : Int), .int .u64 (b : Int)] 24)).alloc (.cells #[.int .u64 0, .int .u64 0] 24)).alloc (.cells #[.int .i64 (n : Int)] 3)) (w.heap.size + 1) 24 #[.int .u64 0, .int .u64 0]) := Lib.hid ((Blk.newAt (by simp)).alloc _)
  have HA0 : Hid (Blk (((w.alloc (.cells #[.int .u64 (a : Int), .int .u64 (b : Int)] 24)).alloc (.cells #[.int .u64 0, .int .u64 0] 24)).alloc (.cells #[.int .i64 (n : Int)] 3)) w.heap.size 24 #[.int .u64 (a : Int), .int .u64 (b : Int)]) := Lib.hid (((Blk.new _ _ _).alloc _).alloc _)
  have HW : Hid (Below w.heap.size w (((w.alloc (.cells #[.int .u64 (a : Int), .int .u64 (b : Int)] 24)).alloc (.cells #[.int .u64 0, .int .u64 0] 24)).alloc (.cells #[.int .i64 (n : Int)] 3))) := Lib.hid ((((Below.refl _ _).alloc (Nat.le_refl _) _).alloc (by simp) _).alloc (by simp; omega) _)
  refine (rof_any _ 1 1 [(n : Int)] _ (by have := ints_one n ((w.alloc (.cells #[.int .u64 (a : Int), .int .u64 (b : Int)] 24)).alloc (.cells #[.int .u64 0, .int .u64 0] 24)); simpa using this) (by omega) (by omega) HR).mono ?_
  rintro e w1 ⟨rfl, hb1⟩
  have HR1 := Lib.hid (HR0.out.bel hb1)
  have hA := HA0.out.bel hb1
  have a0 := hA.cell 0
  have a1 := hA.cell 1
  have hl := hA.lt
  have hne : ¬ w.heap.size = w1.heap.size := by omega
  have HW1 := Lib.hid (HW.out.trans (hb1.mono HW.out.size))
  clear hA hb1 HW HR0
  simp only [ofV]
  go_wp2_with fail
  refine (CM.out _).mono ?_
  rintro e w2 ⟨rfl, hb2⟩
  have hR := (HR1.out.alloc _).bel hb2
  have r0 := hR.cell 0
  have r1 := hR.cell 1
  have r2 := hR.frozen 0
  have r3 := hR.frozen 1
  have HR2 := Lib.hid hR
  have HW2 := Lib.hid ((HW1.out.alloc HW1.out.size _).trans (hb2.mono (by have := HW1.out.size; simp; omega)))
  clear hR hb2 HW1 HR1
  go_wp2
  have hF : Blk ((w2.setCell ⟨w.heap.size + 1, 0, none⟩ (.int .u64 (clrN (minN a (hiN n)) : Int))).setCell ⟨w.heap.size + 1, 1, none⟩ (.int .u64 (minN b (loN n) : Int))) (w.heap.size + 1) 24 #[.int .u64 (clrN (minN a (hiN n)) : Int), .int .u64 (minN b (loN n) : Int)] := Blk.set2 HR2.out _ _
  have f0 := hF.cell 0
  have f1 := hF.cell 1
  exact bodyPost_ret (v := .tuple #[bmV (clrN (minN a (hiN n))) (minN b (loN n)), .int .i64 0]) (by simp [results, Tryd.results12, go_sem, f0, f1]) rfl ⟨rfl, (HW2.out.setCell (by simp) _).setCell (by simp) _⟩
theorem rcount_any (a b : Nat) (ha : a < 18446744073709551616) (hb : b < 18446744073709551616) (w : World) :
    Calls Tryd.prog 19 #[bmV a b] w fun e w' => e = .returned (.int .i64 ((fl (hasN a b) 127).length : Int)) ∧ Below w.heap.size w w' := by
  have LL := Lib.hid (fun w => rlist_any 0 a b ha hb w (Nat.zero_le _))
  have hl1 := fl_len (hasN a b) 127
  obtain ⟨l, hl⟩ : ∃ l, l = fl (hasN a b) 127 := ⟨_, rfl⟩
  rw [← hl] at LL hl1 ⊢
  clear hl ha hb
  go_enter Tryd.func19, Tryd.ntmps19
  go_wp2_with fail
  refine (LL.out _).mono ?_
  rintro e w1 ⟨A1, k1, rfl, hk1, ho1, hb1⟩
  have HW := Lib.hid (((Below.refl _ _).alloc (Nat.le_refl _) _).trans (hb1.mono (by simp)) : Below w.heap.size w w1)
  clear ho1 hb1
  go_wp2
  go_ret
  exact ⟨rfl, HW.out⟩
/-- Two lists that read alike are equal. -/
theorem lnumbers_any (A1 A2 : Option Addr) (n k1 k2 : Nat) (l : List Int) (w : World) (h1 : Ints w w.heap.size A1 n l) (h2 : Ints w w.heap.size A2 n l) (hn : n ≤ 1000000) (hk1 : n ≤ k1) (hk2 : n ≤ k2) :
    Calls Tryd.prog 15 #[.slice A1 n k1, .slice A2 n k2] w fun e w' => e = .returned (.bool true) ∧ Below w.heap.size w w' := by
  have H1 := Lib.hid h1
  have H2 := Lib.hid h2
  clear h1 h2
  go_enter Tryd.func15, Tryd.ntmps15
  go_wp2
  go_loopw [5] (fun i wr => ∃ k : Nat, k ≤ n ∧ i = .int .i64 k ∧ Below w.heap.size w wr) (fun i _ => n - (intOf i).toNat)
  case atStart => exact ⟨0, Nat.zero_le _, rfl, Below.refl _ _⟩
  case round =>
    obtain ⟨k, hk, rfl, hb⟩ := hrel
    have HB := Lib.hid hb
    clear hb
    by_cases hlt : k < n
    · obtain ⟨ad1, z1, rfl, hb1, hs1, hc1⟩ := Ints.at (Reads.below H1.out HB.out : Ints wr w.heap.size A1 n l) hlt
      obtain ⟨ad2, z2, rfl, hb2, hs2, hc2⟩ := Ints.at (Reads.below H2.out HB.out : Ints wr w.heap.size A2 n l) hlt
      obtain rfl : z1 = z2 := Option.some.inj (hs1.symm.trans hs2)
      clear hs1 hs2
      have g0 : (0 : Int) ≤ (k : Int) := by omega
      have g1 : (k : Int) < (n : Int) := by omega
      go_wp2_with fail
      go_quiet (fail)
      go_wp2
      go_roundw
      case rel => exact ⟨k + 1, by omega, by go_num, HB.out.trans ⟨rfl, rfl, rfl, Nat.le_refl _, fun _ _ => rfl⟩⟩
      case measure => simp [intOf]; omega
    · go_wp2
      go_ret
      exact ⟨rfl, HB.out⟩
end Go.Proofs.YtacdfhgamjinbaaDoor
