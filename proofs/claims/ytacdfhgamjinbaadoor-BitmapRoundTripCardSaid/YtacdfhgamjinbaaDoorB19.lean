/-
  CONTRACTS of bitmaps: Decode, the program's and the specification's, way by way.
-/
import Derived.Test.YtacdfhgamjinbaaDoorB18
namespace Go.Proofs.YtacdfhgamjinbaaDoor
open Go.RowKit
set_option linter.unusedVariables false
theorem extract_rest (s : ByteArray) (h : 32 ≤ s.size) : (s.extract 16 s.size).extract 0 16 = s.extract 16 32 := by
  rw [ByteArray.extract_extract]
  congr 1
  omega
theorem hex_nat (n k : Nat) (h : k < (hexS n 16).size) : (hexS n 16)[k].toNat = (hdI (n / 16 ^ (15 - k) % 16)).toNat := by
  have hk : k < 16 := by rw [hexS_size] at h; exact h
  have := hex_byte n k hk (by rw [show (hexS n 16).data.toList.length = (hexS n 16).size from rfl, hexS_size]; exact hk)
  have h4 : ((hexS n 16)[k].toNat : Int) = hdI (n / 16 ^ (15 - k) % 16) := this
  rw [← h4, Int.toNat_natCast]
  rfl
theorem hexS_low (n k : Nat) (h : k < (hexS n 16).size) : lowN (hexS n 16)[k].toNat := by
  have := hex_low n k h
  unfold lowB at this
  unfold lowN
  omega
theorem numAt_hex (n : Nat) : ∀ k, k ≤ 16 → numAt (hexS n 16) k = n / 16 ^ (16 - k) % 16 ^ k
  | 0, _ => by simp [numAt, Nat.mod_one]
  | k + 1, h => by
    have hs : k < (hexS n 16).size := by rw [hexS_size]; omega
    rw [numAt_succ _ k hs, numAt_hex n k (by omega)]
    have hd : n / 16 ^ (15 - k) % 16 < 16 := Nat.mod_lt _ (by decide)
    have h1 := (hd_iff (c := (hexS n 16)[k].toNat) hd).1 (by rw [hex_nat n k hs]; unfold hdI; split <;> omega)
    rw [h1.2, show 16 - (k + 1) = 15 - k by omega, ← acc_step n k (by omega)]
    generalize n / 16 ^ (15 - k) = q
    rw [Nat.pow_succ, Nat.mul_comm (16 ^ k) 16, Nat.mod_mul]
    omega
theorem numN_hex {n : Nat} (hn : n < 18446744073709551616) : numN (hexS n 16) = n := by
  rw [numN, hexS_size, show min 16 16 = 16 from rfl, numAt_hex n 16 (Nat.le_refl _)]
  rw [show (16 : Nat) - 16 = 0 from rfl, Nat.pow_zero, Nat.div_one, Nat.mod_eq_of_lt (by simpa using hn)]
theorem read_hex (t : ByteArray) (n : Nat) (hn : n < 18446744073709551616) (ht : t = hexS n 16) (w : World) :
    Calls Tryd.prog 37 #[.string t] w fun e w' => e = .returned (.tuple #[.int .u64 (n : Int), .bool true]) ∧ Below w.heap.size w w' := by
  have hz : t.size = 16 := by rw [ht, hexS_size]
  have h := read_ok t hz (by rw [ht]; exact hexS_low n) w
  rw [show numN t = n by rw [ht]; exact numN_hex hn] at h
  exact h
theorem and_top_lo (n : Nat) (hn : n < 9223372036854775808) : bits BinOp.and IntKind.u64 (n : Int) 9223372036854775808 = 0 := by
  rw [show (9223372036854775808 : Int) = ((9223372036854775808 : Nat) : Int) from rfl, u64_and_nat n _ (by omega) (by decide), show (9223372036854775808 : Nat) = 2 ^ 63 from rfl, nat_bit, Nat.div_eq_of_lt (by simpa using hn)]
  rfl
theorem and_top_hi (n : Nat) (hn : n < 18446744073709551616) (h : 9223372036854775808 ≤ n) : bits BinOp.and IntKind.u64 (n : Int) 9223372036854775808 = 9223372036854775808 := by
  rw [show (9223372036854775808 : Int) = ((9223372036854775808 : Nat) : Int) from rfl, u64_and_nat n _ (by omega) (by decide)]
  have : n &&& 9223372036854775808 = 9223372036854775808 := by
    rw [show (9223372036854775808 : Nat) = 2 ^ 63 from rfl, nat_bit, show n / 2 ^ 63 = 1 by omega]
  rw [this]
theorem dec_short (s : ByteArray) (h : s.size < 16) (w : World) (hE : Errs w) :
    Calls Tryd.prog 27 #[.string s] w fun e w' => e = .returned (.tuple #[.agg #[.int .u64 0, .int .u64 0], .int .i64 0, .int .i64 1]) ∧ Below w.heap.size w w' := by
  have hz : ∀ w : World, (zeroValue 24).run Tryd.prog w = .ok (.agg #[.int .u64 0, .int .u64 0]) w := fun _ => by kernel_rfl
  have C1 := Lib.hid (fun w => el_short s h w)
  clear h
  have HE := Lib.hid hE
  have HE2 := Lib.hid hE.1
  clear hE
  go_enter Tryd.func27, Tryd.ntmps27
  go_wp2_with fail
  have hR0 : Blk (w.alloc (.cells #[.int .u64 0, .int .u64 0] 24)) w.heap.size 24 #[.int .u64 0, .int .u64 0] := Blk.new _ _ _
  have hW0 : Below w.heap.size w (w.alloc (.cells #[.int .u64 0, .int .u64 0] 24)) := (Below.refl _ _).alloc (Nat.le_refl _) _
  have HR0 := Lib.hid hR0
  have HW0 := Lib.hid hW0
  clear hR0 hW0
  refine (C1.out _).mono ?_
  rintro e w1 ⟨rfl, hb1⟩
  have HR1 := Lib.hid (HR0.out.bel hb1)
  have HW1 := Lib.hid (HW0.out.trans (hb1.mono HW0.out.size))
  have r0 := HR1.out.cell 0
  have r1 := HR1.out.cell 1
  have r2 := HR1.out.frozen 0
  have r3 := HR1.out.frozen 1
  have rl := HR1.out.lt
  have rn : ¬ w.heap.size = w1.heap.size := by omega
  go_wp2
  have hF : Blk ((w1.setCell ⟨w.heap.size, 0, none⟩ (.int .u64 0)).setCell ⟨w.heap.size, 1, none⟩ (.int .u64 0)) w.heap.size 24 #[.int .u64 0, .int .u64 0] := Blk.set2 HR1.out _ _
  have f0 := hF.cell 0
  have f1 := hF.cell 1
  exact bodyPost_ret (v := .tuple #[.agg #[.int .u64 0, .int .u64 0], .int .i64 0, .int .i64 1]) (by simp [results, Tryd.results27, go_sem, f0, f1]) rfl ⟨rfl, (HW1.out.setCell (by simp) _).setCell (by simp) _⟩
theorem rdec_short (s : ByteArray) (h : s.size < 16) (w : World) :
    Calls Tryd.prog 28 #[.string s] w fun e w' => e = .returned (.tuple #[.agg #[.int .u64 0, .int .u64 0], .int .i64 0, .int .i64 1]) ∧ Below w.heap.size w w' := by
  have hz : ∀ w : World, (zeroValue 24).run Tryd.prog w = .ok (.agg #[.int .u64 0, .int .u64 0]) w := fun _ => by kernel_rfl
  go_enter Tryd.func28, Tryd.ntmps28
  go_wp2_with fail
  have hR0 : Blk (w.alloc (.cells #[.int .u64 0, .int .u64 0] 24)) w.heap.size 24 #[.int .u64 0, .int .u64 0] := Blk.new _ _ _
  have hW0 : Below w.heap.size w (w.alloc (.cells #[.int .u64 0, .int .u64 0] 24)) := (Below.refl _ _).alloc (Nat.le_refl _) _
  have HR0 := Lib.hid hR0
  have HW0 := Lib.hid hW0
  clear hR0 hW0
  go_wp2
  exact bodyPost_ret (v := .tuple #[.agg #[.int .u64 0, .int .u64 0], .int .i64 0, .int .i64 1]) (by simp [results, Tryd.results28, go_sem]) rfl ⟨rfl, HW0.out⟩
theorem dec_form (s : ByteArray) (hs : s.size ≤ 1000) (h : 16 ≤ s.size) (hb : Bad (s.extract 0 16)) (w : World) (hE : Errs w) :
    Calls Tryd.prog 27 #[.string s] w fun e w' => e = .returned (.tuple #[.agg #[.int .u64 0, .int .u64 0], .int .i64 0, .int .i64 2]) ∧ Below w.heap.size w w' := by
  have hz : ∀ w : World, (zeroValue 24).run Tryd.prog w = .ok (.agg #[.int .u64 0, .int .u64 0]) w := fun _ => by kernel_rfl
  have C1 := Lib.hid (fun w hE => el_bad s hs h hb w hE)
  clear hb
  have HE := Lib.hid hE
  have HE2 := Lib.hid hE.1
  clear hE
  go_enter Tryd.func27, Tryd.ntmps27
  go_wp2_with fail
  have hR0 : Blk (w.alloc (.cells #[.int .u64 0, .int .u64 0] 24)) w.heap.size 24 #[.int .u64 0, .int .u64 0] := Blk.new _ _ _
  have hW0 : Below w.heap.size w (w.alloc (.cells #[.int .u64 0, .int .u64 0] 24)) := (Below.refl _ _).alloc (Nat.le_refl _) _
  have HR0 := Lib.hid hR0
  have HW0 := Lib.hid hW0
  clear hR0 hW0
  refine (C1.out _ (HE.out.upto HW0.out HE2.out)).mono ?_
  rintro e w1 ⟨rfl, hb1⟩
  have HR1 := Lib.hid (HR0.out.bel hb1)
  have HW1 := Lib.hid (HW0.out.trans (hb1.mono HW0.out.size))
  have r0 := HR1.out.cell 0
  have r1 := HR1.out.cell 1
  have r2 := HR1.out.frozen 0
  have r3 := HR1.out.frozen 1
  have rl := HR1.out.lt
  have rn : ¬ w.heap.size = w1.heap.size := by omega
  go_wp2
  have hF : Blk ((w1.setCell ⟨w.heap.size, 0, none⟩ (.int .u64 0)).setCell ⟨w.heap.size, 1, none⟩ (.int .u64 0)) w.heap.size 24 #[.int .u64 0, .int .u64 0] := Blk.set2 HR1.out _ _
  have f0 := hF.cell 0
  have f1 := hF.cell 1
  exact bodyPost_ret (v := .tuple #[.agg #[.int .u64 0, .int .u64 0], .int .i64 0, .int .i64 2]) (by simp [results, Tryd.results27, go_sem, f0, f1]) rfl ⟨rfl, (HW1.out.setCell (by simp) _).setCell (by simp) _⟩
theorem rdec_form (s : ByteArray) (hs : s.size ≤ 1000) (h : 16 ≤ s.size) (hb : Bad (s.extract 0 16)) (w : World) :
    Calls Tryd.prog 28 #[.string s] w fun e w' => e = .returned (.tuple #[.agg #[.int .u64 0, .int .u64 0], .int .i64 0, .int .i64 2]) ∧ Below w.heap.size w w' := by
  have hz : ∀ w : World, (zeroValue 24).run Tryd.prog w = .ok (.agg #[.int .u64 0, .int .u64 0]) w := fun _ => by kernel_rfl
  obtain ⟨t1, ht1⟩ : ∃ t, t = s.extract 0 16 := ⟨_, rfl⟩
  have hz1 : t1.size = 16 := by rw [ht1, ByteArray.size_extract]; omega
  have C1 := Lib.hid (fun w => read_bad t1 hz1 (ht1 ▸ hb) w)
  have hx1 : s.extract 0 16 = t1 := ht1.symm
  clear hb ht1
  go_enter Tryd.func28, Tryd.ntmps28
  go_wp2_with fail
  have hR0 : Blk (w.alloc (.cells #[.int .u64 0, .int .u64 0] 24)) w.heap.size 24 #[.int .u64 0, .int .u64 0] := Blk.new _ _ _
  have hW0 : Below w.heap.size w (w.alloc (.cells #[.int .u64 0, .int .u64 0] 24)) := (Below.refl _ _).alloc (Nat.le_refl _) _
  have HR0 := Lib.hid hR0
  have HW0 := Lib.hid hW0
  clear hR0 hW0
  refine (C1.out _).mono ?_
  rintro e w1 ⟨rfl, hb1⟩
  have HR1 := Lib.hid (HR0.out.bel hb1)
  have HW1 := Lib.hid (HW0.out.trans (hb1.mono HW0.out.size))
  have r0 := HR1.out.cell 0
  have r1 := HR1.out.cell 1
  have r2 := HR1.out.frozen 0
  have r3 := HR1.out.frozen 1
  have rl := HR1.out.lt
  have rn : ¬ w.heap.size = w1.heap.size := by omega
  go_wp2
  have hF : Blk ((w1.setCell ⟨w.heap.size, 0, none⟩ (.int .u64 0)).setCell ⟨w.heap.size, 1, none⟩ (.int .u64 0)) w.heap.size 24 #[.int .u64 0, .int .u64 0] := Blk.set2 HR1.out _ _
  have f0 := hF.cell 0
  have f1 := hF.cell 1
  exact bodyPost_ret (v := .tuple #[.agg #[.int .u64 0, .int .u64 0], .int .i64 0, .int .i64 2]) (by simp [results, Tryd.results28, go_sem, f0, f1]) rfl ⟨rfl, (HW1.out.setCell (by simp) _).setCell (by simp) _⟩
theorem dec_one (s : ByteArray) (hs : s.size ≤ 1000) (h : 16 ≤ s.size) (n : Nat) (hn : n < 9223372036854775808) (h1 : s.extract 0 16 = hexS n 16) (w : World) (hE : Errs w) :
    Calls Tryd.prog 27 #[.string s] w fun e w' => e = .returned (.tuple #[.agg #[.int .u64 (n : Int), .int .u64 0], .int .i64 16, .int .i64 0]) ∧ Below w.heap.size w w' := by
  have hz : ∀ w : World, (zeroValue 24).run Tryd.prog w = .ok (.agg #[.int .u64 0, .int .u64 0]) w := fun _ => by kernel_rfl
  have C1 := Lib.hid (fun w => el_ok s n (Nat.lt_trans hn (by decide)) hs h h1 w)
  have hand : bits BinOp.and IntKind.u64 (n : Int) 9223372036854775808 = 0 := and_top_lo n hn
  clear h1 hn
  have HE := Lib.hid hE
  have HE2 := Lib.hid hE.1
  clear hE
  go_enter Tryd.func27, Tryd.ntmps27
  go_wp2_with fail
  have hR0 : Blk (w.alloc (.cells #[.int .u64 0, .int .u64 0] 24)) w.heap.size 24 #[.int .u64 0, .int .u64 0] := Blk.new _ _ _
  have hW0 : Below w.heap.size w (w.alloc (.cells #[.int .u64 0, .int .u64 0] 24)) := (Below.refl _ _).alloc (Nat.le_refl _) _
  have HR0 := Lib.hid hR0
  have HW0 := Lib.hid hW0
  clear hR0 hW0
  refine (C1.out _).mono ?_
  rintro e w1 ⟨rfl, hb1⟩
  have HR1 := Lib.hid (HR0.out.bel hb1)
  have HW1 := Lib.hid (HW0.out.trans (hb1.mono HW0.out.size))
  have r0 := HR1.out.cell 0
  have r1 := HR1.out.cell 1
  have r2 := HR1.out.frozen 0
  have r3 := HR1.out.frozen 1
  have rl := HR1.out.lt
  have rn : ¬ w.heap.size = w1.heap.size := by omega
  go_wp2
  have hF : Blk ((w1.setCell ⟨w.heap.size, 0, none⟩ (.int .u64 (n : Int))).setCell ⟨w.heap.size, 1, none⟩ (.int .u64 0)) w.heap.size 24 #[.int .u64 (n : Int), .int .u64 0] := Blk.set2 HR1.out _ _
  have f0 := hF.cell 0
  have f1 := hF.cell 1
  exact bodyPost_ret (v := .tuple #[.agg #[.int .u64 (n : Int), .int .u64 0], .int .i64 16, .int .i64 0]) (by simp [results, Tryd.results27, go_sem, f0, f1]) rfl ⟨rfl, (HW1.out.setCell (by simp) _).setCell (by simp) _⟩
theorem rdec_one (s : ByteArray) (hs : s.size ≤ 1000) (h : 16 ≤ s.size) (n : Nat) (hn : n < 9223372036854775808) (h1 : s.extract 0 16 = hexS n 16) (w : World) :
    Calls Tryd.prog 28 #[.string s] w fun e w' => e = .returned (.tuple #[.agg #[.int .u64 (n : Int), .int .u64 0], .int .i64 16, .int .i64 0]) ∧ Below w.heap.size w w' := by
  have hz : ∀ w : World, (zeroValue 24).run Tryd.prog w = .ok (.agg #[.int .u64 0, .int .u64 0]) w := fun _ => by kernel_rfl
  obtain ⟨t1, ht1⟩ : ∃ t, t = s.extract 0 16 := ⟨_, rfl⟩
  have hz1 : t1.size = 16 := by rw [ht1, ByteArray.size_extract]; omega
  have C1 := Lib.hid (fun w => read_hex t1 n (Nat.lt_trans hn (by decide)) (ht1.trans h1) w)
  have hx1 : s.extract 0 16 = t1 := ht1.symm
  have CB : Hid (∀ w, Calls Tryd.prog 33 #[.int .i64 1] w fun e w' => e = .returned (.int .u64 9223372036854775808) ∧ w = w') := Lib.hid fun w => rbit_any 1 (by omega) (by omega) w
  have hand : bits BinOp.and IntKind.u64 (n : Int) 9223372036854775808 = 0 := and_top_lo n hn
  clear h1 hn ht1
  go_enter Tryd.func28, Tryd.ntmps28
  go_wp2_with fail
  have hR0 : Blk (w.alloc (.cells #[.int .u64 0, .int .u64 0] 24)) w.heap.size 24 #[.int .u64 0, .int .u64 0] := Blk.new _ _ _
  have hW0 : Below w.heap.size w (w.alloc (.cells #[.int .u64 0, .int .u64 0] 24)) := (Below.refl _ _).alloc (Nat.le_refl _) _
  have HR0 := Lib.hid hR0
  have HW0 := Lib.hid hW0
  clear hR0 hW0
  refine (C1.out _).mono ?_
  rintro e w1 ⟨rfl, hb1⟩
  have HR1 := Lib.hid (HR0.out.bel hb1)
  have HW1 := Lib.hid (HW0.out.trans (hb1.mono HW0.out.size))
  have r0 := HR1.out.cell 0
  have r1 := HR1.out.cell 1
  have r2 := HR1.out.frozen 0
  have r3 := HR1.out.frozen 1
  have rl := HR1.out.lt
  have rn : ¬ w.heap.size = w1.heap.size := by omega
  go_wp2_with (go_at_call 33; refine (CB.out _).mono ?_; rintro e wq ⟨rfl, rfl⟩)
  have hF : Blk ((w1.setCell ⟨w.heap.size, 0, none⟩ (.int .u64 (n : Int))).setCell ⟨w.heap.size, 1, none⟩ (.int .u64 0)) w.heap.size 24 #[.int .u64 (n : Int), .int .u64 0] := Blk.set2 HR1.out _ _
  have f0 := hF.cell 0
  have f1 := hF.cell 1
  exact bodyPost_ret (v := .tuple #[.agg #[.int .u64 (n : Int), .int .u64 0], .int .i64 16, .int .i64 0]) (by simp [results, Tryd.results28, go_sem, f0, f1]) rfl ⟨rfl, (HW1.out.setCell (by simp) _).setCell (by simp) _⟩
theorem dec_short2 (s : ByteArray) (hs : s.size ≤ 1000) (h : 16 ≤ s.size) (n : Nat) (hn : n < 18446744073709551616) (hn2 : 9223372036854775808 ≤ n) (h1 : s.extract 0 16 = hexS n 16) (h2 : s.size < 32) (w : World) (hE : Errs w) :
    Calls Tryd.prog 27 #[.string s] w fun e w' => e = .returned (.tuple #[.agg #[.int .u64 0, .int .u64 0], .int .i64 0, .int .i64 1]) ∧ Below w.heap.size w w' := by
  have hz : ∀ w : World, (zeroValue 24).run Tryd.prog w = .ok (.agg #[.int .u64 0, .int .u64 0]) w := fun _ => by kernel_rfl
  have C1 := Lib.hid (fun w => el_ok s n hn hs h h1 w)
  obtain ⟨t, ht⟩ : ∃ t, t = s.extract 16 s.size := ⟨_, rfl⟩
  have hts : t.size = s.size - 16 := by rw [ht, ByteArray.size_extract]; omega
  have C2 := Lib.hid (fun w => el_short t (by omega) w)
  have ht2 : s.extract 16 s.size = t := ht.symm
  have hand : bits BinOp.and IntKind.u64 (n : Int) 9223372036854775808 = 9223372036854775808 := and_top_hi n hn hn2
  clear h1 hn hn2 ht
  have HE := Lib.hid hE
  have HE2 := Lib.hid hE.1
  clear hE
  go_enter Tryd.func27, Tryd.ntmps27
  go_wp2_with fail
  have hR0 : Blk (w.alloc (.cells #[.int .u64 0, .int .u64 0] 24)) w.heap.size 24 #[.int .u64 0, .int .u64 0] := Blk.new _ _ _
  have hW0 : Below w.heap.size w (w.alloc (.cells #[.int .u64 0, .int .u64 0] 24)) := (Below.refl _ _).alloc (Nat.le_refl _) _
  have HR0 := Lib.hid hR0
  have HW0 := Lib.hid hW0
  clear hR0 hW0
  refine (C1.out _).mono ?_
  rintro e w1 ⟨rfl, hb1⟩
  have HR1 := Lib.hid (HR0.out.bel hb1)
  have HW1 := Lib.hid (HW0.out.trans (hb1.mono HW0.out.size))
  have r0 := HR1.out.cell 0
  have r1 := HR1.out.cell 1
  have r2 := HR1.out.frozen 0
  have r3 := HR1.out.frozen 1
  have rl := HR1.out.lt
  have rn : ¬ w.heap.size = w1.heap.size := by omega
  go_wp2_with fail
  clear r0 r1 r2 r3 rl rn
  refine (C2.out _).mono ?_
  rintro e w2 ⟨rfl, hb2⟩
  have HR2 := Lib.hid (HR1.out.bel hb2)
  have HW2 := Lib.hid (HW1.out.trans (hb2.mono HW1.out.size))
  have r0 := HR2.out.cell 0
  have r1 := HR2.out.cell 1
  have r2 := HR2.out.frozen 0
  have r3 := HR2.out.frozen 1
  have rl := HR2.out.lt
  have rn : ¬ w.heap.size = w2.heap.size := by omega
  go_wp2
  have hF : Blk ((w2.setCell ⟨w.heap.size, 0, none⟩ (.int .u64 0)).setCell ⟨w.heap.size, 1, none⟩ (.int .u64 0)) w.heap.size 24 #[.int .u64 0, .int .u64 0] := Blk.set2 HR2.out _ _
  have f0 := hF.cell 0
  have f1 := hF.cell 1
  exact bodyPost_ret (v := .tuple #[.agg #[.int .u64 0, .int .u64 0], .int .i64 0, .int .i64 1]) (by simp [results, Tryd.results27, go_sem, f0, f1]) rfl ⟨rfl, (HW2.out.setCell (by simp) _).setCell (by simp) _⟩
theorem rdec_short2 (s : ByteArray) (hs : s.size ≤ 1000) (h : 16 ≤ s.size) (n : Nat) (hn : n < 18446744073709551616) (hn2 : 9223372036854775808 ≤ n) (h1 : s.extract 0 16 = hexS n 16) (h2 : s.size < 32) (w : World) :
    Calls Tryd.prog 28 #[.string s] w fun e w' => e = .returned (.tuple #[.agg #[.int .u64 0, .int .u64 0], .int .i64 0, .int .i64 1]) ∧ Below w.heap.size w w' := by
  have hz : ∀ w : World, (zeroValue 24).run Tryd.prog w = .ok (.agg #[.int .u64 0, .int .u64 0]) w := fun _ => by kernel_rfl
  obtain ⟨t1, ht1⟩ : ∃ t, t = s.extract 0 16 := ⟨_, rfl⟩
  have hz1 : t1.size = 16 := by rw [ht1, ByteArray.size_extract]; omega
  have C1 := Lib.hid (fun w => read_hex t1 n hn (ht1.trans h1) w)
  have hx1 : s.extract 0 16 = t1 := ht1.symm
  have CB : Hid (∀ w, Calls Tryd.prog 33 #[.int .i64 1] w fun e w' => e = .returned (.int .u64 9223372036854775808) ∧ w = w') := Lib.hid fun w => rbit_any 1 (by omega) (by omega) w
  have hand : bits BinOp.and IntKind.u64 (n : Int) 9223372036854775808 = 9223372036854775808 := and_top_hi n hn hn2
  clear h1 hn hn2 ht1
  go_enter Tryd.func28, Tryd.ntmps28
  go_wp2_with fail
  have hR0 : Blk (w.alloc (.cells #[.int .u64 0, .int .u64 0] 24)) w.heap.size 24 #[.int .u64 0, .int .u64 0] := Blk.new _ _ _
  have hW0 : Below w.heap.size w (w.alloc (.cells #[.int .u64 0, .int .u64 0] 24)) := (Below.refl _ _).alloc (Nat.le_refl _) _
  have HR0 := Lib.hid hR0
  have HW0 := Lib.hid hW0
  clear hR0 hW0
  refine (C1.out _).mono ?_
  rintro e w1 ⟨rfl, hb1⟩
  have HR1 := Lib.hid (HR0.out.bel hb1)
  have HW1 := Lib.hid (HW0.out.trans (hb1.mono HW0.out.size))
  have r0 := HR1.out.cell 0
  have r1 := HR1.out.cell 1
  have r2 := HR1.out.frozen 0
  have r3 := HR1.out.frozen 1
  have rl := HR1.out.lt
  have rn : ¬ w.heap.size = w1.heap.size := by omega
  go_wp2_with (go_at_call 33; refine (CB.out _).mono ?_; rintro e wq ⟨rfl, rfl⟩)
  have hF : Blk ((w1.setCell ⟨w.heap.size, 0, none⟩ (.int .u64 0)).setCell ⟨w.heap.size, 1, none⟩ (.int .u64 0)) w.heap.size 24 #[.int .u64 0, .int .u64 0] := Blk.set2 HR1.out _ _
  have f0 := hF.cell 0
  have f1 := hF.cell 1
  exact bodyPost_ret (v := .tuple #[.agg #[.int .u64 0, .int .u64 0], .int .i64 0, .int .i64 1]) (by simp [results, Tryd.results28, go_sem, f0, f1]) rfl ⟨rfl, (HW1.out.setCell (by simp) _).setCell (by simp) _⟩
theorem dec_form2 (s : ByteArray) (hs : s.size ≤ 1000) (h : 32 ≤ s.size) (n : Nat) (hn : n < 18446744073709551616) (hn2 : 9223372036854775808 ≤ n) (h1 : s.extract 0 16 = hexS n 16) (hb : Bad (s.extract 16 32)) (w : World) (hE : Errs w) :
    Calls Tryd.prog 27 #[.string s] w fun e w' => e = .returned (.tuple #[.agg #[.int .u64 0, .int .u64 0], .int .i64 0, .int .i64 2]) ∧ Below w.heap.size w w' := by
  have hz : ∀ w : World, (zeroValue 24).run Tryd.prog w = .ok (.agg #[.int .u64 0, .int .u64 0]) w := fun _ => by kernel_rfl
  have C1 := Lib.hid (fun w => el_ok s n hn hs (by omega) h1 w)
  obtain ⟨t, ht⟩ : ∃ t, t = s.extract 16 s.size := ⟨_, rfl⟩
  have hts : t.size = s.size - 16 := by rw [ht, ByteArray.size_extract]; omega
  have htx : t.extract 0 16 = s.extract 16 32 := by rw [ht]; exact extract_rest s h
  have C2 := Lib.hid (fun w hE => el_bad t (by omega) (by omega) (by rw [htx]; exact hb) w hE)
  have ht2 : s.extract 16 s.size = t := ht.symm
  have hand : bits BinOp.and IntKind.u64 (n : Int) 9223372036854775808 = 9223372036854775808 := and_top_hi n hn hn2
  clear h1 hn hn2 hb ht htx
  have HE := Lib.hid hE
  have HE2 := Lib.hid hE.1
  clear hE
  go_enter Tryd.func27, Tryd.ntmps27
  go_wp2_with fail
  have hR0 : Blk (w.alloc (.cells #[.int .u64 0, .int .u64 0] 24)) w.heap.size 24 #[.int .u64 0, .int .u64 0] := Blk.new _ _ _
  have hW0 : Below w.heap.size w (w.alloc (.cells #[.int .u64 0, .int .u64 0] 24)) := (Below.refl _ _).alloc (Nat.le_refl _) _
  have HR0 := Lib.hid hR0
  have HW0 := Lib.hid hW0
  clear hR0 hW0
  refine (C1.out _).mono ?_
  rintro e w1 ⟨rfl, hb1⟩
  have HR1 := Lib.hid (HR0.out.bel hb1)
  have HW1 := Lib.hid (HW0.out.trans (hb1.mono HW0.out.size))
  have r0 := HR1.out.cell 0
  have r1 := HR1.out.cell 1
  have r2 := HR1.out.frozen 0
  have r3 := HR1.out.frozen 1
  have rl := HR1.out.lt
  have rn : ¬ w.heap.size = w1.heap.size := by omega
  go_wp2_with fail
  clear r0 r1 r2 r3 rl rn
  refine (C2.out _ (HE.out.upto HW1.out HE2.out)).mono ?_
  rintro e w2 ⟨rfl, hb2⟩
  have HR2 := Lib.hid (HR1.out.bel hb2)
  have HW2 := Lib.hid (HW1.out.trans (hb2.mono HW1.out.size))
  have r0 := HR2.out.cell 0
  have r1 := HR2.out.cell 1
  have r2 := HR2.out.frozen 0
  have r3 := HR2.out.frozen 1
  have rl := HR2.out.lt
  have rn : ¬ w.heap.size = w2.heap.size := by omega
  go_wp2
  have hF : Blk ((w2.setCell ⟨w.heap.size, 0, none⟩ (.int .u64 0)).setCell ⟨w.heap.size, 1, none⟩ (.int .u64 0)) w.heap.size 24 #[.int .u64 0, .int .u64 0] := Blk.set2 HR2.out _ _
  have f0 := hF.cell 0
  have f1 := hF.cell 1
  exact bodyPost_ret (v := .tuple #[.agg #[.int .u64 0, .int .u64 0], .int .i64 0, .int .i64 2]) (by simp [results, Tryd.results27, go_sem, f0, f1]) rfl ⟨rfl, (HW2.out.setCell (by simp) _).setCell (by simp) _⟩
theorem rdec_form2 (s : ByteArray) (hs : s.size ≤ 1000) (h : 32 ≤ s.size) (n : Nat) (hn : n < 18446744073709551616) (hn2 : 9223372036854775808 ≤ n) (h1 : s.extract 0 16 = hexS n 16) (hb : Bad (s.extract 16 32)) (w : World) :
    Calls Tryd.prog 28 #[.string s] w fun e w' => e = .returned (.tuple #[.agg #[.int .u64 0, .int .u64 0], .int .i64 0, .int .i64 2]) ∧ Below w.heap.size w w' := by
  have hz : ∀ w : World, (zeroValue 24).run Tryd.prog w = .ok (.agg #[.int .u64 0, .int .u64 0]) w := fun _ => by kernel_rfl
  obtain ⟨t1, ht1⟩ : ∃ t, t = s.extract 0 16 := ⟨_, rfl⟩
  have hz1 : t1.size = 16 := by rw [ht1, ByteArray.size_extract]; omega
  have C1 := Lib.hid (fun w => read_hex t1 n hn (ht1.trans h1) w)
  have hx1 : s.extract 0 16 = t1 := ht1.symm
  obtain ⟨t2, ht2⟩ : ∃ t, t = s.extract 16 32 := ⟨_, rfl⟩
  have hz2 : t2.size = 16 := by rw [ht2, ByteArray.size_extract]; omega
  have C2 := Lib.hid (fun w => read_bad t2 hz2 (ht2 ▸ hb) w)
  have hx2 : s.extract 16 32 = t2 := ht2.symm
  have CB : Hid (∀ w, Calls Tryd.prog 33 #[.int .i64 1] w fun e w' => e = .returned (.int .u64 9223372036854775808) ∧ w = w') := Lib.hid fun w => rbit_any 1 (by omega) (by omega) w
  have hand : bits BinOp.and IntKind.u64 (n : Int) 9223372036854775808 = 9223372036854775808 := and_top_hi n hn hn2
  clear h1 hn hn2 hb ht1 ht2
  go_enter Tryd.func28, Tryd.ntmps28
  go_wp2_with fail
  have hR0 : Blk (w.alloc (.cells #[.int .u64 0, .int .u64 0] 24)) w.heap.size 24 #[.int .u64 0, .int .u64 0] := Blk.new _ _ _
  have hW0 : Below w.heap.size w (w.alloc (.cells #[.int .u64 0, .int .u64 0] 24)) := (Below.refl _ _).alloc (Nat.le_refl _) _
  have HR0 := Lib.hid hR0
  have HW0 := Lib.hid hW0
  clear hR0 hW0
  refine (C1.out _).mono ?_
  rintro e w1 ⟨rfl, hb1⟩
  have HR1 := Lib.hid (HR0.out.bel hb1)
  have HW1 := Lib.hid (HW0.out.trans (hb1.mono HW0.out.size))
  have r0 := HR1.out.cell 0
  have r1 := HR1.out.cell 1
  have r2 := HR1.out.frozen 0
  have r3 := HR1.out.frozen 1
  have rl := HR1.out.lt
  have rn : ¬ w.heap.size = w1.heap.size := by omega
  go_wp2_with (go_at_call 33; refine (CB.out _).mono ?_; rintro e wq ⟨rfl, rfl⟩)
  clear r0 r1 r2 r3 rl rn
  refine (C2.out _).mono ?_
  rintro e w2 ⟨rfl, hb2⟩
  have HR2 := Lib.hid (HR1.out.bel hb2)
  have HW2 := Lib.hid (HW1.out.trans (hb2.mono HW1.out.size))
  have r0 := HR2.out.cell 0
  have r1 := HR2.out.cell 1
  have r2 := HR2.out.frozen 0
  have r3 := HR2.out.frozen 1
  have rl := HR2.out.lt
  have rn : ¬ w.heap.size = w2.heap.size := by omega
  go_wp2_with (go_at_call 33; refine (CB.out _).mono ?_; rintro e wq ⟨rfl, rfl⟩)
  have hF : Blk ((w2.setCell ⟨w.heap.size, 0, none⟩ (.int .u64 0)).setCell ⟨w.heap.size, 1, none⟩ (.int .u64 0)) w.heap.size 24 #[.int .u64 0, .int .u64 0] := Blk.set2 HR2.out _ _
  have f0 := hF.cell 0
  have f1 := hF.cell 1
  exact bodyPost_ret (v := .tuple #[.agg #[.int .u64 0, .int .u64 0], .int .i64 0, .int .i64 2]) (by simp [results, Tryd.results28, go_sem, f0, f1]) rfl ⟨rfl, (HW2.out.setCell (by simp) _).setCell (by simp) _⟩
theorem dec_zero (s : ByteArray) (hs : s.size ≤ 1000) (h : 32 ≤ s.size) (n : Nat) (hn : n < 18446744073709551616) (hn2 : 9223372036854775808 ≤ n) (h1 : s.extract 0 16 = hexS n 16) (h2 : s.extract 16 32 = hexS 0 16) (w : World) (hE : Errs w) :
    Calls Tryd.prog 27 #[.string s] w fun e w' => e = .returned (.tuple #[.agg #[.int .u64 0, .int .u64 0], .int .i64 0, .int .i64 2]) ∧ Below w.heap.size w w' := by
  have hz : ∀ w : World, (zeroValue 24).run Tryd.prog w = .ok (.agg #[.int .u64 0, .int .u64 0]) w := fun _ => by kernel_rfl
  have C1 := Lib.hid (fun w => el_ok s n hn hs (by omega) h1 w)
  obtain ⟨t, ht⟩ : ∃ t, t = s.extract 16 s.size := ⟨_, rfl⟩
  have hts : t.size = s.size - 16 := by rw [ht, ByteArray.size_extract]; omega
  have htx : t.extract 0 16 = s.extract 16 32 := by rw [ht]; exact extract_rest s h
  have C2 : Hid (∀ w, Calls Tryd.prog 36 #[.string t] w fun e w' => e = .returned (.tuple #[.int .u64 0, .int .i64 0]) ∧ Below w.heap.size w w') := Lib.hid (fun w => el_ok t 0 (by decide) (by omega) (by omega) (by rw [htx]; exact h2) w)
  have ht2 : s.extract 16 s.size = t := ht.symm
  have hand : bits BinOp.and IntKind.u64 (n : Int) 9223372036854775808 = 9223372036854775808 := and_top_hi n hn hn2
  clear h1 h2 hn hn2 ht htx
  have HE := Lib.hid hE
  have HE2 := Lib.hid hE.1
  clear hE
  go_enter Tryd.func27, Tryd.ntmps27
  go_wp2_with fail
  have hR0 : Blk (w.alloc (.cells #[.int .u64 0, .int .u64 0] 24)) w.heap.size 24 #[.int .u64 0, .int .u64 0] := Blk.new _ _ _
  have hW0 : Below w.heap.size w (w.alloc (.cells #[.int .u64 0, .int .u64 0] 24)) := (Below.refl _ _).alloc (Nat.le_refl _) _
  have HR0 := Lib.hid hR0
  have HW0 := Lib.hid hW0
  clear hR0 hW0
  refine (C1.out _).mono ?_
  rintro e w1 ⟨rfl, hb1⟩
  have HR1 := Lib.hid (HR0.out.bel hb1)
  have HW1 := Lib.hid (HW0.out.trans (hb1.mono HW0.out.size))
  have r0 := HR1.out.cell 0
  have r1 := HR1.out.cell 1
  have r2 := HR1.out.frozen 0
  have r3 := HR1.out.frozen 1
  have rl := HR1.out.lt
  have rn : ¬ w.heap.size = w1.heap.size := by omega
  go_wp2_with fail
  clear r0 r1 r2 r3 rl rn
  refine (C2.out _).mono ?_
  rintro e w2 ⟨rfl, hb2⟩
  have HR2 := Lib.hid (HR1.out.bel hb2)
  have HW2 := Lib.hid (HW1.out.trans (hb2.mono HW1.out.size))
  have r0 := HR2.out.cell 0
  have r1 := HR2.out.cell 1
  have r2 := HR2.out.frozen 0
  have r3 := HR2.out.frozen 1
  have rl := HR2.out.lt
  have rn : ¬ w.heap.size = w2.heap.size := by omega
  go_wp2
  have hF : Blk ((w2.setCell ⟨w.heap.size, 0, none⟩ (.int .u64 0)).setCell ⟨w.heap.size, 1, none⟩ (.int .u64 0)) w.heap.size 24 #[.int .u64 0, .int .u64 0] := Blk.set2 HR2.out _ _
  have f0 := hF.cell 0
  have f1 := hF.cell 1
  exact bodyPost_ret (v := .tuple #[.agg #[.int .u64 0, .int .u64 0], .int .i64 0, .int .i64 2]) (by simp [results, Tryd.results27, go_sem, f0, f1]) rfl ⟨rfl, (HW2.out.setCell (by simp) _).setCell (by simp) _⟩
theorem rdec_zero (s : ByteArray) (hs : s.size ≤ 1000) (h : 32 ≤ s.size) (n : Nat) (hn : n < 18446744073709551616) (hn2 : 9223372036854775808 ≤ n) (h1 : s.extract 0 16 = hexS n 16) (h2 : s.extract 16 32 = hexS 0 16) (w : World) :
    Calls Tryd.prog 28 #[.string s] w fun e w' => e = .returned (.tuple #[.agg #[.int .u64 0, .int .u64 0], .int .i64 0, .int .i64 2]) ∧ Below w.heap.size w w' := by
  have hz : ∀ w : World, (zeroValue 24).run Tryd.prog w = .ok (.agg #[.int .u64 0, .int .u64 0]) w := fun _ => by kernel_rfl
  obtain ⟨t1, ht1⟩ : ∃ t, t = s.extract 0 16 := ⟨_, rfl⟩
  have hz1 : t1.size = 16 := by rw [ht1, ByteArray.size_extract]; omega
  have C1 := Lib.hid (fun w => read_hex t1 n hn (ht1.trans h1) w)
  have hx1 : s.extract 0 16 = t1 := ht1.symm
  obtain ⟨t2, ht2⟩ : ∃ t, t = s.extract 16 32 := ⟨_, rfl⟩
  have hz2 : t2.size = 16 := by rw [ht2, ByteArray.size_extract]; omega
  have C2 : Hid (∀ w, Calls Tryd.prog 37 #[.string t2] w fun e w' => e = .returned (.tuple #[.int .u64 0, .bool true]) ∧ Below w.heap.size w w') := Lib.hid (fun w => read_hex t2 0 (by decide) (ht2.trans h2) w)
  have hx2 : s.extract 16 32 = t2 := ht2.symm
  have CB : Hid (∀ w, Calls Tryd.prog 33 #[.int .i64 1] w fun e w' => e = .returned (.int .u64 9223372036854775808) ∧ w = w') := Lib.hid fun w => rbit_any 1 (by omega) (by omega) w
  have hand : bits BinOp.and IntKind.u64 (n : Int) 9223372036854775808 = 9223372036854775808 := and_top_hi n hn hn2
  clear h1 h2 hn hn2 ht1 ht2
  go_enter Tryd.func28, Tryd.ntmps28
  go_wp2_with fail
  have hR0 : Blk (w.alloc (.cells #[.int .u64 0, .int .u64 0] 24)) w.heap.size 24 #[.int .u64 0, .int .u64 0] := Blk.new _ _ _
  have hW0 : Below w.heap.size w (w.alloc (.cells #[.int .u64 0, .int .u64 0] 24)) := (Below.refl _ _).alloc (Nat.le_refl _) _
  have HR0 := Lib.hid hR0
  have HW0 := Lib.hid hW0
  clear hR0 hW0
  refine (C1.out _).mono ?_
  rintro e w1 ⟨rfl, hb1⟩
  have HR1 := Lib.hid (HR0.out.bel hb1)
  have HW1 := Lib.hid (HW0.out.trans (hb1.mono HW0.out.size))
  have r0 := HR1.out.cell 0
  have r1 := HR1.out.cell 1
  have r2 := HR1.out.frozen 0
  have r3 := HR1.out.frozen 1
  have rl := HR1.out.lt
  have rn : ¬ w.heap.size = w1.heap.size := by omega
  go_wp2_with (go_at_call 33; refine (CB.out _).mono ?_; rintro e wq ⟨rfl, rfl⟩)
  clear r0 r1 r2 r3 rl rn
  refine (C2.out _).mono ?_
  rintro e w2 ⟨rfl, hb2⟩
  have HR2 := Lib.hid (HR1.out.bel hb2)
  have HW2 := Lib.hid (HW1.out.trans (hb2.mono HW1.out.size))
  have r0 := HR2.out.cell 0
  have r1 := HR2.out.cell 1
  have r2 := HR2.out.frozen 0
  have r3 := HR2.out.frozen 1
  have rl := HR2.out.lt
  have rn : ¬ w.heap.size = w2.heap.size := by omega
  go_wp2_with (go_at_call 33; refine (CB.out _).mono ?_; rintro e wq ⟨rfl, rfl⟩)
  have hF : Blk ((w2.setCell ⟨w.heap.size, 0, none⟩ (.int .u64 0)).setCell ⟨w.heap.size, 1, none⟩ (.int .u64 0)) w.heap.size 24 #[.int .u64 0, .int .u64 0] := Blk.set2 HR2.out _ _
  have f0 := hF.cell 0
  have f1 := hF.cell 1
  exact bodyPost_ret (v := .tuple #[.agg #[.int .u64 0, .int .u64 0], .int .i64 0, .int .i64 2]) (by simp [results, Tryd.results28, go_sem, f0, f1]) rfl ⟨rfl, (HW2.out.setCell (by simp) _).setCell (by simp) _⟩
theorem dec_two (s : ByteArray) (hs : s.size ≤ 1000) (h : 32 ≤ s.size) (n m : Nat) (hn : n < 18446744073709551616) (hn2 : 9223372036854775808 ≤ n) (h1 : s.extract 0 16 = hexS n 16) (hm : m < 18446744073709551616) (hm0 : 0 < m) (h2 : s.extract 16 32 = hexS m 16) (w : World) (hE : Errs w) :
    Calls Tryd.prog 27 #[.string s] w fun e w' => e = .returned (.tuple #[.agg #[.int .u64 ((n - 9223372036854775808 : Nat) : Int), .int .u64 (m : Int)], .int .i64 32, .int .i64 0]) ∧ Below w.heap.size w w' := by
  have hz : ∀ w : World, (zeroValue 24).run Tryd.prog w = .ok (.agg #[.int .u64 0, .int .u64 0]) w := fun _ => by kernel_rfl
  have C1 := Lib.hid (fun w => el_ok s n hn hs (by omega) h1 w)
  obtain ⟨t, ht⟩ : ∃ t, t = s.extract 16 s.size := ⟨_, rfl⟩
  have hts : t.size = s.size - 16 := by rw [ht, ByteArray.size_extract]; omega
  have htx : t.extract 0 16 = s.extract 16 32 := by rw [ht]; exact extract_rest s h
  have C2 := Lib.hid (fun w => el_ok t m hm (by omega) (by omega) (by rw [htx]; exact h2) w)
  have ht2 : s.extract 16 s.size = t := ht.symm
  have hand : bits BinOp.and IntKind.u64 (n : Int) 9223372036854775808 = 9223372036854775808 := and_top_hi n hn hn2
  obtain ⟨x, hx⟩ : ∃ x, x = n - 9223372036854775808 := ⟨_, rfl⟩
  have CN := Lib.hid (fun w => numbers_any n m hn w)
  have hcl : clrN n = x := by rw [hx, clrN]; omega
  rw [hcl] at CN
  have hm1 : ¬ (m : Int) = 0 := by omega
  have hm2 : ((m : Int) == 0) = false := by simp; omega
  rw [← hx]
  clear h1 h2 hn hn2 hm hm0 hx ht htx hcl
  have HE := Lib.hid hE
  have HE2 := Lib.hid hE.1
  clear hE
  go_enter Tryd.func27, Tryd.ntmps27
  go_wp2_with fail
  have hR0 : Blk (w.alloc (.cells #[.int .u64 0, .int .u64 0] 24)) w.heap.size 24 #[.int .u64 0, .int .u64 0] := Blk.new _ _ _
  have hW0 : Below w.heap.size w (w.alloc (.cells #[.int .u64 0, .int .u64 0] 24)) := (Below.refl _ _).alloc (Nat.le_refl _) _
  have HR0 := Lib.hid hR0
  have HW0 := Lib.hid hW0
  clear hR0 hW0
  refine (C1.out _).mono ?_
  rintro e w1 ⟨rfl, hb1⟩
  have HR1 := Lib.hid (HR0.out.bel hb1)
  have HW1 := Lib.hid (HW0.out.trans (hb1.mono HW0.out.size))
  have r0 := HR1.out.cell 0
  have r1 := HR1.out.cell 1
  have r2 := HR1.out.frozen 0
  have r3 := HR1.out.frozen 1
  have rl := HR1.out.lt
  have rn : ¬ w.heap.size = w1.heap.size := by omega
  go_wp2_with fail
  clear r0 r1 r2 r3 rl rn
  refine (C2.out _).mono ?_
  rintro e w2 ⟨rfl, hb2⟩
  have HR2 := Lib.hid (HR1.out.bel hb2)
  have HW2 := Lib.hid (HW1.out.trans (hb2.mono HW1.out.size))
  have r0 := HR2.out.cell 0
  have r1 := HR2.out.cell 1
  have r2 := HR2.out.frozen 0
  have r3 := HR2.out.frozen 1
  have rl := HR2.out.lt
  have rn : ¬ w.heap.size = w2.heap.size := by omega
  go_wp2_with fail
  clear r0 r1 r2 r3 rl rn
  refine (CN.out _).mono ?_
  rintro e w3 ⟨rfl, hb3⟩
  have HR3 := Lib.hid (HR2.out.bel hb3)
  have HW3 := Lib.hid (HW2.out.trans (hb3.mono HW2.out.size))
  have r0 := HR3.out.cell 0
  have r1 := HR3.out.cell 1
  have r2 := HR3.out.frozen 0
  have r3 := HR3.out.frozen 1
  have rl := HR3.out.lt
  have rn : ¬ w.heap.size = w3.heap.size := by omega
  go_wp2
  have hF : Blk ((w3.setCell ⟨w.heap.size, 0, none⟩ (.int .u64 (x : Int))).setCell ⟨w.heap.size, 1, none⟩ (.int .u64 (m : Int))) w.heap.size 24 #[.int .u64 (x : Int), .int .u64 (m : Int)] := Blk.set2 HR3.out _ _
  have f0 := hF.cell 0
  have f1 := hF.cell 1
  exact bodyPost_ret (v := .tuple #[.agg #[.int .u64 (x : Int), .int .u64 (m : Int)], .int .i64 32, .int .i64 0]) (by simp [results, Tryd.results27, go_sem, f0, f1]) rfl ⟨rfl, (HW3.out.setCell (by simp) _).setCell (by simp) _⟩
theorem rdec_two (s : ByteArray) (hs : s.size ≤ 1000) (h : 32 ≤ s.size) (n m : Nat) (hn : n < 18446744073709551616) (hn2 : 9223372036854775808 ≤ n) (h1 : s.extract 0 16 = hexS n 16) (hm : m < 18446744073709551616) (hm0 : 0 < m) (h2 : s.extract 16 32 = hexS m 16) (w : World) :
    Calls Tryd.prog 28 #[.string s] w fun e w' => e = .returned (.tuple #[.agg #[.int .u64 ((n - 9223372036854775808 : Nat) : Int), .int .u64 (m : Int)], .int .i64 32, .int .i64 0]) ∧ Below w.heap.size w w' := by
  have hz : ∀ w : World, (zeroValue 24).run Tryd.prog w = .ok (.agg #[.int .u64 0, .int .u64 0]) w := fun _ => by kernel_rfl
  obtain ⟨t1, ht1⟩ : ∃ t, t = s.extract 0 16 := ⟨_, rfl⟩
  have hz1 : t1.size = 16 := by rw [ht1, ByteArray.size_extract]; omega
  have C1 := Lib.hid (fun w => read_hex t1 n hn (ht1.trans h1) w)
  have hx1 : s.extract 0 16 = t1 := ht1.symm
  obtain ⟨t2, ht2⟩ : ∃ t, t = s.extract 16 32 := ⟨_, rfl⟩
  have hz2 : t2.size = 16 := by rw [ht2, ByteArray.size_extract]; omega
  have C2 := Lib.hid (fun w => read_hex t2 m hm (ht2.trans h2) w)
  have hx2 : s.extract 16 32 = t2 := ht2.symm
  have CB : Hid (∀ w, Calls Tryd.prog 33 #[.int .i64 1] w fun e w' => e = .returned (.int .u64 9223372036854775808) ∧ w = w') := Lib.hid fun w => rbit_any 1 (by omega) (by omega) w
  have hand : bits BinOp.and IntKind.u64 (n : Int) 9223372036854775808 = 9223372036854775808 := and_top_hi n hn hn2
  obtain ⟨x, hx⟩ : ∃ x, x = n - 9223372036854775808 := ⟨_, rfl⟩
  have hsub : IntKind.u64.wrap ((n : Int) - 9223372036854775808) = (x : Int) := by rw [hx]; rw [IntKind.wrap_u64]; omega
  have hm1 : ¬ (m : Int) = 0 := by omega
  have hm2 : ((m : Int) == 0) = false := by simp; omega
  rw [← hx]
  clear h1 h2 hn hn2 hm hm0 hx ht1 ht2
  go_enter Tryd.func28, Tryd.ntmps28
  go_wp2_with fail
  have hR0 : Blk (w.alloc (.cells #[.int .u64 0, .int .u64 0] 24)) w.heap.size 24 #[.int .u64 0, .int .u64 0] := Blk.new _ _ _
  have hW0 : Below w.heap.size w (w.alloc (.cells #[.int .u64 0, .int .u64 0] 24)) := (Below.refl _ _).alloc (Nat.le_refl _) _
  have HR0 := Lib.hid hR0
  have HW0 := Lib.hid hW0
  clear hR0 hW0
  refine (C1.out _).mono ?_
  rintro e w1 ⟨rfl, hb1⟩
  have HR1 := Lib.hid (HR0.out.bel hb1)
  have HW1 := Lib.hid (HW0.out.trans (hb1.mono HW0.out.size))
  have r0 := HR1.out.cell 0
  have r1 := HR1.out.cell 1
  have r2 := HR1.out.frozen 0
  have r3 := HR1.out.frozen 1
  have rl := HR1.out.lt
  have rn : ¬ w.heap.size = w1.heap.size := by omega
  go_wp2_with (go_at_call 33; refine (CB.out _).mono ?_; rintro e wq ⟨rfl, rfl⟩)
  clear r0 r1 r2 r3 rl rn
  refine (C2.out _).mono ?_
  rintro e w2 ⟨rfl, hb2⟩
  have HR2 := Lib.hid (HR1.out.bel hb2)
  have HW2 := Lib.hid (HW1.out.trans (hb2.mono HW1.out.size))
  have r0 := HR2.out.cell 0
  have r1 := HR2.out.cell 1
  have r2 := HR2.out.frozen 0
  have r3 := HR2.out.frozen 1
  have rl := HR2.out.lt
  have rn : ¬ w.heap.size = w2.heap.size := by omega
  go_wp2_with (go_at_call 33; refine (CB.out _).mono ?_; rintro e wq ⟨rfl, rfl⟩)
  have hF : Blk ((w2.setCell ⟨w.heap.size, 0, none⟩ (.int .u64 (x : Int))).setCell ⟨w.heap.size, 1, none⟩ (.int .u64 (m : Int))) w.heap.size 24 #[.int .u64 (x : Int), .int .u64 (m : Int)] := Blk.set2 HR2.out _ _
  have f0 := hF.cell 0
  have f1 := hF.cell 1
  exact bodyPost_ret (v := .tuple #[.agg #[.int .u64 (x : Int), .int .u64 (m : Int)], .int .i64 32, .int .i64 0]) (by simp [results, Tryd.results28, go_sem, f0, f1]) rfl ⟨rfl, (HW2.out.setCell (by simp) _).setCell (by simp) _⟩
end Go.Proofs.YtacdfhgamjinbaaDoor
