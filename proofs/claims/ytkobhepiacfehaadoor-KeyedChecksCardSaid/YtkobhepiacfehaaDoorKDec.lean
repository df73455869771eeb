/-
  CONTRACTS of the decimal digits: strconv.FormatUint at base 10, the program's Code and the specification's.
-/
import Derived.Test.YtkobhepiacfehaaDoorKMac
import Derived.Test.YtkobhepiacfehaaDoorKShelf
import Derived.Lib.ItoaMem
import Derived.Lib.AppendIntMem
import Derived.Laws.Slices
namespace Go.Proofs.YtkobhepiacfehaaDoor
open Go.RowKit Go.Sort Go.Lib
set_option linter.unusedVariables false
/-- The last d decimal digits of u. -/
def dcL (u d : Nat) : List UInt8 := (List.range d).map fun t => dg u (d - 1 - t)
def decS (u d : Nat) : ByteArray := ⟨(dcL u d).toArray⟩
theorem dcL_len (u d : Nat) : (dcL u d).length = d := by simp [dcL]
theorem decS_size (u d : Nat) : (decS u d).size = d := by show (dcL u d).toArray.size = d; simp [dcL]
theorem decS_all (u : Nat) : (⟨(decDigits u).toArray⟩ : ByteArray) = decS u (nDigits u) := by unfold decS dcL; rw [decDigits_eq]
theorem dcL_cons (u d : Nat) : dcL u (d + 1) = dg u d :: dcL u d := by
  unfold dcL
  rw [List.range_succ_eq_map, List.map_cons, List.map_map]
  congr 1
  apply List.map_congr_left
  intro t ht
  simp only [Function.comp]
  congr 1
  omega
theorem decS_cons (u d : Nat) : (⟨#[dg u d]⟩ : ByteArray) ++ decS u d = decS u (d + 1) := by
  apply ByteArray.ext
  rw [ByteArray.data_append]
  simp [decS, dcL_cons]
theorem decS_pad {u d : Nat} (h : u < 10 ^ d) : (⟨#[48]⟩ : ByteArray) ++ decS u d = decS u (d + 1) := by
  rw [← decS_cons]
  congr 3
  unfold dg
  rw [Nat.div_eq_of_lt h]
  rfl
theorem dcL_drop (u d : Nat) : ∀ k, (dcL u (d + k)).drop k = dcL u d
  | 0 => rfl
  | k + 1 => by rw [← Nat.add_assoc, dcL_cons, List.drop_succ_cons, dcL_drop u d k]
theorem decS_tail (u m d : Nat) (h : d ≤ m) : (decS u m).extract (m - d) m = decS u d := by
  obtain ⟨k, rfl⟩ : ∃ k, m = d + k := ⟨m - d, by omega⟩
  rw [Nat.add_sub_cancel_left]
  apply ByteArray.ext
  rw [ByteArray.data_extract]
  apply Array.toList_inj.1
  simp only [decS, Array.toList_extract]
  simp [List.extract, dcL_drop]
  exact List.take_of_length_le (by rw [dcL_len]; omega)
theorem holds_zero0 (w : World) (T : TypeId) (nd : Nat) (hs : nd ≤ 24) : Holds (fun (b : UInt8) => Value.int .u8 (b.toNat : Int)) (w.alloc (.cells zeros24 T)) w.heap.size 0 (Array.replicate nd (0 : UInt8)) := fun j hj => by
  have hj' : j < nd := by simpa using hj
  refine ⟨?_, World.frozen?_alloc_new _ _ _ _⟩
  rw [World.cell?_alloc_new, zeros24_at _ (by omega), getElem!_pos _ j hj]
  simp
theorem fin0 (w : World) (o : Obj) (dk : Array UInt8) (k : Nat) : Below w.heap.size w ((putRow (fun (b : UInt8) => Value.int .u8 (b.toNat : Int)) (w.alloc o) w.heap.size 0 dk).drewN k) := by
  rw [alloc_eq_grow]
  obtain ⟨os', _, e⟩ := putRow_grow_new (fun (b : UInt8) => Value.int .u8 (b.toNat : Int)) w #[o] w.heap.size 0 dk (Nat.le_refl _)
  rw [e]
  exact below_grow w.heap.size w (Nat.le_refl _) k os'
def Pow (w : World) : Prop := Lib.TabIs Tryd.prog w "internal/strconv.uint64pow10" .u64 Lib.pow10Tab
theorem Pow.below {w w' : World} {B : Nat} (h : Pow w) (hb : Below B w w') (hB : 0 < B) : Pow w' := by
  unfold Pow TabIs World.var? at *
  have hg : Tryd.prog.globalNamed "internal/strconv.uint64pow10" = some 0 := by kernel_rfl
  simp only [hg, Option.bind_some] at h ⊢
  rw [hb.block 0 hB]
  exact h
set_option maxHeartbeats 1000000 in
theorem fmt10in_any (u : Nat) (hu64 : u < 18446744073709551616) (w : World) (htab : Pow w) :
    Calls Tryd.prog 31 #[.int .u64 (u : Int), .int .i64 10] w fun e w' => e = .returned (.string (decS u (nDigits u))) ∧ Below w.heap.size w w' := by
  by_cases hs : u < 100
  · have HD := Lib.hid (decS_all u)
    have HC := Lib.hid (fun w' => Tryd.internal_strconv_small u hs w')
    go_enter Tryd.func31, Tryd.ntmps31
    go_wp2_with (go_at_call 35; refine (HC.out _).mono ?_; rintro e w' ⟨rfl, rfl⟩)
    go_ret
    exact ⟨ret_str HD.out, Below.refl _ _⟩
  · have hu1 : 1 ≤ u := by omega
    have hu100 : 100 ≤ u := by omega
    have hnd20 : Lib.nDigits u ≤ 20 := by have := Lib.numDigits_eq u hu1 hu64; split at this <;> omega
    have hlen := decDigits_length u
    have HLN := Lib.hid hlen
    have HD := Lib.hid (decS_all u)
    have hal : Tryd.prog.arrayLen 50 = 24 := by kernel_rfl
    have hsl1 : ∀ W, (Instr.sliceAt 50 (.pointer (some ⟨w.heap.size, 0, none⟩)) none (some (.int .i64 (Lib.nDigits u : Int))) none).run Tryd.prog W = .ok (.slice (some ⟨w.heap.size, 0, none⟩) (Lib.nDigits u) 24) W := fun W => by
      have e2 : (sizeOf (Tryd.prog.elem 50)).run Tryd.prog W = .ok 1 W := by kernel_rfl
      rw [run_sliceAt_array_h W 50 ⟨w.heap.size, 0, none⟩ (by kernel_rfl) .i64 (Lib.nDigits u : Int) (by omega) (by rw [hal]; omega), hal, e2]
      simp [Result.andThen_ok, slicedAt, Addr.add]
    have hH0 := holds_zero0 w 50 (Lib.nDigits u) (by omega)
    have hfmt := Tryd.internal_strconv_formatBase10 w.heap.size 0 24 u (Array.replicate (Lib.nDigits u) 0) (w.alloc (.cells Lib.zeros24 50)) hH0 (by rw [Array.size_replicate]; exact Lib.lt_pow_nDigits u) hu64 (by rw [Array.size_replicate]; omega)
    rw [Array.size_replicate] at hfmt
    have HFM := Lib.hid hfmt
    have HH0 := Lib.hid hH0
    have HND := Lib.hid (fun w' => Tryd.internal_strconv_numDigits u hu1 hu64 (w.alloc w') (Lib.tabIs_alloc htab w'))
    have hz : ∀ w : World, (zeroValue 50).run Tryd.prog w = .ok (.agg zeros24) w := fun _ => by kernel_rfl
    clear hH0 hal hfmt hs hlen htab
    go_enter Tryd.func31, Tryd.ntmps31
    go_wp2_with (first | (go_at_call 36; refine (HND.out _).mono ?_; rintro e w' ⟨rfl, rfl⟩))
    refine HFM.out.mono ?_
    rintro e w' ⟨rfl, k, v', dk, rfl, hF⟩
    have hb := fin0 w (.cells zeros24 50) dk k
    have hcv : (convert 38 9 (.slice (some ⟨w.heap.size, 0, none⟩) (Lib.nDigits u) 24)).run Tryd.prog ((putRow (fun (b : UInt8) => Value.int .u8 (b.toNat : Int)) (w.alloc (.cells Lib.zeros24 50)) w.heap.size 0 dk).drewN k) = .ok (.string ⟨(Lib.decDigits u).toArray⟩) ((putRow (fun (b : UInt8) => Value.int .u8 (b.toNat : Int)) (w.alloc (.cells Lib.zeros24 50)) w.heap.size 0 dk).drewN k) := by
      have h := run_convert_bytes_back (P := Tryd.prog) ((putRow (fun (b : UInt8) => Value.int .u8 (b.toNat : Int)) (w.alloc (.cells Lib.zeros24 50)) w.heap.size 0 dk).drewN k) 38 9 5 ⟨w.heap.size, 0, none⟩ 24 (Lib.decDigits u) Tryd.underlying38 Tryd.underlying5 Tryd.underlying9 (fun j hj => by
        rw [Lib.row_is_numeral hF j hj, Lib.add_plain, World.cell?_drewN]
        exact cell?_putRow (fun (b : UInt8) => Value.int .u8 (b.toNat : Int)) _ w.heap.size 0 _ dk HH0.out (by rw [hF.size, Array.size_replicate]) j (by rw [hF.size]; rw [Lib.decDigits_length] at hj; exact hj))
      rw [Lib.decDigits_length] at h
      exact h
    have HB := Lib.hid hb
    clear hF hb
    generalize (putRow (fun (b : UInt8) => Value.int .u8 (b.toNat : Int)) (w.alloc (.cells Lib.zeros24 50)) w.heap.size 0 dk).drewN k = W1 at *
    go_wp2
    go_ret
    exact ⟨ret_str HD.out, HB.out⟩
theorem fmt10_any (u : Nat) (hu64 : u < 18446744073709551616) (w : World) (htab : Pow w) :
    Calls Tryd.prog 23 #[.int .u64 (u : Int), .int .i64 10] w fun e w' => e = .returned (.string (decS u (nDigits u))) ∧ Below w.heap.size w w' := by
  have HC := Lib.hid (fmt10in_any u hu64 w htab)
  clear htab
  go_enter Tryd.func23, Tryd.ntmps23
  go_wp2_with (go_at_call 31; refine HC.out.mono ?_; rintro e w1 ⟨rfl, hb⟩)
  go_ret
  exact ⟨rfl, by assumption⟩
theorem code_bad (u : Nat) (d : Int) (hd : d < 1 ∨ 12 < d) (w : World) :
    Calls Tryd.prog 9 #[.int .u64 (u : Int), .int .i64 d] w fun e w' => e = .returned (.tuple #[.string ByteArray.empty, .int .i64 4]) ∧ w = w' := by
  by_cases h1 : d < 1
  · go_enter Tryd.func9, Tryd.ntmps9
    go_wp2
    go_ret2
    exact ⟨rfl, rfl⟩
  · have h2 : 12 < d := by omega
    clear hd
    go_enter Tryd.func9, Tryd.ntmps9
    go_wp2
    go_ret2
    exact ⟨rfl, rfl⟩
theorem rcode_bad (u : Nat) (d : Int) (hd : d < 1 ∨ 12 < d) (w : World) :
    Calls Tryd.prog 10 #[.int .u64 (u : Int), .int .i64 d] w fun e w' => e = .returned (.tuple #[.string ByteArray.empty, .int .i64 4]) ∧ w = w' := by
  by_cases h1 : d < 1
  · go_enter Tryd.func10, Tryd.ntmps10
    go_wp2
    go_ret2
    exact ⟨rfl, rfl⟩
  · have h2 : 12 < d := by omega
    clear hd
    go_enter Tryd.func10, Tryd.ntmps10
    go_wp2
    go_ret2
    exact ⟨rfl, rfl⟩
theorem code_ok (u : Nat) (hu : u < 18446744073709551616) (d : Nat) (h1 : 1 ≤ d) (h2 : d ≤ 12) (w : World) (hP : Pow w) :
    Calls Tryd.prog 9 #[.int .u64 (u : Int), .int .i64 (d : Int)] w fun e w' => e = .returned (.tuple #[.string (decS u d), .int .i64 0]) ∧ Below w.heap.size w w' := by
  have HC := Lib.hid (fmt10_any u hu w hP)
  have hm1 := Lib.nDigits_pos u
  have HPD : Hid (∀ k, nDigits u ≤ k → (⟨#[48]⟩ : ByteArray) ++ decS u k = decS u (k + 1)) := Lib.hid (fun k hk => decS_pad (Nat.lt_of_lt_of_le (lt_pow_nDigits u) (Nat.pow_le_pow_right (by decide) hk)))
  have hnd20 : Lib.nDigits u ≤ 20 := by
    by_cases h0 : u < 10
    · rw [nDigits_small h0]; omega
    · have := Lib.numDigits_eq u (by omega) hu
      split at this <;> omega
  clear hP
  generalize nDigits u = m at *
  go_enter Tryd.func9, Tryd.ntmps9
  go_wp2_with (first | (go_at_call 23; refine HC.out.mono ?_; rintro e w1 ⟨rfl, hb⟩) | fail)
  go_loop [6] (fun s => ∃ k : Nat, m ≤ k ∧ k ≤ 20 ∧ s = .string (decS u k)) (fun s => match s with | .string x => 20 - x.size | _ => 0)
  case atStart => exact ⟨m, Nat.le_refl _, hnd20, rfl⟩
  case round =>
    obtain ⟨k, hk, hk2, rfl⟩ := hrel
    have hz := decS_size u k
    by_cases hlt : k < d
    · have HS := Lib.hid (HPD.out k hk)
      have HZ := Lib.hid (decS_size u (k + 1))
      go_wp2
      refine ⟨⟨k + 1, by omega, by omega, by rw [HS.out]⟩, ?_⟩
      rw [HS.out]
      simp only [hz, HZ.out]
      omega
    · have HT := Lib.hid (decS_tail u k d (by omega))
      go_wp2
      go_ret2
      refine ⟨?_, by assumption⟩
      rw [HT.out]
      rfl
theorem decDiv {U j q : Nat} (h : q = U / 10 ^ j) : (q : Int) / 10 = ((U / 10 ^ (j + 1) : Nat) : Int) := by
  rw [Nat.pow_succ, ← Nat.div_div_eq_div_mul, ← h]
  rfl
theorem one_dg {u j q : Nat} (h : q = u / 10 ^ j) : strOfNums [48 + (q : Int) % 10] = ⟨#[dg u j]⟩ := by
  unfold strOfNums dg
  rw [← h]
  simp only [List.map_cons, List.map_nil]
  rw [show (48 + (q : Int) % 10).toNat = 48 + q % 10 by omega]
theorem rcode_ok (u : Nat) (hu : u < 18446744073709551616) (d : Nat) (h1 : 1 ≤ d) (h2 : d ≤ 12) (w : World) :
    Calls Tryd.prog 10 #[.int .u64 (u : Int), .int .i64 (d : Int)] w fun e w' => e = .returned (.tuple #[.string (decS u d), .int .i64 0]) ∧ Below w.heap.size w w' := by
  have HN := Lib.hid hu
  clear hu
  go_enter Tryd.func10, Tryd.ntmps10
  go_wp2_with fail
  go_loopw [0, 6, 7] (fun n s i wr => ∃ j : Nat, j ≤ d ∧ i = .int .i64 j ∧ n = .int .u64 ((u / 10 ^ j : Nat) : Int) ∧ s = .string (decS u j) ∧ Below w.heap.size w wr) (fun _ _ i _ => d - (RowKit.intOf i).toNat)
  case atStart => exact ⟨0, Nat.zero_le _, rfl, by simp, rfl, Below.refl _ _⟩
  case round =>
    obtain ⟨j, hj, rfl, rfl, rfl, hb⟩ := hrel
    have hz := decS_size u j
    have hzz := hb.size
    by_cases hlt : j < d
    · have hq : u / 10 ^ j < 18446744073709551616 := Nat.lt_of_le_of_lt (Nat.div_le_self _ _) HN.out
      obtain ⟨q, hqq⟩ : ∃ q, q = u / 10 ^ j := ⟨_, rfl⟩
      have HQ := Lib.hid hqq
      rw [← hqq] at hq ⊢
      clear hqq
      have hcv := one_str wr
      have hs1 : ∀ x : Int, (strOfNums [x]).size = 1 := fun x => strOfNums_size [x]
      have HB := Lib.hid (decS_cons u j)
      go_wp2
      refine ⟨⟨j + 1, by omega, y5 j, val_eq (decDiv HQ.out), ?_, hb.alloc hzz _⟩, by simp [RowKit.intOf]; omega⟩
      rw [one_dg HQ.out, HB.out]
    · obtain rfl : j = d := by omega
      go_wp2
      go_ret2
      exact ⟨rfl, hb⟩
end Go.Proofs.YtkobhepiacfehaaDoor
