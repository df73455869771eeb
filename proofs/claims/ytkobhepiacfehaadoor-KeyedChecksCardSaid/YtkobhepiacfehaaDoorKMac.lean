/-
  CONTRACTS of the keyed digest: the key's bytes, the hash of three parts, the mixing, Mac, Derive: the program's and the specification's.
-/
import Derived.Test.YtkobhepiacfehaaDoorKHash
import Derived.Test.YtkobhepiacfehaaDoorKHexF
import Derived.OwnWalk
import Derived.Maps.AppendAt
namespace Go.Proofs.YtkobhepiacfehaaDoor
open Go.RowKit
set_option linter.unusedVariables false
def chB (p : Nat) (i : Nat) : Nat := p / 2 ^ (56 - 8 * i) % 256
def chL (p k : Nat) : List Int := (List.range k).map fun i => (chB p i : Int)
theorem chB_int (p k : Nat) : (p : Int) / 2 ^ (56 - 8 * k) % 256 = (chB p k : Int) := by
  unfold chB
  rw [Int.natCast_emod, Int.natCast_ediv, Int.natCast_pow]
  rfl
def kbS (p : Nat) : ByteArray := strOfNums (chL p 8)
theorem kbS_size (p : Nat) : (kbS p).size = 8 := by unfold kbS; rw [strOfNums_size]; simp [chL]
theorem keyBytes_any (p : Nat) (hp : p < 18446744073709551616) (w : World) :
    Calls Tryd.prog 20 #[.int .u64 (p : Int)] w fun e w' => e = .returned (.string (kbS p)) ∧ Below w.heap.size w w' := by
  have hmk : ∀ w : World, (Instr.makeSlice 38 (.int .i64 8) (.int .i64 8)).run Tryd.prog w = .ok (.slice (some ⟨w.heap.size, 0, none⟩) 8 8) (w.alloc (.cells #[.int .u8 0, .int .u8 0, .int .u8 0, .int .u8 0, .int .u8 0, .int .u8 0, .int .u8 0, .int .u8 0] 5)) := fun _ => by kernel_rfl
  go_enter Tryd.func20, Tryd.ntmps20
  go_wp2_with fail
  clear hmk
  go_loopw [8] (fun i wr => ∃ (k : Nat) (cs : Array Value), k ≤ 8 ∧ i = .int .i64 k ∧ Blk wr w.heap.size 5 cs ∧ cs.size = 8 ∧ (∀ t, t < k → cs[t]? = some (.int .u8 (chB p t : Int))) ∧ Below w.heap.size w wr) (fun i _ => 8 - (intOf i).toNat)
  case atStart => exact ⟨0, _, Nat.zero_le _, rfl, Blk.new _ _ _, rfl, fun t ht => absurd ht (by omega), (Below.refl _ _).alloc (Nat.le_refl _) _⟩
  case round =>
    obtain ⟨k, cs, hk, rfl, hB, hcs, hD, hb⟩ := hrel
    have HCS := Lib.hid hcs
    have HD := Lib.hid hD
    have HB := Lib.hid hB
    by_cases hlt : k < 8
    · have hF := hB.frozen k
      have hC := hB.cell k
      obtain ⟨v0, hv0⟩ : ∃ v0, cs[k]? = some v0 := ⟨_, Array.getElem?_eq_getElem (by omega)⟩
      rw [hv0] at hC
      have EB := Lib.hid (chB_int p k)
      clear hv0 hcs hD hB
      go_wp2
      refine ⟨⟨k + 1, _, by omega, y5 k, HB.out.set_ k _, by simpa using HCS.out, fun t ht => ?_, hb.setCell (Nat.le_refl _) _⟩, by simp [intOf]; omega⟩
      rw [Array.getElem?_setIfInBounds]
      by_cases e : k = t
      · subst e
        rw [if_pos rfl, if_pos (by have := HCS.out; omega), EB.out]
      · rw [if_neg e]
        exact HD.out t (by omega)
    · obtain rfl : k = 8 := by omega
      have hcv := run_convert_bytes_arg wr 38 5 Tryd.underlying38 Tryd.underlying5 w.heap.size 0 8 8 (chL p 8) (by simp [chL]) (fun i hi => by
        rw [Nat.zero_add, hB.cell, hD i hi]
        simp [chL, List.getD_eq_getElem?_getD, hi]) 9 Tryd.underlying9
      clear hcs hD hB
      go_wp2
      go_ret
      exact ⟨rfl, hb⟩
def catF (f : Nat → ByteArray) : Nat → ByteArray
  | 0 => ⟨#[]⟩
  | k + 1 => catF f k ++ f k
theorem catF_size (f : Nat → ByteArray) (hf : ∀ j, (f j).size ≤ 2000) : ∀ k, (catF f k).size ≤ 2000 * k
  | 0 => Nat.le_refl _
  | k + 1 => by
    have := catF_size f hf k
    have := hf k
    rw [catF, ByteArray.size_append]
    omega
theorem hash3_any (f : Nat → ByteArray) (hf : ∀ j, (f j).size ≤ 2000) (g c : Nat) (w : World) (hc : ∀ j, j < 3 → w.cell? ⟨g, j, none⟩ = some (.string (f j))) :
    Calls Tryd.prog 22 #[.slice (some ⟨g, 0, none⟩) 3 c] w fun e w' => e = .returned (.int .u64 (hashN (catF f 3) : Int)) ∧ w = w' := by
  have HF := Lib.hid hf
  have HC := Lib.hid hc
  clear hf hc
  go_enter Tryd.func22, Tryd.ntmps22
  go_wp2_with fail
  go_loop [3, 8] (fun s i => ∃ k : Nat, k ≤ 3 ∧ i = .int .i64 k ∧ s = .string (catF f k)) (fun _ i => 3 - (intOf i).toNat)
  case atStart => exact ⟨0, Nat.zero_le _, rfl, rfl⟩
  case round =>
    obtain ⟨k, hk, rfl, rfl⟩ := hrel
    have h1 := catF_size f HF.out k
    by_cases hlt : k < 3
    · have hcx := HC.out k hlt
      have h2 := HF.out k
      have HS : Hid (catF f (k + 1) = catF f k ++ f k) := Lib.hid rfl
      generalize catF f k = s0 at *
      generalize f k = s1 at *
      go_wp2
      exact ⟨⟨k + 1, by omega, y5 k, by rw [HS.out]⟩, by simp [intOf]; omega⟩
    · obtain rfl : k = 3 := by omega
      go_wp2_with (go_at_call 30; refine (hash_any _ (by unfold maxLen; omega) _).mono ?_; rintro e w' ⟨rfl, rfl⟩)
      go_ret
      exact ⟨rfl, rfl⟩
def mixA (x : Nat) : Nat := (x ^^^ x / 536870912) * 13787848793156543929 % 18446744073709551616
def mixN (x : Nat) : Nat := mixA x ^^^ mixA x / 4294967296
theorem mixA_lt (x : Nat) : mixA x < 18446744073709551616 := Nat.mod_lt _ (by omega)
theorem mixN_lt (x : Nat) : mixN x < 18446744073709551616 := Nat.xor_lt_two_pow (n := 64) (mixA_lt x) (Nat.lt_of_le_of_lt (Nat.div_le_self _ _) (mixA_lt x))
theorem mixA_val (x : Nat) (hx : x < 18446744073709551616) : IntKind.u64.wrap (bits BinOp.xor IntKind.u64 (x : Int) ((x : Int) / 536870912) * 13787848793156543929) = (mixA x : Int) := mixStep_u64 x 536870912 13787848793156543929 hx
theorem mixB_val (y : Nat) (hy : y < 18446744073709551616) : bits BinOp.xor IntKind.u64 (y : Int) ((y : Int) / 4294967296) = ((y ^^^ y / 4294967296 : Nat) : Int) := xorShift_u64 y 4294967296 hy
theorem mix_val (x : Nat) (hx : x < 18446744073709551616) : bits BinOp.xor IntKind.u64 (IntKind.u64.wrap (bits BinOp.xor IntKind.u64 (x : Int) ((x : Int) / 536870912) * 13787848793156543929)) (IntKind.u64.wrap (bits BinOp.xor IntKind.u64 (x : Int) ((x : Int) / 536870912) * 13787848793156543929) / 4294967296) = (mixN x : Int) := by
  rw [mixA_val x hx]
  exact mixB_val (mixA x) (mixA_lt x)
theorem mix_any (x : Nat) (hx : x < 18446744073709551616) (w : World) :
    Calls Tryd.prog 21 #[.int .u64 (x : Int)] w fun e w' => e = .returned (.int .u64 (mixN x : Int)) ∧ w = w' := by
  have HV := Lib.hid (mix_val x hx)
  go_enter Tryd.func21, Tryd.ntmps21
  go_wp2
  go_ret
  exact ⟨ret_val HV.out, rfl⟩
theorem rmix_any (x : Nat) (hx : x < 18446744073709551616) (w : World) :
    Calls Tryd.prog 24 #[.int .u64 (x : Int)] w fun e w' => e = .returned (.int .u64 (mixN x : Int)) ∧ w = w' := by
  have HV := Lib.hid (mix_val x hx)
  go_enter Tryd.func24, Tryd.ntmps24
  go_wp2
  go_ret
  exact ⟨ret_val HV.out, rfl⟩
/-- The last bytes of a number. -/
def byI (n : Nat) : Nat → List Int
  | 0 => []
  | d + 1 => ((n / 256 ^ d % 256 : Nat) : Int) :: byI n d
def byS (n d : Nat) : ByteArray := strOfNums (byI n d)
theorem byI_len (n : Nat) : ∀ d, (byI n d).length = d
  | 0 => rfl
  | d + 1 => by rw [byI, List.length_cons, byI_len n d]
theorem byS_size (n d : Nat) : (byS n d).size = d := by unfold byS; rw [strOfNums_size, byI_len]
theorem byS_cons (N j : Nat) : strOfNums [((N / 256 ^ j % 256 : Nat) : Int)] ++ byS N j = byS N (j + 1) := by
  unfold byS
  rw [byI]
  apply ByteArray.ext
  simp [strOfNums]
theorem byS_kb (n : Nat) : byS n 8 = kbS n := rfl
theorem byDiv {U j q : Nat} (h : q = U / 256 ^ j) : (q : Int) / 256 = ((U / 256 ^ (j + 1) : Nat) : Int) := by
  rw [Nat.pow_succ, ← Nat.div_div_eq_div_mul, ← h]
  rfl
theorem one_str (wr : World) (x : Int) : (convert 38 9 (.slice (some ⟨wr.heap.size, 0, none⟩) 1 1)).run Tryd.prog (wr.alloc (.cells #[.int .u8 x] 5)) = .ok (.string (strOfNums [x])) (wr.alloc (.cells #[.int .u8 x] 5)) := by
  refine run_convert_bytes_arg _ 38 5 Tryd.underlying38 Tryd.underlying5 wr.heap.size 0 1 1 [x] rfl (fun i hi => ?_) 9 Tryd.underlying9
  obtain rfl : i = 0 := by omega
  exact cell_one_new wr (.int .u8 x) 5 0 (.int .u8 x) rfl
theorem eight_any (N : Nat) (hN : N < 18446744073709551616) (w : World) :
    Calls Tryd.prog 26 #[.int .u64 (N : Int)] w fun e w' => e = .returned (.string (kbS N)) ∧ Below w.heap.size w w' := by
  have HN := Lib.hid hN
  clear hN
  go_enter Tryd.func26, Tryd.ntmps26
  go_wp2_with fail
  go_loopw [0, 3, 4] (fun n s i wr => ∃ j : Nat, j ≤ 8 ∧ i = .int .i64 j ∧ n = .int .u64 ((N / 256 ^ j : Nat) : Int) ∧ s = .string (byS N j) ∧ Below w.heap.size w wr) (fun _ _ i _ => 8 - (intOf i).toNat)
  case atStart => exact ⟨0, Nat.zero_le _, rfl, by simp, rfl, Below.refl _ _⟩
  case round =>
    obtain ⟨j, hj, rfl, rfl, rfl, hb⟩ := hrel
    have hz := byS_size N j
    have hzz := hb.size
    by_cases hlt : j < 8
    · have hq : N / 256 ^ j < 18446744073709551616 := Nat.lt_of_le_of_lt (Nat.div_le_self _ _) HN.out
      obtain ⟨q, hqq⟩ : ∃ q, q = N / 256 ^ j := ⟨_, rfl⟩
      have HQ := Lib.hid hqq
      rw [← hqq] at hq ⊢
      clear hqq
      have hcv := one_str wr
      have hs1 : ∀ x : Int, (strOfNums [x]).size = 1 := fun x => strOfNums_size [x]
      have HB := Lib.hid (byS_cons N j)
      go_wp2
      refine ⟨⟨j + 1, by omega, y5 j, val_eq (byDiv HQ.out), ?_, hb.alloc hzz _⟩, by simp [intOf]; omega⟩
      rw [← HB.out, ← HQ.out]
      rfl
    · obtain rfl : j = 8 := by omega
      go_wp2
      go_ret
      exact ⟨ret_str (byS_kb N), hb⟩
/-- The keyed digest. -/
def macN (key : Nat) (data : ByteArray) : Nat := mixN (hashN (kbS key ++ data ++ kbS key))
theorem macN_lt (key : Nat) (data : ByteArray) : macN key data < 18446744073709551616 := mixN_lt _
theorem empty_app (a : ByteArray) : (⟨#[]⟩ : ByteArray) ++ a = a := by
  apply ByteArray.ext
  rw [ByteArray.data_append]
  simp
def three (a b : ByteArray) (j : Nat) : ByteArray := if j = 1 then b else a
theorem cat3 (a b : ByteArray) : catF (three a b) 3 = a ++ b ++ a := by
  show ((⟨#[]⟩ ++ three a b 0) ++ three a b 1) ++ three a b 2 = _
  rw [empty_app]
  rfl
theorem mac_any (key : Nat) (hk : key < 18446744073709551616) (data : ByteArray) (hd : data.size ≤ 2000) (w : World) :
    Calls Tryd.prog 8 #[.int .u64 (key : Int), .string data] w fun e w' => e = .returned (.int .u64 (macN key data : Int)) ∧ Below w.heap.size w w' := by
  have hz := kbS_size key
  have HK := Lib.hid (keyBytes_any key hk w)
  have H3 := Lib.hid (fun w' : World => hash3_any (three (kbS key) data) (fun j => by unfold three; split <;> omega) w'.heap.size 3 (w'.alloc (.cells #[.string (kbS key), .string data, .string (kbS key)] 9)) (fun j hj => by
    have hc := (Blk.new w' 9 #[Value.string (kbS key), Value.string data, Value.string (kbS key)]).cell
    match j, hj with
    | 0, _ => exact hc 0
    | 1, _ => exact hc 1
    | 2, _ => exact hc 2))
  rw [cat3] at H3
  have HM := Lib.hid (fun w' => mix_any (hashN (kbS key ++ data ++ kbS key)) (hashN_lt _) w')
  go_enter Tryd.func8, Tryd.ntmps8
  go_wp2_with (first | (go_at_call 20; refine HK.out.mono ?_; rintro e w1 ⟨rfl, hb⟩) | (go_at_call 22; refine (H3.out _).mono ?_; rintro e w2 ⟨rfl, rfl⟩) | (go_at_call 21; refine (HM.out _).mono ?_; rintro e w3 ⟨rfl, rfl⟩))
  go_ret
  exact ⟨rfl, hb.alloc hb.size _⟩
theorem rmac_any (key : Nat) (hk : key < 18446744073709551616) (data : ByteArray) (hd : data.size ≤ 2000) (w : World) :
    Calls Tryd.prog 11 #[.int .u64 (key : Int), .string data] w fun e w' => e = .returned (.int .u64 (macN key data : Int)) ∧ Below w.heap.size w w' := by
  have hz := kbS_size key
  have HK := Lib.hid (fun w' => eight_any key hk w')
  have hzz : (kbS key ++ data ++ kbS key).size ≤ 3000 := by rw [ByteArray.size_append, ByteArray.size_append]; omega
  have HH := Lib.hid (fun w' => rhash_any (kbS key ++ data ++ kbS key) (by unfold maxLen; omega) w')
  have HM := Lib.hid (fun w' => rmix_any (hashN (kbS key ++ data ++ kbS key)) (hashN_lt _) w')
  go_enter Tryd.func11, Tryd.ntmps11
  go_wp2_with fail
  refine (HK.out _).mono ?_
  rintro e w1 ⟨rfl, hb1⟩
  go_wp2_with fail
  refine (HK.out _).mono ?_
  rintro e w2 ⟨rfl, hb2⟩
  have hb3 := hb1.trans (hb2.mono hb1.size)
  clear hb1 hb2
  go_wp2_with fail
  refine (HH.out _).mono ?_
  rintro e w3 ⟨rfl, rfl⟩
  go_wp2_with fail
  refine (HM.out _).mono ?_
  rintro e w3 ⟨rfl, rfl⟩
  go_wp2
  go_ret
  exact ⟨rfl, hb3⟩
abbrev sDer : ByteArray := ⟨#[100, 101, 114, 105, 118, 101, 58]⟩
theorem derive_any (key : Nat) (hk : key < 18446744073709551616) (data : ByteArray) (hd : data.size ≤ 1500) (w : World) :
    Calls Tryd.prog 12 #[.int .u64 (key : Int), .string data] w fun e w' => e = .returned (.int .u64 (macN key (sDer ++ data) : Int)) ∧ Below w.heap.size w w' := by
  have hzs : (sDer ++ data).size ≤ 2000 := by rw [ByteArray.size_append]; show 7 + data.size ≤ _; omega
  have HK := Lib.hid (mac_any key hk (sDer ++ data) hzs w)
  clear hzs
  go_enter Tryd.func12, Tryd.ntmps12
  go_wp2_with (go_at_call 8; refine HK.out.mono ?_; rintro e w1 ⟨rfl, hb⟩)
  go_ret
  exact ⟨rfl, by assumption⟩
theorem rderive_any (key : Nat) (hk : key < 18446744073709551616) (data : ByteArray) (hd : data.size ≤ 1500) (w : World) :
    Calls Tryd.prog 13 #[.int .u64 (key : Int), .string data] w fun e w' => e = .returned (.int .u64 (macN key (sDer ++ data) : Int)) ∧ Below w.heap.size w w' := by
  have hzs : (sDer ++ data).size ≤ 2000 := by rw [ByteArray.size_append]; show 7 + data.size ≤ _; omega
  have HK := Lib.hid (rmac_any key hk (sDer ++ data) hzs w)
  clear hzs
  go_enter Tryd.func13, Tryd.ntmps13
  go_wp2_with (go_at_call 11; refine HK.out.mono ?_; rintro e w1 ⟨rfl, hb⟩)
  go_ret
  exact ⟨rfl, by assumption⟩
end Go.Proofs.YtkobhepiacfehaaDoor
