/-
  CONTRACTS of the chain, the program's and the specification's.
-/
import Derived.Test.YtfchpobjepdpgaaDoorSum2
import Derived.OwnWalk
import Derived.Laws.BytesArg
import Derived.Maps.AppendAt
import Derived.Deep.AppendLies
namespace Go.Proofs.YtfchpobjepdpgaaDoor
open Go.RowKit
set_option linter.unusedVariables false
def chB (p : Nat) (i : Nat) : Nat := p / 2 ^ (56 - 8 * i) % 256
def chL (p k : Nat) : List Int := (List.range k).map fun i => (chB p i : Int)
def chV (p k : Nat) : List Value := (chL p k).map (Value.int .u8)
def chainN (p : Nat) (s : ByteArray) : Nat := hashN (strOfNums (chL p 8) ++ s)
theorem chB_int (p k : Nat) : (p : Int) / 2 ^ (56 - 8 * k) % 256 = (chB p k : Int) := by
  unfold chB
  rw [Int.natCast_emod, Int.natCast_ediv, Int.natCast_pow]
  rfl
theorem chain_str {w : World} {B e : Nat} {v : Value} {p : Nat} (h : w.ownsRow B e 1 v 8 (chV p 8)) :
    ∃ g cap, v = .slice (some ⟨g, 0, none⟩) 8 cap ∧ B ≤ g ∧ ∀ i, i < 8 → w.cell? ⟨g, 0 + i, none⟩ = some (.int .u8 ((chL p 8).getD i 0)) := by
  obtain ⟨g, cap, rfl, hb, hl⟩ := h.form (by decide)
  refine ⟨g, cap, rfl, hb, fun i hi => ?_⟩
  rw [Nat.zero_add, h.cellAt i (by omega)]
  unfold chV
  rw [List.getElem?_map, List.getD_eq_getElem?_getD]
  rw [List.getElem?_eq_getElem (by simpa [chL] using hi)]
  rfl
theorem u8info : (Tryd.prog.info? 5).map (fun i => (i.zero, i.size, i.bytes)) = some (some (.int .u8 0), 1, 1) := by kernel_rfl
theorem chain_any (p : Nat) (hp : p < 18446744073709551616) (s : ByteArray) (hs : s.size ≤ 1000) (w : World) :
    Calls Tryd.prog 14 #[.int .u64 (p : Int), .string s] w fun e w' => e = .returned (.int .u64 (chainN p s : Int)) ∧ Below w.heap.size w w' := by
  obtain ⟨i0, hi, hz0, hz1, hz2⟩ := info_parts u8info
  have hmk : ∀ w : World, (Instr.makeSlice 38 (.int .i64 0) (.int .i64 8)).run Tryd.prog w = .ok (.slice (some ⟨w.heap.size, 0, none⟩) 0 8) (w.alloc (.cells #[.int .u8 0, .int .u8 0, .int .u8 0, .int .u8 0, .int .u8 0, .int .u8 0, .int .u8 0, .int .u8 0] 5)) := fun _ => by kernel_rfl
  go_enter Tryd.func14, Tryd.ntmps14
  go_wp2_with fail
  clear hmk
  go_loopw [5, 8] (fun b i wr => ∃ k : Nat, k ≤ 8 ∧ i = .int .i64 k ∧ wr.ownsRow w.heap.size 5 1 b k (chV p k) ∧ Below w.heap.size w wr) (fun _ i _ => 8 - (intOf i).toNat)
  case atStart => exact ⟨0, Nat.zero_le _, rfl, World.ownsRow_made w _ 8 (Nat.le_refl _) (by decide) rfl, (Below.refl _ _).alloc (Nat.le_refl _) _⟩
  case round =>
    obtain ⟨k, hk, rfl, hown, hb⟩ := hrel
    have hz := hb.size
    by_cases hlt : k < 8
    · go_wp2_with (at_builtin; refine wpList_append_own_at _ rfl (.tmp 11) (.tmp 18) 38 rfl w.heap.size 5 i0 (.int .u8 0) 1 1 Tryd.underlying38 hi hz0 hz1 hz2 rfl (by decide) _ _ _ rfl (hown.alloc _) ⟨wr.heap.size, 0, none⟩ 1 1 [.int .u8 _] rfl rfl (cell_one_new _ _ _) (ints_oneCell .u8 [_]) (by unfold maxLen; omega) (by omega) (by simp; omega) ?_; intro v' w1 hown' hgrow hnil hloc)
      refine ⟨⟨k + 1, by omega, y5 k, ?_, (hb.alloc hz _).grown hgrow (by simp; omega) (fun g he => (hown.lt g he).1)⟩, by simp [intOf]; omega⟩
      have e : chV p (k + 1) = chV p k ++ [Value.int .u8 (chB p k : Int)] := by simp [chV, chL, List.range_succ]
      rw [e]
      rw [← chB_int]
      exact hown'
    · obtain rfl : k = 8 := by omega
      obtain ⟨g, cap, rfl, hg, hcl⟩ := chain_str hown
      have hcv := run_convert_bytes_arg wr 38 5 Tryd.underlying38 Tryd.underlying5 g 0 8 cap (chL p 8) (by simp [chL]) hcl
      have hsz : (strOfNums (chL p 8)).size = 8 := by rw [strOfNums_size]; simp [chL]
      have hsz2 : (strOfNums (chL p 8) ++ s).size ≤ maxLen := by rw [ByteArray.size_append, hsz]; unfold maxLen; omega
      have HZ := Lib.hid hsz2
      have HN : Hid (chainN p s = hashN (strOfNums (chL p 8) ++ s)) := Lib.hid rfl
      clear hsz2
      generalize strOfNums (chL p 8) = c8 at *
      go_wp2_with (go_at_call 12; refine (hash_any _ HZ.out _).mono ?_; rintro e w' ⟨rfl, rfl⟩)
      go_ret
      exact ⟨ret_val (by rw [HN.out]), hb⟩
theorem strOfNums_snoc (xs : List Int) (x : Int) : strOfNums (xs ++ [x]) = strOfNums xs ++ strOfNums [x] := by
  apply ByteArray.ext
  simp [strOfNums]
/-- One byte, laid in a new block, as a string. -/
theorem one_str (wr : World) (x : Int) : (convert 38 9 (.slice (some ⟨wr.heap.size, 0, none⟩) 1 1)).run Tryd.prog (wr.alloc (.cells #[.int .u8 x] 5)) = .ok (.string (strOfNums [x])) (wr.alloc (.cells #[.int .u8 x] 5)) := by
  refine run_convert_bytes_arg _ 38 5 Tryd.underlying38 Tryd.underlying5 wr.heap.size 0 1 1 [x] rfl (fun i hi => ?_) 9 Tryd.underlying9
  obtain rfl : i = 0 := by omega
  exact cell_one_new wr (.int .u8 x) 5 0 (.int .u8 x) rfl
set_option maxHeartbeats 400000 in
theorem rchain_any (p : Nat) (hp : p < 18446744073709551616) (s : ByteArray) (hs : s.size ≤ 1000) (w : World) :
    Calls Tryd.prog 15 #[.int .u64 (p : Int), .string s] w fun e w' => e = .returned (.int .u64 (chainN p s : Int)) ∧ Below w.heap.size w w' := by
  go_enter Tryd.func15, Tryd.ntmps15
  go_wp2_with fail
  go_loopw [5, 6] (fun b i wr => ∃ k : Nat, k ≤ 8 ∧ i = .int .i64 (7 - (k : Int)) ∧ b = .string (strOfNums (chL p k)) ∧ Below w.heap.size w wr) (fun _ i _ => (intOf i + 1).toNat)
  case atStart => exact ⟨0, Nat.zero_le _, rfl, rfl, Below.refl _ _⟩
  case round =>
    obtain ⟨k, hk, rfl, rfl, hb⟩ := hrel
    have hz := hb.size
    have hsz : (strOfNums (chL p k)).size = k := by rw [strOfNums_size]; simp [chL]
    by_cases hlt : k < 8
    · have hcv := one_str wr
      have hs1 : ∀ x : Int, (strOfNums [x]).size = 1 := fun x => strOfNums_size [x]
      go_wp2
      refine ⟨⟨k + 1, by omega, val_eq (by omega), ?_, hb.alloc hz _⟩, by simp [intOf]; omega⟩
      have e : chL p (k + 1) = chL p k ++ [(chB p k : Int)] := by simp [chL, List.range_succ]
      have e2 := chB_int p k
      rw [show 56 - 8 * k = 8 * (7 - k) by omega] at e2
      rw [e, strOfNums_snoc, e2]
    · obtain rfl : k = 8 := by omega
      have hsz2 : (strOfNums (chL p 8) ++ s).size ≤ maxLen := by rw [ByteArray.size_append, hsz]; unfold maxLen; omega
      have HZ := Lib.hid hsz2
      have HN : Hid (chainN p s = hashN (strOfNums (chL p 8) ++ s)) := Lib.hid rfl
      clear hsz2
      generalize strOfNums (chL p 8) = c8 at *
      go_wp2_with (go_at_call 13; refine (rhash_any _ HZ.out _).mono ?_; rintro e w' ⟨rfl, rfl⟩)
      go_ret
      exact ⟨ret_val (by rw [HN.out]), hb⟩
end Go.Proofs.YtfchpobjepdpgaaDoor
