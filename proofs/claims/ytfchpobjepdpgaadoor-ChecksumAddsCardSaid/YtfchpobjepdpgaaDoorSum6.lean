/-
  CONTRACTS of the specification's Hex, of the seals and of Open, the program's and the specification's.
-/
import Derived.Test.YtfchpobjepdpgaaDoorSum5
import Derived.Deep.RegionWith
namespace Go.Proofs.YtfchpobjepdpgaaDoor
open Go.RowKit
set_option linter.unusedVariables false
abbrev hex16 : ByteArray := ⟨#[48, 49, 50, 51, 52, 53, 54, 55, 56, 57, 97, 98, 99, 100, 101, 102]⟩
theorem hex16_at : ∀ r : Nat, r < 16 → hex16.extract r (r + 1) = strOfNums [hdI r] := by decide +kernel
theorem hex16_slice (q : Nat) (w : World) : (Instr.slice 9 (.string hex16) (some (.int .u64 ((q : Int) % 16))) (some (.int .u64 ((q : Int) % 16 + 1))) none).run Tryd.prog w = .ok (.string (strOfNums [hdI (q % 16)])) w := by
  rw [run_slice_string w 9 hex16 .u64 .u64 ((q : Int) % 16) ((q : Int) % 16 + 1) Tryd.underlying9 (by omega) (by omega) (by show _ ≤ ((16 : Nat) : Int); omega)]
  rw [← hex16_at (q % 16) (by omega)]
  rw [show ((q : Int) % 16).toNat = q % 16 by omega, show ((q : Int) % 16 + 1).toNat = q % 16 + 1 by omega]
theorem hexS_cons (N j : Nat) : strOfNums [hdI (N / 16 ^ j % 16)] ++ hexS N j = hexS N (j + 1) := by
  unfold hexS
  rw [hexI]
  apply ByteArray.ext
  simp [strOfNums]
theorem rhex_any (N : Nat) (hN : N < 18446744073709551616) (w : World) :
    Calls Tryd.prog 25 #[.int .u64 (N : Int), .int .i64 8] w fun e w' => e = .returned (.string (hexS N 8)) ∧ w = w' := by
  have HN := Lib.hid hN
  clear hN
  go_enter Tryd.func25, Tryd.ntmps25
  go_wp2_with fail
  go_loop [0, 5] (fun n s => ∃ j : Nat, j ≤ 8 ∧ n = .int .u64 ((N / 16 ^ j : Nat) : Int) ∧ s = .string (hexS N j)) (fun _ s => match s with | .string x => 8 - x.size | _ => 0)
  case atStart => exact ⟨0, Nat.zero_le _, by simp, rfl⟩
  case round =>
    obtain ⟨j, hj, rfl, rfl⟩ := hrel
    have hz := hexS_size N j
    by_cases hlt : j < 8
    · have hq : N / 16 ^ j < 18446744073709551616 := Nat.lt_of_le_of_lt (Nat.div_le_self _ _) HN.out
      obtain ⟨q, hqq⟩ : ∃ q, q = N / 16 ^ j := ⟨_, rfl⟩
      have HQ := Lib.hid hqq
      rw [← hqq] at hq ⊢
      clear hqq
      have hsl := hex16_slice q
      have h1 : (strOfNums [hdI (q % 16)]).size = 1 := strOfNums_size _
      go_wp2
      refine ⟨⟨j + 1, by omega, val_eq (HexDiv HQ.out), ?_⟩, ?_⟩
      · rw [HQ.out, hexS_cons]
      · rw [HQ.out, hexS_cons]
        simp only [hexS_size]
        omega
    · obtain rfl : j = 8 := by omega
      go_wp2
      go_ret
      exact ⟨rfl, rfl⟩
theorem hexS_tail (c : Nat) : (hexS c 16).extract 8 16 = hexS c 8 := by
  apply ByteArray.ext
  rw [ByteArray.data_extract]
  simp [hexS, strOfNums, hexI]
theorem seal_any (s : ByteArray) (hs : s.size ≤ 2000) (w : World) (hT : Tab w) :
    Calls Tryd.prog 24 #[.string s] w fun e w' => e = .returned (.string (hexS (crcN s) 8)) ∧ Below w.heap.size w w' := by
  have hc := crcN_lt s
  have HC := Lib.hid (crc_any s (by unfold maxLen; omega) w)
  have HX := Lib.hid (hex_any (crcN s) (by omega) w hT)
  have hz := hexS_size (crcN s) 16
  have HT := Lib.hid (hexS_tail (crcN s))
  clear hT
  go_enter Tryd.func24, Tryd.ntmps24
  go_wp2_with (first | (go_at_call 10; refine HC.out.mono ?_; rintro e w1 ⟨rfl, rfl⟩) | (go_at_call 27; refine HX.out.mono ?_; rintro e w1 ⟨rfl, hb⟩))
  go_ret
  exact ⟨ret_str HT.out, by assumption⟩
theorem seal2_any (s : ByteArray) (hs : s.size ≤ 2000) (w : World) (hT : Tab w) :
    Calls Tryd.prog 21 #[.string s] w fun e w' => e = .returned (.string (s ++ hexS (crcN s) 8)) ∧ Below w.heap.size w w' := by
  have HC := Lib.hid (seal_any s hs w hT)
  have hz := hexS_size (crcN s) 8
  clear hT
  go_enter Tryd.func21, Tryd.ntmps21
  go_wp2_with (first | (go_at_call 24; refine HC.out.mono ?_; rintro e w1 ⟨rfl, hb⟩))
  go_ret
  exact ⟨rfl, by assumption⟩
theorem rseal_any (s : ByteArray) (hs : s.size ≤ 2000) (w : World) :
    Calls Tryd.prog 22 #[.string s] w fun e w' => e = .returned (.string (s ++ hexS (crcN s) 8)) ∧ w = w' := by
  have hc := crcN_lt s
  have HC := Lib.hid (rcrc_any s (by unfold maxLen; omega) w)
  have HX := Lib.hid (rhex_any (crcN s) (by omega) w)
  have hz := hexS_size (crcN s) 8
  go_enter Tryd.func22, Tryd.ntmps22
  go_wp2_with (first | (go_at_call 11; refine HC.out.mono ?_; rintro e w1 ⟨rfl, rfl⟩) | (go_at_call 25; refine HX.out.mono ?_; rintro e w1 ⟨rfl, rfl⟩))
  go_ret
  exact ⟨rfl, rfl⟩
theorem open_short (s : ByteArray) (hs : s.size < 8) (w : World) :
    Calls Tryd.prog 19 #[.string s] w fun e w' => e = .returned (.tuple #[.string ByteArray.empty, .int .i64 1]) ∧ w = w' := by
  go_enter Tryd.func19, Tryd.ntmps19
  go_wp2
  go_ret2
  exact ⟨rfl, rfl⟩
theorem ropen_short (s : ByteArray) (hs : s.size < 8) (w : World) :
    Calls Tryd.prog 20 #[.string s] w fun e w' => e = .returned (.tuple #[.string ByteArray.empty, .int .i64 1]) ∧ w = w' := by
  go_enter Tryd.func20, Tryd.ntmps20
  go_wp2
  go_ret2
  exact ⟨rfl, rfl⟩
theorem beq_str {a b : ByteArray} (h : a = b) : (a.toList == b.toList) = true := by rw [h]; simp
theorem bne_str {a b : ByteArray} (h : a ≠ b) : (a.toList == b.toList) = false := by
  rw [beq_eq_false_iff_ne]
  intro e
  rw [ByteArray.toList_eq, ByteArray.toList_eq] at e
  exact h (ByteArray.ext (Array.toList_inj.1 e))
theorem split_str (s : ByteArray) (h : 8 ≤ s.size) : s.extract 0 (s.size - 8) ++ s.extract (s.size - 8) s.size = s := by
  rw [ByteArray.extract_append_extract]
  simp
theorem append_right_inj' {a b c : ByteArray} (h : a ++ b = a ++ c) : b = c := by
  have := congrArg ByteArray.data h
  rw [ByteArray.data_append, ByteArray.data_append] at this
  exact ByteArray.ext ((Array.append_right_inj a.data).1 this)
def inner (s : ByteArray) : ByteArray := s.extract 0 (s.size - 8)
def sealed (s : ByteArray) : Prop := hexS (crcN (s.extract 0 (s.size - 8))) 8 = s.extract (s.size - 8) s.size
theorem open_ok (s : ByteArray) (hs : 8 ≤ s.size) (hs2 : s.size ≤ 1500) (w : World) (hT : Tab w) (hE : sealed s) :
    Calls Tryd.prog 19 #[.string s] w fun e w' => e = .returned (.tuple #[.string (s.extract 0 (s.size - 8)), .int .i64 0]) ∧ Below w.heap.size w w' := by
  have HE := beq_str hE
  have hz : (s.extract 0 (s.size - 8)).size = s.size - 8 := by rw [ByteArray.size_extract]; omega
  have HC := Lib.hid (seal_any (s.extract 0 (s.size - 8)) (by rw [ByteArray.size_extract]; omega) w.drew (show Tab w.drew from hT))
  clear hT hE
  go_enter Tryd.func19, Tryd.ntmps19
  go_wp2_with fail
  go_region_with (first | (go_at_call 24; refine HC.out.mono ?_; rintro e w1 ⟨rfl, hb⟩))
  go_wp2
  go_ret2
  exact ⟨rfl, (Below.refl _ w).drew.trans hb⟩
theorem open_bad (s : ByteArray) (hs : 8 ≤ s.size) (hs2 : s.size ≤ 1500) (w : World) (hT : Tab w) (hE : ¬ sealed s) :
    Calls Tryd.prog 19 #[.string s] w fun e w' => e = .returned (.tuple #[.string ByteArray.empty, .int .i64 9]) ∧ Below w.heap.size w w' := by
  have HE := bne_str hE
  have hz : (s.extract 0 (s.size - 8)).size = s.size - 8 := by rw [ByteArray.size_extract]; omega
  have HC := Lib.hid (seal_any (s.extract 0 (s.size - 8)) (by rw [ByteArray.size_extract]; omega) w.drew (show Tab w.drew from hT))
  clear hT hE
  go_enter Tryd.func19, Tryd.ntmps19
  go_wp2_with fail
  go_region_with (first | (go_at_call 24; refine HC.out.mono ?_; rintro e w1 ⟨rfl, hb⟩))
  go_wp2
  go_ret2
  exact ⟨rfl, (Below.refl _ w).drew.trans hb⟩
theorem ropen_ok (s : ByteArray) (hs : 8 ≤ s.size) (hs2 : s.size ≤ 1500) (w : World) (hE : sealed s) :
    Calls Tryd.prog 20 #[.string s] w fun e w' => e = .returned (.tuple #[.string (s.extract 0 (s.size - 8)), .int .i64 0]) ∧ w = w' := by
  have HE := beq_str (show s.extract 0 (s.size - 8) ++ hexS (crcN (s.extract 0 (s.size - 8))) 8 = s by rw [show hexS (crcN (s.extract 0 (s.size - 8))) 8 = _ from hE]; exact split_str s hs)
  have HC := Lib.hid (rseal_any (s.extract 0 (s.size - 8)) (by rw [ByteArray.size_extract]; omega) w)
  clear hE
  go_enter Tryd.func20, Tryd.ntmps20
  go_wp2_with (go_at_call 22; refine HC.out.mono ?_; rintro e w1 ⟨rfl, rfl⟩)
  go_ret2
  exact ⟨rfl, rfl⟩
theorem ropen_bad (s : ByteArray) (hs : 8 ≤ s.size) (hs2 : s.size ≤ 1500) (w : World) (hE : ¬ sealed s) :
    Calls Tryd.prog 20 #[.string s] w fun e w' => e = .returned (.tuple #[.string ByteArray.empty, .int .i64 9]) ∧ w = w' := by
  have HE := bne_str (show s.extract 0 (s.size - 8) ++ hexS (crcN (s.extract 0 (s.size - 8))) 8 ≠ s from fun e => hE (append_right_inj' (e.trans (split_str s hs).symm)))
  have HC := Lib.hid (rseal_any (s.extract 0 (s.size - 8)) (by rw [ByteArray.size_extract]; omega) w)
  clear hE
  go_enter Tryd.func20, Tryd.ntmps20
  go_wp2_with (go_at_call 22; refine HC.out.mono ?_; rintro e w1 ⟨rfl, rfl⟩)
  go_ret2
  exact ⟨rfl, rfl⟩
end Go.Proofs.YtfchpobjepdpgaaDoor
