/-
  CONTRACTS of bitmaps: sixteen hexadecimal digits, written and read.
-/
import Derived.Test.YtacdfhgamjinbaaDoorBChk2
import Derived.Test.YtacdfhgamjinbaaDoorB15
namespace Go.Proofs.YtacdfhgamjinbaaDoor
open Go.RowKit
set_option linter.unusedVariables false
theorem rhex_any (N : Nat) (hN : N < 18446744073709551616) (w : World) :
    Calls Tryd.prog 39 #[.int .u64 (N : Int)] w fun e w' => e = .returned (.string (hexS N 16)) ∧ w = w' := by
  have HN := Lib.hid hN
  clear hN
  go_enter Tryd.func39, Tryd.ntmps39
  go_wp2_with fail
  go_loop [0, 3, 4] (fun n s i => ∃ j : Nat, j ≤ 16 ∧ i = .int .i64 j ∧ n = .int .u64 ((N / 16 ^ j : Nat) : Int) ∧ s = .string (hexS N j)) (fun _ _ i => 16 - (intOf i).toNat)
  case atStart => exact ⟨0, Nat.zero_le _, rfl, by simp, rfl⟩
  case round =>
    obtain ⟨j, hj, rfl, rfl, rfl⟩ := hrel
    have hz := hexS_size N j
    by_cases hlt : j < 16
    · have hq : N / 16 ^ j < 18446744073709551616 := Nat.lt_of_le_of_lt (Nat.div_le_self _ _) HN.out
      obtain ⟨q, hqq⟩ : ∃ q, q = N / 16 ^ j := ⟨_, rfl⟩
      have HQ := Lib.hid hqq
      rw [← hqq] at hq ⊢
      clear hqq
      have hsl : ∀ w, (Instr.slice 9 (.string hex16) (some (.int .i64 ((q : Int) % 16))) (some (.int .i64 ((q : Int) % 16 + 1))) none).run Tryd.prog w = .ok (.string (strOfNums [hdI (q % 16)])) w := fun w => by
        rw [run_slice_string w 9 hex16 .i64 .i64 ((q : Int) % 16) ((q : Int) % 16 + 1) Tryd.underlying9 (by omega) (by omega) (by show _ ≤ ((16 : Nat) : Int); omega)]
        rw [← hex16_at (q % 16) (by omega)]
        rw [show ((q : Int) % 16).toNat = q % 16 by omega, show ((q : Int) % 16 + 1).toNat = q % 16 + 1 by omega]
      have h1 : (strOfNums [hdI (q % 16)]).size = 1 := strOfNums_size _
      go_wp2
      refine ⟨⟨j + 1, by omega, y5 j, val_eq (HexDiv HQ.out), ?_⟩, by simp [intOf]; omega⟩
      rw [HQ.out, hexS_cons]
    · obtain rfl : j = 16 := by omega
      go_wp2
      go_ret
      exact ⟨rfl, rfl⟩
/-- A text of sixteen digits that is none. -/
def Bad (t : ByteArray) : Prop := ¬ ∀ (k : Nat) (h : k < t.size), lowN t[k].toNat
theorem el_short (s : ByteArray) (h : s.size < 16) (w : World) :
    Calls Tryd.prog 36 #[.string s] w fun e w' => e = .returned (.tuple #[.int .u64 0, .int .i64 1]) ∧ Below w.heap.size w w' := by
  go_enter Tryd.func36, Tryd.ntmps36
  go_wp2
  go_ret2
  exact ⟨rfl, Below.refl _ _⟩
theorem el_ok (s : ByteArray) (n : Nat) (hn : n < 18446744073709551616) (hs : s.size ≤ 1000) (h : 16 ≤ s.size) (ht : s.extract 0 16 = hexS n 16) (w : World) :
    Calls Tryd.prog 36 #[.string s] w fun e w' => e = .returned (.tuple #[.int .u64 (n : Int), .int .i64 0]) ∧ Below w.heap.size w w' := by
  have HC := Lib.hid (parsePub_any n hn w)
  have hz := hexS_size n 16
  have HLH := Lib.hid (fun w' => lowerHex_yes (hexS n 16) (by rw [hz]; unfold maxLen; omega) (hex_low n) w')
  clear hn
  go_enter Tryd.func36, Tryd.ntmps36
  go_wp2_with (first | (go_at_call 41; refine HC.out.mono ?_; rintro e w1 ⟨rfl, hb⟩) | (go_at_call 42; refine (HLH.out _).mono ?_; rintro e w2 ⟨rfl, rfl⟩))
  go_ret2
  exact ⟨rfl, by assumption⟩
theorem el_bad (s : ByteArray) (hs : s.size ≤ 1000) (h : 16 ≤ s.size) (ht : Bad (s.extract 0 16)) (w : World) (hE : Errs w) :
    Calls Tryd.prog 36 #[.string s] w fun e w' => e = .returned (.tuple #[.int .u64 0, .int .i64 2]) ∧ Below w.heap.size w w' := by
  obtain ⟨t, htt⟩ : ∃ t, t = s.extract 0 16 := ⟨_, rfl⟩
  have hts : t.size ≤ 1000 := by rw [htt, ByteArray.size_extract]; omega
  have HC := Lib.hid (parsePubGen_any t hts w hE)
  have HL := Lib.hid (fun w' => lowerHex_no t hts (htt ▸ ht) w')
  have ht2 : s.extract 0 16 = t := htt.symm
  clear ht htt hE
  go_enter Tryd.func36, Tryd.ntmps36
  go_wp2_with fail
  refine HC.out.mono ?_
  rintro e w1 ⟨x, v, rfl, hv, hb⟩
  have HB := Lib.hid hb
  clear hb
  rcases hv with rfl | ⟨p, rfl⟩
  · go_wp2_with (go_at_call 42; refine (HL.out _).mono ?_; rintro e w2 ⟨rfl, rfl⟩)
    go_ret2
    exact ⟨rfl, HB.out⟩
  · go_wp2
    go_ret2
    exact ⟨rfl, HB.out⟩
end Go.Proofs.YtacdfhgamjinbaaDoor
