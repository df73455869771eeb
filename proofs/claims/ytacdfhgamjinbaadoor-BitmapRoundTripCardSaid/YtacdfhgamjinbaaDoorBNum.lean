/-
  CONTRACTS of the hexadecimal text: strconv.ParseUint at base 16 on sixteen lower-case digits.
-/
import Derived.Test.YtacdfhgamjinbaaDoorB14
import Derived.Test.YtacdfhgamjinbaaDoorKRow
import Derived.Test.YtacdfhgamjinbaaDoorKShelf
namespace Go.Proofs.YtacdfhgamjinbaaDoor
open Go.RowKit
set_option linter.unusedVariables false
theorem lower_any (c : Int) (h1 : 97 ≤ c) (h2 : c ≤ 102) (w : World) :
    Calls Tryd.prog 48 #[.int .u8 c] w fun e w' => e = .returned (.int .u8 c) ∧ w = w' := by
  have hv : bits BinOp.or IntKind.u8 c 32 = c := by
    obtain ⟨n, rfl⟩ : ∃ n : Nat, c = n := ⟨c.toNat, by omega⟩
    have : n = 97 ∨ n = 98 ∨ n = 99 ∨ n = 100 ∨ n = 101 ∨ n = 102 := by omega
    rcases this with rfl | rfl | rfl | rfl | rfl | rfl <;> decide +kernel
  go_enter Tryd.func48, Tryd.ntmps48
  go_wp2
  go_ret
  exact ⟨rfl, rfl⟩
theorem hex_list (n : Nat) : (hexS n 16).data.toList = (hexI n 16).map fun x => UInt8.ofNat x.toNat := strOfNums_data _
theorem hex_byte (n i : Nat) (hi : i < 16) (h : i < (hexS n 16).data.toList.length) : (((hexS n 16).data.toList[i]).toNat : Int) = hdI (n / 16 ^ (15 - i) % 16) := by
  have h1 := hexI_get n 16 i hi
  rw [List.getD_eq_getElem?_getD, List.getElem?_eq_getElem (by rw [hexI_len]; exact hi)] at h1
  simp only [hex_list, List.getElem_map]
  have h2 : (hexI n 16)[i]'(by rw [hexI_len]; exact hi) = hdI (n / 16 ^ (15 - i) % 16) := by simpa using h1
  rw [h2]
  have hd : n / 16 ^ (15 - i) % 16 < 16 := Nat.mod_lt _ (by decide)
  unfold hdI
  split
  · rw [UInt8.toNat_ofNat']; omega
  · rw [UInt8.toNat_ofNat']; omega
theorem hd_low {d : Nat} (h : d < 10) : hdI d = 48 + (d : Int) := by unfold hdI; rw [if_pos h]
theorem hd_high {d : Nat} (h : ¬ d < 10) : hdI d = 87 + (d : Int) := by unfold hdI; rw [if_neg h]
theorem acc_step (n i : Nat) (hi : i < 16) : n / 16 ^ (15 - i) / 16 = n / 16 ^ (16 - i) := by
  rw [Nat.div_div_eq_div_mul, ← Nat.pow_succ, show (15 - i).succ = 16 - i by omega]
theorem acc_lt (n i : Nat) (hn : n < 18446744073709551616) (hi : i < 16) : n / 16 ^ (16 - i) < 1152921504606846976 := by
  have h1 : n / 16 ^ (16 - i) < 16 ^ i := by
    rw [Nat.div_lt_iff_lt_mul (Nat.pow_pos (by decide)), ← Nat.pow_add, show i + (16 - i) = 16 by omega]
    exact hn
  exact Nat.lt_of_lt_of_le h1 (by rw [show (1152921504606846976 : Nat) = 16 ^ 15 from rfl]; exact Nat.pow_le_pow_right (by decide) (by omega))
set_option maxHeartbeats 2000000 in
set_option maxRecDepth 100000 in
theorem parse_any (n : Nat) (hn : n < 18446744073709551616) (w : World) :
    Calls Tryd.prog 44 #[.string (hexS n 16), .int .i64 16, .int .i64 64] w fun e w' => e = .returned (.tuple #[.int .u64 (n : Int), Value.nilIface]) ∧ Below w.heap.size w w' := by
  have HN := Lib.hid hn
  clear hn
  have hz := hexS_size n 16
  have hne : (hexS n 16).toList.isEmpty = false := by
    rw [ByteArray.toList_eq, hex_list, hexI]
    rfl
  have hne2 : (!(hexS n 16).toList.isEmpty) = true := by rw [hne]; rfl
  have hcv := conv_bytes w (hexS n 16)
  go_enter Tryd.func44, Tryd.ntmps44
  go_wp2_with fail
  clear hcv hne hne2
  rw [show IntKind.u64.wrap (IntKind.u64.wrap 18446744073709551616 - 1) = 18446744073709551615 by decide +kernel]
  have hR : Row ((w.alloc (.cells (bytesRow (hexS n 16) (grownCap w 16 0 5)) 5 ((bytesRow (hexS n 16) (grownCap w 16 0 5)).size, (bytesRow (hexS n 16) (grownCap w 16 0 5)).size + 1))).drew) w.heap.size (hexS n 16).data.toList := Row.new w (hexS n 16) (grownCap w 16 0 5)
  have hbW : Below w.heap.size w ((w.alloc (.cells (bytesRow (hexS n 16) (grownCap w 16 0 5)) 5 ((bytesRow (hexS n 16) (grownCap w 16 0 5)).size, (bytesRow (hexS n 16) (grownCap w 16 0 5)).size + 1))).drew) := ((Below.refl _ _).alloc (Nat.le_refl _) _).drew
  generalize (w.alloc (.cells (bytesRow (hexS n 16) (grownCap w 16 0 5)) 5 ((bytesRow (hexS n 16) (grownCap w 16 0 5)).size, (bytesRow (hexS n 16) (grownCap w 16 0 5)).size + 1))).drew = V at *
  obtain ⟨c60, hc60⟩ : ∃ c : Int, c = 1152921504606846976 := ⟨_, rfl⟩
  obtain ⟨m64, hm64⟩ : ∃ c : Int, c = 18446744073709551615 := ⟨_, rfl⟩
  rw [← hc60, ← hm64]
  have HC60 := Lib.hid hc60
  have HM64 := Lib.hid hm64
  clear hc60 hm64
  have HR := Lib.hid hR
  have HL : Hid ((hexS n 16).data.toList.length = 16) := Lib.hid (by rw [hex_list, List.length_map, hexI_len])
  clear hR
  go_loop [12, 13, 101] (fun u a i => ∃ k : Nat, k ≤ 16 ∧ i = .int .i64 k ∧ u = .bool false ∧ a = .int .u64 ((n / 16 ^ (16 - k) : Nat) : Int)) (fun _ _ i => 16 - (intOf i).toNat)
  case atStart => exact ⟨0, Nat.zero_le _, rfl, rfl, val_eq (by rw [Nat.div_eq_of_lt HN.out]; rfl)⟩
  case round =>
    obtain ⟨k, hk, rfl, rfl, rfl⟩ := hrel
    by_cases hlt : k < 16
    · have hkl : k < (hexS n 16).data.toList.length := by rw [HL.out]; exact hlt
      have hC := HR.out.cell k hkl
      rw [hex_byte n k hlt hkl] at hC
      have HS := Lib.hid (acc_step n k hlt)
      have ha := acc_lt n k HN.out hlt
      have HQ : Hid (n / 16 ^ (15 - k) = 16 * (n / 16 ^ (16 - k)) + n / 16 ^ (15 - k) % 16) := Lib.hid (by have := HS.out; omega)
      have hd16 : n / 16 ^ (15 - k) % 16 < 16 := Nat.mod_lt _ (by decide)
      have HK : Hid (16 - (k + 1) = 15 - k) := Lib.hid (by omega)
      clear hkl
      by_cases hd : n / 16 ^ (15 - k) % 16 < 10
      · rw [hd_low hd] at hC
        generalize n / 16 ^ (15 - k) % 16 = d at *
        generalize n / 16 ^ (16 - k) = a at *
        have ha1 : (a : Int) < c60 := by rw [HC60.out]; omega
        have ha2 : (a : Int) * 16 + (d : Int) ≤ m64 := by rw [HM64.out]; omega
        have hw1 : IntKind.u64.wrap ((a : Int) * 16) = (a : Int) * 16 := by rw [IntKind.wrap_u64]; omega
        have hw2 : IntKind.u64.wrap ((a : Int) * 16 + (48 + (d : Int) - 48)) = (a : Int) * 16 + (d : Int) := by rw [IntKind.wrap_u64]; omega
        clear ha
        go_wp2
        exact ⟨⟨k + 1, by omega, y5 k, rfl, val_eq (by rw [HK.out, HQ.out]; omega)⟩, by simp [intOf]; omega⟩
      · rw [hd_high hd] at hC
        have hd10 : 10 ≤ n / 16 ^ (15 - k) % 16 := by omega
        clear hd
        generalize n / 16 ^ (15 - k) % 16 = d at *
        generalize n / 16 ^ (16 - k) = a at *
        have ha1 : (a : Int) < c60 := by rw [HC60.out]; omega
        have ha2 : (a : Int) * 16 + (d : Int) ≤ m64 := by rw [HM64.out]; omega
        have hw1 : IntKind.u64.wrap ((a : Int) * 16) = (a : Int) * 16 := by rw [IntKind.wrap_u64]; omega
        have hw2 : IntKind.u64.wrap ((a : Int) * 16 + (87 + (d : Int) - 97 + 10)) = (a : Int) * 16 + (d : Int) := by rw [IntKind.wrap_u64]; omega
        clear ha
        go_wp2_with (go_at_call 48; refine (lower_any _ (by omega) (by omega) _).mono ?_; rintro e w' ⟨rfl, rfl⟩)
        exact ⟨⟨k + 1, by omega, y5 k, rfl, val_eq (by rw [HK.out, HQ.out]; omega)⟩, by simp [intOf]; omega⟩
    · obtain rfl : k = 16 := by omega
      go_wp2
      go_ret2
      exact ⟨rfl, hbW⟩
theorem parsePub_any (n : Nat) (hn : n < 18446744073709551616) (w : World) :
    Calls Tryd.prog 41 #[.string (hexS n 16), .int .i64 16, .int .i64 64] w fun e w' => e = .returned (.tuple #[.int .u64 (n : Int), Value.nilIface]) ∧ Below w.heap.size w w' := by
  have HC := Lib.hid (parse_any n hn w)
  clear hn
  go_enter Tryd.func41, Tryd.ntmps41
  go_wp2_with (go_at_call 44; refine HC.out.mono ?_; rintro e w1 ⟨rfl, hb⟩)
  go_ret2
  exact ⟨rfl, by assumption⟩
def digitB (c : Int) : Bool := decide (48 ≤ c ∧ c ≤ 57)
theorem digit_any (c : Int) (h0 : 0 ≤ c) (h1 : c ≤ 255) (w : World) :
    Calls Tryd.prog 46 #[.int .u8 c] w fun e w' => e = .returned (.bool (digitB c)) ∧ w = w' := by
  go_enter Tryd.func46, Tryd.ntmps46
  go_wp2
  all_goals go_ret
  all_goals exact ⟨ret_boolv (by unfold digitB; rw [Bool.eq_iff_iff]; simp; omega), rfl⟩
def lowB (c : Int) : Prop := (48 ≤ c ∧ c ≤ 57) ∨ (97 ≤ c ∧ c ≤ 102)
theorem lowerHex_yes (s : ByteArray) (hs : s.size ≤ maxLen) (hl : ∀ (k : Nat) (h : k < s.size), lowB (s[k].toNat : Int)) (w : World) :
    Calls Tryd.prog 42 #[.string s] w fun e w' => e = .returned (.bool true) ∧ w = w' := by
  unfold maxLen at hs
  have HL := Lib.hid hl
  clear hl
  go_enter Tryd.func42, Tryd.ntmps42
  go_wp2_with fail
  go_loop [3] (fun i => ∃ k : Nat, k ≤ s.size ∧ i = .int .i64 k) (fun i => s.size - (intOf i).toNat)
  case atStart => exact ⟨0, Nat.zero_le _, rfl⟩
  case round =>
    obtain ⟨k, hk, rfl⟩ := hrel
    by_cases hlt : k < s.size
    · have hb : s[k].toNat < 256 := s[k].toNat_lt
      have hlb := HL.out k hlt
      cases hD : digitB ↑s[k].toNat
      · have h1 : 97 ≤ (s[k].toNat : Int) ∧ (s[k].toNat : Int) ≤ 102 := by
          rcases hlb with h | h
          · unfold digitB at hD; simp at hD; omega
          · exact h
        obtain ⟨h2, h3⟩ := h1
        clear hlb
        go_wp2_with (go_at_call 46; refine (digit_any _ (by omega) (by omega) _).mono ?_; rintro e w' ⟨rfl, rfl⟩)
        exact ⟨⟨k + 1, by omega, y5 k⟩, by simp [intOf]; omega⟩
      · clear hlb
        go_wp2_with (go_at_call 46; refine (digit_any _ (by omega) (by omega) _).mono ?_; rintro e w' ⟨rfl, rfl⟩)
        exact ⟨⟨k + 1, by omega, y5 k⟩, by simp [intOf]; omega⟩
    · go_wp2
      go_ret
      exact ⟨rfl, rfl⟩
theorem hex_low (n k : Nat) (h : k < (hexS n 16).size) : lowB ((hexS n 16)[k].toNat : Int) := by
  have hk : k < 16 := by rw [← hexS_size n 16]; exact h
  have h1 := hex_byte n k hk h
  have hd : n / 16 ^ (15 - k) % 16 < 16 := Nat.mod_lt _ (by decide)
  have H : lowB (hdI (n / 16 ^ (15 - k) % 16)) := by
    unfold hdI lowB
    split <;> omega
  rw [← h1] at H
  exact H
abbrev hex16 : ByteArray := ⟨#[48, 49, 50, 51, 52, 53, 54, 55, 56, 57, 97, 98, 99, 100, 101, 102]⟩
theorem hex16_at : ∀ r : Nat, r < 16 → hex16.extract r (r + 1) = strOfNums [hdI r] := by decide +kernel
theorem hex16_slice (q : Nat) (w : World) : (Instr.slice 9 (.string hex16) (some (.int .u64 ((q : Int) % 16))) (some (.int .u64 ((q : Int) % 16 + 1))) none).run Tryd.prog w = .ok (.string (strOfNums [hdI (q % 16)])) w := by
  rw [run_slice_string w 9 hex16 .u64 .u64 ((q : Int) % 16) ((q : Int) % 16 + 1) Tryd.underlying9 (by omega) (by omega) (by show _ ≤ ((16 : Nat) : Int); omega)]
  rw [← hex16_at (q % 16) (by omega)]
  rw [show ((q : Int) % 16).toNat = q % 16 by omega, show ((q : Int) % 16 + 1).toNat = q % 16 + 1 by omega]
theorem hexS_cons (N j : Nat) : strOfNums [hdI (N / 16 ^ j % 16)] ++ hexS N j = hexS N (j + 1) := by
  unfold hexS
  rw [hexI]
  apply ByteArray.ext
  simp [strOfNums]
end Go.Proofs.YtacdfhgamjinbaaDoor
