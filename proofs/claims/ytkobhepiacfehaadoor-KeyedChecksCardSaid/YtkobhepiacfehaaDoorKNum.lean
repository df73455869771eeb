/-
  CONTRACTS of the hexadecimal text: strconv.ParseUint at base 16 on sixteen lower-case digits, the program's Text and Number; the specification's Text.
-/
import Derived.Test.YtkobhepiacfehaaDoorKDec
import Derived.Test.YtkobhepiacfehaaDoorKRow
namespace Go.Proofs.YtkobhepiacfehaaDoor
open Go.RowKit
set_option linter.unusedVariables false
theorem lower_any (c : Int) (h1 : 97 ≤ c) (h2 : c ≤ 102) (w : World) :
    Calls Tryd.prog 39 #[.int .u8 c] w fun e w' => e = .returned (.int .u8 c) ∧ w = w' := by
  have hv : bits BinOp.or IntKind.u8 c 32 = c := by
    obtain ⟨n, rfl⟩ : ∃ n : Nat, c = n := ⟨c.toNat, by omega⟩
    have : n = 97 ∨ n = 98 ∨ n = 99 ∨ n = 100 ∨ n = 101 ∨ n = 102 := by omega
    rcases this with rfl | rfl | rfl | rfl | rfl | rfl <;> decide +kernel
  go_enter Tryd.func39, Tryd.ntmps39
  go_wp2
  go_ret
  exact ⟨rfl, rfl⟩
theorem hex_list (n : Nat) : (hexS n 16).data.toList = (hexI n 16).map fun x => UInt8.ofNat x.toNat := strOfNums_data _
theorem hex_byte (n i : Nat) (hi : i < 16) (h : i < (hexS n 16).data.toList.length) : (((hexS n 16).data.toList[i]).toNat : Int) = hdI (n / 16 ^ (15 - i) % 16) := by
  have h1 := hexI_get n 16 i hi
  rw [List.getD_eq_getElem?_getD, List.getElem?_eq_getElem (by rw [hexI_len]; exact hi)] at h1
  simp only [hex_list, List.getElem_map]
  have h2 : (hexI n 16)[i]'(by rw [hexI_len]; exact hi) = hdI (n / 16 ^ (15 - i) % 16) := by simpa using h1
  rw [h2]
  have hd : n / 16 ^ (15 - i) % 16 < 16 := Nat.mod_lt _ (by decide)
  unfold hdI
  split
  · rw [UInt8.toNat_ofNat']; omega
  · rw [UInt8.toNat_ofNat']; omega
theorem hd_low {d : Nat} (h : d < 10) : hdI d = 48 + (d : Int) := by unfold hdI; rw [if_pos h]
theorem hd_high {d : Nat} (h : ¬ d < 10) : hdI d = 87 + (d : Int) := by unfold hdI; rw [if_neg h]
theorem acc_step (n i : Nat) (hi : i < 16) : n / 16 ^ (15 - i) / 16 = n / 16 ^ (16 - i) := by
  rw [Nat.div_div_eq_div_mul, ← Nat.pow_succ, show (15 - i).succ = 16 - i by omega]
theorem acc_lt (n i : Nat) (hn : n < 18446744073709551616) (hi : i < 16) : n / 16 ^ (16 - i) < 1152921504606846976 := by
  have h1 : n / 16 ^ (16 - i) < 16 ^ i := by
    rw [Nat.div_lt_iff_lt_mul (Nat.pow_pos (by decide)), ← Nat.pow_add, show i + (16 - i) = 16 by omega]
    exact hn
  exact Nat.lt_of_lt_of_le h1 (by rw [show (1152921504606846976 : Nat) = 16 ^ 15 from rfl]; exact Nat.pow_le_pow_right (by decide) (by omega))
set_option maxHeartbeats 2000000 in
set_option maxRecDepth 100000 in
theorem parse_any (n : Nat) (hn : n < 18446744073709551616) (w : World) :
    Calls Tryd.prog 32 #[.string (hexS n 16), .int .i64 16, .int .i64 64] w fun e w' => e = .returned (.tuple #[.int .u64 (n : Int), Value.nilIface]) ∧ Below w.heap.size w w' := by
  have HN := Lib.hid hn
  clear hn
  have hz := hexS_size n 16
  have hne : (hexS n 16).toList.isEmpty = false := by
    rw [ByteArray.toList_eq, hex_list, hexI]
    rfl
  have hne2 : (!(hexS n 16).toList.isEmpty) = true := by rw [hne]; rfl
  have hcv := conv_bytes w (hexS n 16)
  go_enter Tryd.func32, Tryd.ntmps32
  go_wp2_with fail
  clear hcv hne hne2
  rw [show IntKind.u64.wrap (IntKind.u64.wrap 18446744073709551616 - 1) = 18446744073709551615 by decide +kernel]
  have hR : Row ((w.alloc (.cells (bytesRow (hexS n 16) (grownCap w 16 0 5)) 5 ((bytesRow (hexS n 16) (grownCap w 16 0 5)).size, (bytesRow (hexS n 16) (grownCap w 16 0 5)).size + 1))).drew) w.heap.size (hexS n 16).data.toList := Row.new w (hexS n 16) (grownCap w 16 0 5)
  have hbW : Below w.heap.size w ((w.alloc (.cells (bytesRow (hexS n 16) (grownCap w 16 0 5)) 5 ((bytesRow (hexS n 16) (grownCap w 16 0 5)).size, (bytesRow (hexS n 16) (grownCap w 16 0 5)).size + 1))).drew) := ((Below.refl _ _).alloc (Nat.le_refl _) _).drew
  generalize (w.alloc (.cells (bytesRow (hexS n 16) (grownCap w 16 0 5)) 5 ((bytesRow (hexS n 16) (grownCap w 16 0 5)).size, (bytesRow (hexS n 16) (grownCap w 16 0 5)).size + 1))).drew = V at *
  obtain ⟨c60, hc60⟩ : ∃ c : Int, c = 1152921504606846976 := ⟨_, rfl⟩
  obtain ⟨m64, hm64⟩ : ∃ c : Int, c = 18446744073709551615 := ⟨_, rfl⟩
  rw [← hc60, ← hm64]
  have HC60 := Lib.hid hc60
  have HM64 := Lib.hid hm64
  clear hc60 hm64
  have HR := Lib.hid hR
  have HL : Hid ((hexS n 16).data.toList.length = 16) := Lib.hid (by rw [hex_list, List.length_map, hexI_len])
  clear hR
  go_loop [12, 13, 101] (fun u a i => ∃ k : Nat, k ≤ 16 ∧ i = .int .i64 k ∧ u = .bool false ∧ a = .int .u64 ((n / 16 ^ (16 - k) : Nat) : Int)) (fun _ _ i => 16 - (intOf i).toNat)
  case atStart => exact ⟨0, Nat.zero_le _, rfl, rfl, val_eq (by rw [Nat.div_eq_of_lt HN.out]; rfl)⟩
  case round =>
    obtain ⟨k, hk, rfl, rfl, rfl⟩ := hrel
    by_cases hlt : k < 16
    · have hkl : k < (hexS n 16).data.toList.length := by rw [HL.out]; exact hlt
      have hC := HR.out.cell k hkl
      rw [hex_byte n k hlt hkl] at hC
      have HS := Lib.hid (acc_step n k hlt)
      have ha := acc_lt n k HN.out hlt
      have HQ : Hid (n / 16 ^ (15 - k) = 16 * (n / 16 ^ (16 - k)) + n / 16 ^ (15 - k) % 16) := Lib.hid (by have := HS.out; omega)
      have hd16 : n / 16 ^ (15 - k) % 16 < 16 := Nat.mod_lt _ (by decide)
      have HK : Hid (16 - (k + 1) = 15 - k) := Lib.hid (by omega)
      clear hkl
      by_cases hd : n / 16 ^ (15 - k) % 16 < 10
      · rw [hd_low hd] at hC
        generalize n / 16 ^ (15 - k) % 16 = d at *
        generalize n / 16 ^ (16 - k) = a at *
        have ha1 : (a : Int) < c60 := by rw [HC60.out]; omega
        have ha2 : (a : Int) * 16 + (d : Int) ≤ m64 := by rw [HM64.out]; omega
        have hw1 : IntKind.u64.wrap ((a : Int) * 16) = (a : Int) * 16 := by rw [IntKind.wrap_u64]; omega
        have hw2 : IntKind.u64.wrap ((a : Int) * 16 + (48 + (d : Int) - 48)) = (a : Int) * 16 + (d : Int) := by rw [IntKind.wrap_u64]; omega
        clear ha
        go_wp2
        exact ⟨⟨k + 1, by omega, y5 k, rfl, val_eq (by rw [HK.out, HQ.out]; omega)⟩, by simp [intOf]; omega⟩
      · rw [hd_high hd] at hC
        have hd10 : 10 ≤ n / 16 ^ (15 - k) % 16 := by omega
        clear hd
        generalize n / 16 ^ (15 - k) % 16 = d at *
        generalize n / 16 ^ (16 - k) = a at *
        have ha1 : (a : Int) < c60 := by rw [HC60.out]; omega
        have ha2 : (a : Int) * 16 + (d : Int) ≤ m64 := by rw [HM64.out]; omega
        have hw1 : IntKind.u64.wrap ((a : Int) * 16) = (a : Int) * 16 := by rw [IntKind.wrap_u64]; omega
        have hw2 : IntKind.u64.wrap ((a : Int) * 16 + (87 + (d : Int) - 97 + 10)) = (a : Int) * 16 + (d : Int) := by rw [IntKind.wrap_u64]; omega
        clear ha
        go_wp2_with (go_at_call 39; refine (lower_any _ (by omega) (by omega) _).mono ?_; rintro e w' ⟨rfl, rfl⟩)
        exact ⟨⟨k + 1, by omega, y5 k, rfl, val_eq (by rw [HK.out, HQ.out]; omega)⟩, by simp [intOf]; omega⟩
    · obtain rfl : k = 16 := by omega
      go_wp2
      go_ret2
      exact ⟨rfl, hbW⟩
theorem parsePub_any (n : Nat) (hn : n < 18446744073709551616) (w : World) :
    Calls Tryd.prog 28 #[.string (hexS n 16), .int .i64 16, .int .i64 64] w fun e w' => e = .returned (.tuple #[.int .u64 (n : Int), Value.nilIface]) ∧ Below w.heap.size w w' := by
  have HC := Lib.hid (parse_any n hn w)
  clear hn
  go_enter Tryd.func28, Tryd.ntmps28
  go_wp2_with (go_at_call 32; refine HC.out.mono ?_; rintro e w1 ⟨rfl, hb⟩)
  go_ret2
  exact ⟨rfl, by assumption⟩
def digitB (c : Int) : Bool := decide (48 ≤ c ∧ c ≤ 57)
theorem digit_any (c : Int) (h0 : 0 ≤ c) (h1 : c ≤ 255) (w : World) :
    Calls Tryd.prog 34 #[.int .u8 c] w fun e w' => e = .returned (.bool (digitB c)) ∧ w = w' := by
  go_enter Tryd.func34, Tryd.ntmps34
  go_wp2
  all_goals go_ret
  all_goals exact ⟨ret_boolv (by unfold digitB; rw [Bool.eq_iff_iff]; simp; omega), rfl⟩
def lowB (c : Int) : Prop := (48 ≤ c ∧ c ≤ 57) ∨ (97 ≤ c ∧ c ≤ 102)
theorem lowerHex_yes (s : ByteArray) (hs : s.size ≤ maxLen) (hl : ∀ (k : Nat) (h : k < s.size), lowB (s[k].toNat : Int)) (w : World) :
    Calls Tryd.prog 29 #[.string s] w fun e w' => e = .returned (.bool true) ∧ w = w' := by
  unfold maxLen at hs
  have HL := Lib.hid hl
  clear hl
  go_enter Tryd.func29, Tryd.ntmps29
  go_wp2_with fail
  go_loop [3] (fun i => ∃ k : Nat, k ≤ s.size ∧ i = .int .i64 k) (fun i => s.size - (intOf i).toNat)
  case atStart => exact ⟨0, Nat.zero_le _, rfl⟩
  case round =>
    obtain ⟨k, hk, rfl⟩ := hrel
    by_cases hlt : k < s.size
    · have hb : s[k].toNat < 256 := s[k].toNat_lt
      have hlb := HL.out k hlt
      cases hD : digitB ↑s[k].toNat
      · have h1 : 97 ≤ (s[k].toNat : Int) ∧ (s[k].toNat : Int) ≤ 102 := by
          rcases hlb with h | h
          · unfold digitB at hD; simp at hD; omega
          · exact h
        obtain ⟨h2, h3⟩ := h1
        clear hlb
        go_wp2_with (go_at_call 34; refine (digit_any _ (by omega) (by omega) _).mono ?_; rintro e w' ⟨rfl, rfl⟩)
        exact ⟨⟨k + 1, by omega, y5 k⟩, by simp [intOf]; omega⟩
      · clear hlb
        go_wp2_with (go_at_call 34; refine (digit_any _ (by omega) (by omega) _).mono ?_; rintro e w' ⟨rfl, rfl⟩)
        exact ⟨⟨k + 1, by omega, y5 k⟩, by simp [intOf]; omega⟩
    · go_wp2
      go_ret
      exact ⟨rfl, rfl⟩
theorem hex_low (n k : Nat) (h : k < (hexS n 16).size) : lowB ((hexS n 16)[k].toNat : Int) := by
  have hk : k < 16 := by rw [← hexS_size n 16]; exact h
  have h1 := hex_byte n k hk h
  have hd : n / 16 ^ (15 - k) % 16 < 16 := Nat.mod_lt _ (by decide)
  have H : lowB (hdI (n / 16 ^ (15 - k) % 16)) := by
    unfold hdI lowB
    split <;> omega
  rw [← h1] at H
  exact H
theorem text_any (U : Nat) (hU : U < 18446744073709551616) (w : World) (hT : Tab w) :
    Calls Tryd.prog 14 #[.int .u64 (U : Int)] w fun e w' => e = .returned (.string (hexS U 16)) ∧ Below w.heap.size w w' := by
  have HC := Lib.hid (hex_any U hU w hT)
  clear hU hT
  go_enter Tryd.func14, Tryd.ntmps14
  go_wp2_with (go_at_call 27; refine HC.out.mono ?_; rintro e w1 ⟨rfl, hb⟩)
  go_ret
  exact ⟨rfl, by assumption⟩
theorem number_any (n : Nat) (hn : n < 18446744073709551616) (w : World) :
    Calls Tryd.prog 16 #[.string (hexS n 16)] w fun e w' => e = .returned (.tuple #[.int .u64 (n : Int), .int .i64 0]) ∧ Below w.heap.size w w' := by
  have HC := Lib.hid (parsePub_any n hn w)
  have hz := hexS_size n 16
  have HLH := Lib.hid (fun w' => lowerHex_yes (hexS n 16) (by rw [hz]; unfold maxLen; omega) (hex_low n) w')
  clear hn
  go_enter Tryd.func16, Tryd.ntmps16
  go_wp2_with (first | (go_at_call 28; refine HC.out.mono ?_; rintro e w1 ⟨rfl, hb⟩) | (go_at_call 29; refine (HLH.out _).mono ?_; rintro e w2 ⟨rfl, rfl⟩))
  go_ret2
  exact ⟨rfl, by assumption⟩
abbrev hex16 : ByteArray := ⟨#[48, 49, 50, 51, 52, 53, 54, 55, 56, 57, 97, 98, 99, 100, 101, 102]⟩
theorem hex16_at : ∀ r : Nat, r < 16 → hex16.extract r (r + 1) = strOfNums [hdI r] := by decide +kernel
theorem hex16_slice (q : Nat) (w : World) : (Instr.slice 9 (.string hex16) (some (.int .u64 ((q : Int) % 16))) (some (.int .u64 ((q : Int) % 16 + 1))) none).run Tryd.prog w = .ok (.string (strOfNums [hdI (q % 16)])) w := by
  rw [run_slice_string w 9 hex16 .u64 .u64 ((q : Int) % 16) ((q : Int) % 16 + 1) Tryd.underlying9 (by omega) (by omega) (by show _ ≤ ((16 : Nat) : Int); omega)]
  rw [← hex16_at (q % 16) (by omega)]
  rw [show ((q : Int) % 16).toNat = q % 16 by omega, show ((q : Int) % 16 + 1).toNat = q % 16 + 1 by omega]
theorem hexS_cons (N j : Nat) : strOfNums [hdI (N / 16 ^ j % 16)] ++ hexS N j = hexS N (j + 1) := by
  unfold hexS
  rw [hexI]
  apply ByteArray.ext
  simp [strOfNums]
theorem rtext_any (N : Nat) (hN : N < 18446744073709551616) (w : World) :
    Calls Tryd.prog 15 #[.int .u64 (N : Int)] w fun e w' => e = .returned (.string (hexS N 16)) ∧ w = w' := by
  have HN := Lib.hid hN
  clear hN
  go_enter Tryd.func15, Tryd.ntmps15
  go_wp2_with fail
  go_loop [0, 3, 4] (fun n s i => ∃ j : Nat, j ≤ 16 ∧ i = .int .i64 j ∧ n = .int .u64 ((N / 16 ^ j : Nat) : Int) ∧ s = .string (hexS N j)) (fun _ _ i => 16 - (intOf i).toNat)
  case atStart => exact ⟨0, Nat.zero_le _, rfl, by simp, rfl⟩
  case round =>
    obtain ⟨j, hj, rfl, rfl, rfl⟩ := hrel
    have hz := hexS_size N j
    by_cases hlt : j < 16
    · have hq : N / 16 ^ j < 18446744073709551616 := Nat.lt_of_le_of_lt (Nat.div_le_self _ _) HN.out
      obtain ⟨q, hqq⟩ : ∃ q, q = N / 16 ^ j := ⟨_, rfl⟩
      have HQ := Lib.hid hqq
      rw [← hqq] at hq ⊢
      clear hqq
      have hsl := hex16_slice q
      have h1 : (strOfNums [hdI (q % 16)]).size = 1 := strOfNums_size _
      go_wp2
      refine ⟨⟨j + 1, by omega, y5 j, val_eq (HexDiv HQ.out), ?_⟩, by simp [intOf]; omega⟩
      rw [HQ.out, hexS_cons]
    · obtain rfl : j = 16 := by omega
      go_wp2
      go_ret
      exact ⟨rfl, rfl⟩
theorem verify_in (key : Nat) (hk : key < 18446744073709551616) (data code : ByteArray) (hd : data.size ≤ 1500) (h1 : 1 ≤ code.size) (h2 : code.size ≤ 12) (w : World) (hP : Pow w) (hw : 0 < w.heap.size) {b : Bool} (HB : Hid (b = (code.toList == (decS (macN key data) code.size).toList))) :
    Calls Tryd.prog 18 #[.int .u64 (key : Int), .string data, .string code] w fun e w' => e = .returned (.bool b) ∧ Below w.heap.size w w' := by
  have HM := Lib.hid (mac_any key hk data (by omega) w)
  have HC := Lib.hid (fun (w1 : World) (hb : Below w.heap.size w w1) => code_ok (macN key data) (macN_lt _ _) code.size h1 h2 w1 (hP.below hb hw))
  clear hP
  go_enter Tryd.func18, Tryd.ntmps18
  go_wp2_with fail
  refine HM.out.mono ?_
  rintro e w1 ⟨rfl, hb1⟩
  go_wp2_with fail
  refine (HC.out w1 hb1).mono ?_
  rintro e w2 ⟨rfl, hb2⟩
  have hb3 := hb1.trans (hb2.mono hb1.size)
  clear hb1 hb2
  go_wp2
  go_ret
  exact ⟨ret_boolv HB.out.symm, hb3⟩
theorem verify_out (key : Nat) (hk : key < 18446744073709551616) (data code : ByteArray) (hd : data.size ≤ 1500) (hc : code.size ≤ maxLen) (h1 : code.size < 1 ∨ 12 < code.size) (w : World) :
    Calls Tryd.prog 18 #[.int .u64 (key : Int), .string data, .string code] w fun e w' => e = .returned (.bool false) ∧ Below w.heap.size w w' := by
  have HM := Lib.hid (mac_any key hk data (by omega) w)
  have HC := Lib.hid (fun (w1 : World) => code_bad (macN key data) (code.size : Int) (by omega) w1)
  unfold maxLen at hc
  clear h1
  go_enter Tryd.func18, Tryd.ntmps18
  go_wp2_with fail
  refine HM.out.mono ?_
  rintro e w1 ⟨rfl, hb1⟩
  go_wp2_with fail
  refine (HC.out w1).mono ?_
  rintro e w2 ⟨rfl, rfl⟩
  go_wp2
  go_ret
  exact ⟨rfl, hb1⟩
end Go.Proofs.YtkobhepiacfehaaDoor
