/-
  CONTRACTS of wire: the specification's reader.
-/
import Derived.Test.YtjemljhfopgmiaaGreatDoorZ22
namespace Go.Proofs.YtjemljhfopgmiaaGreatDoor
open Go.RowKit
set_option linter.unusedVariables false
set_option linter.unusedSimpArgs false
abbrev RST : TypeId := 44
theorem trim_snoc (x : ByteArray) : trimS (x ++ sps 1) = trimS x := by
  unfold trimS Lib.trimRightB sps
  apply ByteArray.ext
  simp only [ByteArray.data_append, Array.toList_append]
  rw [List.reverse_append]
  rfl
theorem trim_no {s : ByteArray} (h : ¬ Blank s) : trimS s = s := by
  unfold trimS Lib.trimRightB
  apply ByteArray.ext
  have h2 : s.data.toList.reverse.dropWhile (· == 32) = s.data.toList.reverse := by
    cases hr : s.data.toList.reverse with
    | nil => rfl
    | cons c l =>
      have hl : s.data.toList = l.reverse ++ [c] := by rw [← List.reverse_reverse s.data.toList, hr]; simp
      have hz : s.size = l.length + 1 := by
        show s.data.toList.length = _
        rw [hl]; simp
      have hc : ¬ c = 32 := by
        intro hc
        apply h
        refine ⟨by omega, ?_⟩
        rw [byt, hl, hz, List.getD_eq_getElem?_getD]
        simp [hc]
      rw [List.dropWhile_cons, if_neg (by simpa using hc)]
  rw [h2]
  simp
theorem byt_sps (k j : Nat) (h : j < k) : byt (sps k) j = 32 := by
  show (((List.replicate k (32 : UInt8)).getD j 0).toNat : Int) = 32
  rw [List.getD_eq_getElem?_getD, List.getElem?_replicate, if_pos h]
  rfl
theorem trim_step {s : ByteArray} (h : Blank s) : trimS (s.extract 0 (s.size - 1)) = trimS s := by
  obtain ⟨h0, h1⟩ := h
  have hz : (s.extract 0 (s.size - 1)).size = s.size - 1 := by rw [size_extract' _ _ _ (by omega)]; omega
  have : s = s.extract 0 (s.size - 1) ++ sps 1 := by
    apply byt_ext
    · rw [ByteArray.size_append, hz, sps_size]; omega
    · intro k hk
      rcases Nat.lt_or_ge k (s.size - 1) with hl | hl
      · rw [byt_left _ _ _ (by omega), byt_extract _ _ _ _ (by omega) (by omega), Nat.zero_add]
      · rw [byt_right _ _ _ (by omega), byt_sps _ _ (by omega)]
        rw [show k = s.size - 1 by omega]; exact h1
  have h3 := trim_snoc (s.extract 0 (s.size - 1))
  rw [← this] at h3
  exact h3.symm
theorem ix_at (s : ByteArray) (k : Nat) (h : k < s.size) {i : Int} (hi : i = k) (w : World) : (Instr.index 9 (.string s) (.int .i64 i)).run Tryz.prog w = .ok (.int .u8 (byt s k)) w := by
  subst hi
  rw [run_index_string w 9 s .i64 (k : Int) Tryz.underlying9, dif_pos ⟨by omega, by omega⟩, byt_get s k h]
  rfl
theorem rdigit_any (c : Int) (h0 : 0 ≤ c) (h1 : c ≤ 255) (w : World) :
    Calls Tryz.prog 49 #[.int .u8 c] w fun e w' => e = .returned (.bool (digitB c)) ∧ w = w' := by
  by_cases h2 : 48 ≤ c
  · by_cases h3 : c ≤ 57
    · have HD : Hid (digitB c = true) := Lib.hid (decide_eq_true ⟨h2, h3⟩)
      go_enter Tryz.func49, Tryz.ntmps49
      go_wp2
      go_ret
      exact ⟨ret_bool HD.out.symm, rfl⟩
    · have HD : Hid (digitB c = false) := Lib.hid (decide_eq_false fun h => h3 h.2)
      go_enter Tryz.func49, Tryz.ntmps49
      go_wp2
      go_ret
      exact ⟨ret_bool HD.out.symm, rfl⟩
  · have HD : Hid (digitB c = false) := Lib.hid (decide_eq_false fun h => h2 h.1)
    go_enter Tryz.func49, Tryz.ntmps49
    go_wp2
    go_ret
    exact ⟨ret_bool HD.out.symm, rfl⟩
set_option maxHeartbeats 1600000 in
theorem rdigits_any (s : ByteArray) (hs : s.size ≤ 281474976710656) (w : World) :
    Calls Tryz.prog 34 #[.string s] w fun e w' => ((Dgs s ∧ e = .returned (.bool true)) ∨ (¬ Dgs s ∧ e = .returned (.bool false))) ∧ w = w' := by
  go_enter Tryz.func34, Tryz.ntmps34
  go_wp2_with fail
  go_loop [3] (fun i => ∃ k : Nat, k ≤ s.size ∧ i = .int .i64 k ∧ (∀ j, j < k → dgAt s j)) (fun i => s.size - (intOf i).toNat)
  case atStart => exact ⟨0, Nat.zero_le _, rfl, fun j h => absurd h (by omega)⟩
  case round =>
    obtain ⟨k, hk, rfl, hall⟩ := hrel
    have HALL := Lib.hid hall
    clear hall
    by_cases hlt : k < s.size
    · have hx := fun w => ix_at s k hlt (i := (k : Int)) rfl w
      have hy := byt_bd s k
      by_cases hdk : dgAt s k
      · have HDK := Lib.hid (snoc_dg HALL.out hdk)
        have hD : digitB (byt s k) = true := decide_eq_true hdk
        clear hdk
        generalize byt s k = x at *
        go_wp2_with (go_at_call 49; refine (rdigit_any _ hy.1 hy.2 _).mono ?_; rintro e w' ⟨rfl, rfl⟩; rw [hD])
        go_round
        case rel => exact ⟨k + 1, by omega, by go_num, HDK.out⟩
        case measure => simp [intOf]; omega
      · have HN : Hid (¬ Dgs s) := Lib.hid fun h => hdk (h k hlt)
        have hD : digitB (byt s k) = false := decide_eq_false hdk
        clear hdk
        generalize byt s k = x at *
        go_wp2_with (go_at_call 49; refine (rdigit_any _ hy.1 hy.2 _).mono ?_; rintro e w' ⟨rfl, rfl⟩; rw [hD])
        go_ret
        exact ⟨.inr ⟨HN.out, rfl⟩, rfl⟩
    · go_wp2
      go_ret
      exact ⟨.inl ⟨fun j hj => HALL.out j (by omega), rfl⟩, rfl⟩
theorem numOf_15 {s : ByteArray} {k : Nat} (hk : k ≤ 15) (hz : k ≤ s.size) (hd : Dgs s) : 0 ≤ numOf s 0 k ∧ numOf s 0 k ≤ 999999999999999 := by
  have hb := numOf_bd s 0 k (fun j hj => by rw [Nat.zero_add]; exact hd j (by omega))
  have hp := Nat.pow_le_pow_right (show 0 < 10 by decide) hk
  have : ((10 : Int) ^ k) = ((10 ^ k : Nat) : Int) := by simp
  omega
set_option maxHeartbeats 1600000 in
theorem rnumber_any (s : ByteArray) (hs : s.size ≤ 15) (hd : Dgs s) (w : World) :
    Calls Tryz.prog 35 #[.string s] w fun e w' => e = .returned (.int .i64 (numOf s 0 s.size)) ∧ w = w' := by
  have HD := Lib.hid hd
  clear hd
  go_enter Tryz.func35, Tryz.ntmps35
  go_wp2_with fail
  go_loop [3, 4] (fun n i => ∃ k : Nat, k ≤ s.size ∧ i = .int .i64 k ∧ n = .int .i64 (numOf s 0 k)) (fun _ i => s.size - (intOf i).toNat)
  case atStart => exact ⟨0, Nat.zero_le _, rfl, rfl⟩
  case round =>
    obtain ⟨k, hk, rfl, rfl⟩ := hrel
    by_cases hlt : k < s.size
    · have hx := fun w => ix_at s k hlt (i := (k : Int)) rfl w
      have hy := HD.out k hlt
      unfold dgAt at hy
      have hn := numOf_15 (s := s) (k := k) (by omega) (by omega) HD.out
      have HS : Hid (numOf s 0 (k + 1) = 10 * numOf s 0 k + (byt s k - 48)) := Lib.hid (by rw [numOf, Nat.zero_add])
      obtain ⟨y0, y1⟩ := hy
      obtain ⟨n0, n1⟩ := hn
      generalize byt s k = x at *
      generalize numOf s 0 k = v at *
      go_wp2
      go_round
      case rel => exact ⟨k + 1, by omega, by go_num, by rw [HS.out]; congr 1; omega⟩
      case measure => simp [intOf]; omega
    · obtain rfl : k = s.size := by omega
      go_wp2
      go_ret
      exact ⟨rfl, rfl⟩
theorem rfail_any (b : Nat) (s : ByteArray) (c e : Int) (w : World) (hb : Blk w b RST #[.string s, .int .i64 c]) :
    Calls Tryz.prog 33 #[.pointer (some ⟨b, 0, none⟩), .int .i64 e] w fun x w' => (∃ t, x = .returned t) ∧ Blk w' b RST #[.string s, .int .i64 e] ∧ Bes b w.heap.size w w' := by
  have b1 := hb.cell 1
  have f1 := hb.frozen 1
  simp at b1
  go_enter Tryz.func33, Tryz.ntmps33
  go_wp2
  go_end0
  exact ⟨⟨_, rfl⟩, hb.set_ 1 _, Bes.set (Below.refl _ _) 1 _⟩
theorem rtake_any (b : Nat) (s : ByteArray) (c : Int) (n : Nat) (hn : n ≤ s.size) (hs : s.size ≤ 281474976710656) (w : World) (hb : Blk w b RST #[.string s, .int .i64 c]) :
    Calls Tryz.prog 36 #[.pointer (some ⟨b, 0, none⟩), .int .i64 (n : Int)] w fun x w' => x = .returned (.string (s.extract 0 n)) ∧ Blk w' b RST #[.string (s.extract n s.size), .int .i64 c] ∧ Bes b w.heap.size w w' := by
  have b0 := hb.cell 0
  have f0 := hb.frozen 0
  simp at b0
  have hl := fun w => sl_l s n hn (i := (n : Int)) rfl w
  have hh := fun w => sl_h s n hn (j := (n : Int)) rfl w
  generalize s.extract 0 n = p at *
  have HQ := Lib.hid (show s.extract n s.size = s.extract n s.size from rfl)
  go_enter Tryz.func36, Tryz.ntmps36
  go_wp2
  go_ret
  exact ⟨rfl, hb.set_ 0 _, Bes.set (Below.refl _ _) 0 _⟩
end Go.Proofs.YtjemljhfopgmiaaGreatDoor
