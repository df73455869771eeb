/-
  CONTRACTS of card numbers: the program's Index (the walks).
-/
import Derived.Test.YtddnfjaogekmjaaDoorP14
namespace Go.Proofs.YtddnfjaogekmjaaDoor
open Go.RowKit Go.Lib
set_option linter.unusedVariables false
set_option linter.unusedSimpArgs false
theorem atoi_any (t : ByteArray) (h0 : 0 < t.size) (h1 : t.size ≤ 18) (hd : Dgs t) {v : Int} (hv : v = numOf t 0 t.size) (w : World) :
    Calls Tryd.prog 39 #[.string t] w fun e w' => e = .returned (.tuple #[.int .i64 v, .nilIface]) ∧ Below w.heap.size w w' := by
  refine (Tryd.strconv_Atoi_ok t (by omega) v (by rw [hv]; exact atoi_dg t h0 h1 hd) w).mono ?_
  rintro e w' ⟨rfl, rfl | ⟨q, rfl⟩⟩
  · exact ⟨rfl, Below.refl _ _⟩
  · exact ⟨rfl, bytesWorld_below _ _ _⟩
/-- A card number is what Make makes of its prefix and its number. -/
theorem made_idx {p s : ByteArray} (h : OkX p s) : made p (idxN p s).toNat s.size = s ∧ OkM p (idxN p s) (s.size : Int) ∧ 0 ≤ idxN p s ∧ idxN p s < 1000000000000000000 := by
  obtain ⟨hc, p1, p2, hp⟩ := h
  obtain ⟨s1, s2, hd, hl⟩ := chk_ok hc
  obtain ⟨hz, hx⟩ := pre_bytes hp
  have hdk : ∀ j, j < s.size - 1 - p.size → dgAt s (p.size + j) := fun j hj => hd _ (by omega)
  have hbd := numOf_bd s p.size (s.size - 1 - p.size) hdk
  have hD := decS_numOf s p.size (s.size - 1 - p.size) hdk (by omega)
  have hB : body p (idxN p s).toNat s.size = s.extract 0 (s.size - 1) := by
    unfold body idxN
    rw [hD]
    apply byt_ext
    · rw [ByteArray.size_append, size_extract' _ _ _ (by omega), size_extract' _ _ _ (by omega)]; omega
    · intro k hk
      rw [ByteArray.size_append, size_extract' _ _ _ (by omega)] at hk
      rw [byt_extract _ _ _ _ (by omega) (by omega), Nat.zero_add]
      rcases Nat.lt_or_ge k p.size with h1 | h1
      · rw [byt_left _ _ _ h1]
        have : byt (s.extract 0 p.size) k = byt p k := by rw [hx]
        rw [← this, byt_extract _ _ _ _ hz (by omega), Nat.zero_add]
      · rw [byt_right _ _ _ h1, byt_extract _ _ _ _ (by omega) (by omega)]
        congr 1
        omega
  have hS : s.extract 0 (s.size - 1) ++ one (byt s (s.size - 1)) = s := by
    apply byt_ext
    · rw [ByteArray.size_append, size_extract' _ _ _ (by omega), one_size]; omega
    · intro k hk
      rw [ByteArray.size_append, size_extract' _ _ _ (by omega), one_size] at hk
      rcases Nat.lt_or_ge k (s.size - 1) with h1 | h1
      · rw [byt_left _ _ _ (by rw [size_extract' _ _ _ (by omega)]; omega), byt_extract _ _ _ _ (by omega) (by omega), Nat.zero_add]
      · obtain rfl : k = s.size - 1 := by omega
        have := byt_bd s (s.size - 1)
        rw [byt_right _ _ _ (by rw [size_extract' _ _ _ (by omega)]; omega), size_extract' _ _ _ (by omega), Nat.sub_zero, Nat.sub_self, byt_one _ (by omega) (by omega)]
  have hq := hd (s.size - 1) (by omega)
  unfold dgAt at hq
  have hcd : (byt s (s.size - 1) - 48).toNat = cdN (s.extract 0 (s.size - 1)) := by
    apply (cd_iff _ _ (by omega)).1
    rw [show (48 : Int) + (((byt s (s.size - 1) - 48).toNat : Nat) : Int) = byt s (s.size - 1) by omega, hS]
    exact hl
  have h18 : (10 : Int) ^ (s.size - 1 - p.size) = ((10 ^ (s.size - 1 - p.size) : Nat) : Int) := by simp
  have h18b := Nat.pow_le_pow_right (show 0 < 10 by decide) (show s.size - 1 - p.size ≤ 18 by omega)
  refine ⟨?_, ⟨by omega, by omega, p1, p2, ?_, hbd.1, ?_⟩, hbd.1, by unfold idxN; omega⟩
  · unfold made
    rw [hB, ← hcd, show (48 : Int) + (((byt s (s.size - 1) - 48).toNat : Nat) : Int) = byt s (s.size - 1) by omega, hS]
  · intro k hk
    have := hd k (by omega)
    unfold dgAt at *
    have h2 : byt (s.extract 0 p.size) k = byt p k := by rw [hx]
    rw [← h2, byt_extract _ _ _ _ hz (by omega), Nat.zero_add]
    exact this
  · rw [Int.toNat_natCast]
    unfold idxN
    omega
theorem ret_nb {a b : Int} {c : Bool} (h : a = b) : Ending.returned (.tuple #[.int .i64 a, .bool c]) = .returned (.tuple #[.int .i64 b, .bool c]) := by rw [h]
set_option maxHeartbeats 1600000 in
theorem index_no (p s : ByteArray) (hp : p.size ≤ 1000) (hs : s.size ≤ 1000) (h : ¬ OkX p s) (w : World) (hT : Pow w) (hw : 4 ≤ w.heap.size) :
    Calls Tryd.prog 23 #[.string p, .string s] w fun e w' => e = .returned (.tuple #[.int .i64 0, .bool false]) ∧ Below w.heap.size w w' := by
  have C1 := Lib.hid (fun w => check_any s hs w)
  have hcb := chkE_bd s
  by_cases hc : chkE s = 0
  · obtain ⟨s1, s2, hd, hl⟩ := chk_ok hc
    have HD := Lib.hid hd
    rw [hc] at C1
    clear hd hl
    by_cases p1 : 10 < p.size
    · clear h hc
      go_enter Tryd.func23, Tryd.ntmps23
      go_wp2_with (go_at_call 15; refine (C1.out _).mono ?_; rintro e w1 ⟨rfl, hb1⟩)
      go_ret2
      exact ⟨rfl, by assumption⟩
    · have C2 := Lib.hid (fun w => Tryd.strings_HasPrefix s p w)
      by_cases hx : Lib.hasPrefix s.data.toList p.data.toList = true
      · have hp0 : p.size = 0 := by
          rcases Nat.eq_zero_or_pos p.size with h0 | h0
          · exact h0
          · exact absurd ⟨hc, h0, by omega, hx⟩ h
        rw [hx] at C2
        clear h hc hx
        have hsl := fun w => sl_lh s p.size (s.size - 1) (by omega) (by omega) (i := (p.size : Int)) (j := (s.size : Int) - 1) rfl (by omega) w
        have hz : (s.extract p.size (s.size - 1)).size = s.size - 1 - p.size := by rw [size_extract' _ _ _ (by omega)]
        have hdx : Dgs (s.extract p.size (s.size - 1)) := by
          intro k hk
          rw [hz] at hk
          have := HD.out (p.size + k) (by omega)
          unfold dgAt at *
          rw [byt_extract _ _ _ _ (by omega) (by omega)]
          exact this
        have hne : numOf s p.size (s.size - 1 - p.size) = numOf (s.extract p.size (s.size - 1)) 0 (s.extract p.size (s.size - 1)).size := by
          rw [hz]
          exact (numOf_ext _ fun j hj => by rw [Nat.zero_add, byt_extract _ _ _ _ (by omega) (by omega)]).symm
        have C3 : Hid (∀ w, Calls Tryd.prog 39 #[.string (s.extract p.size (s.size - 1))] w fun e w' => e = .returned (.tuple #[.int .i64 (idxN p s), .nilIface]) ∧ Below w.heap.size w w') := Lib.hid (fun w => atoi_any (s.extract p.size (s.size - 1)) (by omega) (by omega) hdx hne w)
        have hbd := numOf_bd s p.size (s.size - 1 - p.size) (fun j hj => HD.out _ (by omega))
        have h18b := Nat.pow_le_pow_right (show 0 < 10 by decide) (show s.size - 1 - p.size ≤ 18 by omega)
        have h18 : (10 : Int) ^ (s.size - 1 - p.size) = ((10 ^ (s.size - 1 - p.size) : Nat) : Int) := by simp
        have hbv : idxN p s < 1000000000000000000 := by unfold idxN; omega
        have hbn : 0 ≤ idxN p s := hbd.1
        clear hdx hbd h18 h18b hne
        have C4 := Lib.hid (fun w hT => make_bad p (by omega) (idxN p s) (s.size : Int) (by omega) (by omega) (fun h => by have := h.2.2.1; omega) w hT)
        clear hp0
        generalize idxN p s = v at *
        go_enter Tryd.func23, Tryd.ntmps23
        go_wp2_with (first | (go_at_call 15; refine (C1.out _).mono ?_; rintro e w1 ⟨rfl, hb1⟩) | (go_at_call 38; refine (C2.out _).mono ?_; rintro e w2 ⟨rfl, rfl⟩))
        go_at_call 39
        refine (C3.out _).mono ?_
        rintro e w3 ⟨rfl, hb3⟩
        have hB3 := hb1.trans (hb3.mono hb1.size)
        go_wp2_with fail
        go_at_call 21
        refine (C4.out _ (hT.later hB3 hw)).mono ?_
        rintro e w4 ⟨rfl, hb4⟩
        go_wp2
        go_ret2
        exact ⟨rfl, hB3.trans (hb4.mono hB3.size)⟩
      · have hx' := eq_false_of_ne_true hx
        rw [hx'] at C2
        clear h hc hx
        go_enter Tryd.func23, Tryd.ntmps23
        go_wp2_with (first | (go_at_call 15; refine (C1.out _).mono ?_; rintro e w1 ⟨rfl, hb1⟩) | (go_at_call 38; refine (C2.out _).mono ?_; rintro e w2 ⟨rfl, rfl⟩))
        go_ret2
        exact ⟨rfl, by assumption⟩
  · generalize chkE s = c at *
    clear h
    go_enter Tryd.func23, Tryd.ntmps23
    go_wp2_with (go_at_call 15; refine (C1.out _).mono ?_; rintro e w1 ⟨rfl, hb1⟩)
    go_ret2
    exact ⟨rfl, by assumption⟩
set_option maxHeartbeats 1600000 in
theorem index_ok (p s : ByteArray) (h : OkX p s) (w : World) (hT : Pow w) (hw : 4 ≤ w.heap.size) :
    Calls Tryd.prog 23 #[.string p, .string s] w fun e w' => e = .returned (.tuple #[.int .i64 (idxN p s), .bool true]) ∧ Below w.heap.size w w' := by
  obtain ⟨m1, m2, m3, m4⟩ := made_idx h
  obtain ⟨hc, p0, p1, hx⟩ := h
  obtain ⟨s1, s2, hd, hl⟩ := chk_ok hc
  have C1 := Lib.hid (fun w => check_any s (by omega) w)
  rw [hc] at C1
  have HD := Lib.hid hd
  have C2 := Lib.hid (fun w => Tryd.strings_HasPrefix s p w)
  rw [hx] at C2
  clear hd hl hc hx
  have hsl := fun w => sl_lh s p.size (s.size - 1) (by omega) (by omega) (i := (p.size : Int)) (j := (s.size : Int) - 1) rfl (by omega) w
  have hz : (s.extract p.size (s.size - 1)).size = s.size - 1 - p.size := by rw [size_extract' _ _ _ (by omega)]
  have hdx : Dgs (s.extract p.size (s.size - 1)) := by
    intro k hk
    rw [hz] at hk
    have := HD.out (p.size + k) (by omega)
    unfold dgAt at *
    rw [byt_extract _ _ _ _ (by omega) (by omega)]
    exact this
  have hne : numOf s p.size (s.size - 1 - p.size) = numOf (s.extract p.size (s.size - 1)) 0 (s.extract p.size (s.size - 1)).size := by
    rw [hz]
    exact (numOf_ext _ fun j hj => by rw [Nat.zero_add, byt_extract _ _ _ _ (by omega) (by omega)]).symm
  have C3 : Hid (∀ w, Calls Tryd.prog 39 #[.string (s.extract p.size (s.size - 1))] w fun e w' => e = .returned (.tuple #[.int .i64 (idxN p s), .nilIface]) ∧ Below w.heap.size w w') := Lib.hid (fun w => atoi_any (s.extract p.size (s.size - 1)) (by omega) (by omega) hdx hne w)
  have hbd := numOf_bd s p.size (s.size - 1 - p.size) (fun j hj => HD.out _ (by omega))
  have h18b := Nat.pow_le_pow_right (show 0 < 10 by decide) (show s.size - 1 - p.size ≤ 18 by omega)
  have h18 : (10 : Int) ^ (s.size - 1 - p.size) = ((10 ^ (s.size - 1 - p.size) : Nat) : Int) := by simp
  have hbv : idxN p s < 1000000000000000000 := by unfold idxN; omega
  have hbn : 0 ≤ idxN p s := hbd.1
  clear hdx hbd h18 h18b hne
  have C4 : Hid (∀ w, Pow w → 4 ≤ w.heap.size → Calls Tryd.prog 21 #[.string p, .int .i64 (idxN p s), .int .i64 (s.size : Int)] w fun e w' => e = .returned (.tuple #[.string s, .int .i64 0]) ∧ Below w.heap.size w w') := Lib.hid (fun w hT hw => by
    have e : idxN p s = (((idxN p s).toNat : Nat) : Int) := by omega
    have := make_ok p (idxN p s).toNat s.size (by omega) (by rw [← e]; exact m2) w hT hw
    rwa [m1, ← e] at this)
  clear m1 m2
  generalize idxN p s = v at *
  go_enter Tryd.func23, Tryd.ntmps23
  go_wp2_with (first | (go_at_call 15; refine (C1.out _).mono ?_; rintro e w1 ⟨rfl, hb1⟩) | (go_at_call 38; refine (C2.out _).mono ?_; rintro e w2 ⟨rfl, rfl⟩))
  go_at_call 39
  refine (C3.out _).mono ?_
  rintro e w3 ⟨rfl, hb3⟩
  have hB3 := hb1.trans (hb3.mono hb1.size)
  go_wp2_with fail
  go_at_call 21
  refine (C4.out _ (hT.later hB3 hw) (Nat.le_trans hw hB3.size)).mono ?_
  rintro e w4 ⟨rfl, hb4⟩
  go_wp2
  go_ret2
  exact ⟨rfl, hB3.trans (hb4.mono hB3.size)⟩
end Go.Proofs.YtddnfjaogekmjaaDoor
