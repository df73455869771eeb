/-
  CONTRACTS of card numbers: the program's Mask, Within, the specification's Within.
-/
import Derived.Test.YtddnfjaogekmjaaDoorP9
import Derived.Lib.Repeat
import Derived.Laws.Cover1
namespace Go.Proofs.YtddnfjaogekmjaaDoor
open Go.RowKit
set_option linter.unusedVariables false
set_option linter.unusedSimpArgs false
def stars (n : Nat) : ByteArray := ⟨(List.replicate n (42 : UInt8)).toArray⟩
theorem stars_size (n : Nat) : (stars n).size = n := by show (List.replicate n (42 : UInt8)).toArray.size = n; simp
theorem byt_stars (n k : Nat) (h : k < n) : byt (stars n) k = 42 := by
  show (((List.replicate n (42 : UInt8)).getD k 0).toNat : Int) = 42
  rw [List.getD_eq_getElem?_getD, List.getElem?_replicate, if_pos h]
  rfl
theorem repeat_star : ∀ n, Lib.repeatL [42] n = List.replicate n 42
  | 0 => rfl
  | n + 1 => by rw [Lib.repeatL, repeat_star n, List.replicate_succ]; rfl
theorem rep_any (n : Nat) (h : n ≤ 1000) {i : Int} (hi : i = n) (w : World) : Calls Tryd.prog 33 #[.string ⟨#[42]⟩, .int .i64 i] w fun e w' => e = .returned (.string (stars n)) ∧ Below w.heap.size w w' := by
  subst hi
  refine (Tryd.strings_Repeat ⟨#[42]⟩ n w (by omega) (by show 1 * n ≤ _; omega)).mono ?_
  rintro e w' ⟨rfl, hb⟩
  exact ⟨ret_str (by unfold stars; rw [← repeat_star]), hb⟩
theorem mask_no (s : ByteArray) (hs : s.size ≤ 1000) (hc : chkE s ≠ 0) (w : World) :
    Calls Tryd.prog 17 #[.string s] w fun e w' => ∃ r, e = .returned (.string r) ∧ IsMask s false r ∧ Below w.heap.size w w' := by
  have hcb := chkE_bd s
  have CK := Lib.hid (fun w => check_any s hs w)
  generalize chkE s = c at *
  go_enter Tryd.func17, Tryd.ntmps17
  go_wp2_with fail
  go_at_call 15
  refine (CK.out _).mono ?_
  rintro e w1 ⟨rfl, hb1⟩
  go_wp2_with fail
  go_at_call 33
  refine (rep_any s.size hs rfl _).mono ?_
  rintro e w2 ⟨rfl, hb2⟩
  go_wp2
  go_ret
  exact ⟨_, rfl, ⟨stars_size _, fun k hk => by rw [byt_stars _ _ hk]; unfold maskAt; simp⟩, hb1.trans (hb2.mono hb1.size)⟩
theorem isMask_mid (s : ByteArray) (h : 12 ≤ s.size) : IsMask s true (s.extract 0 6 ++ stars (s.size - 10) ++ s.extract (s.size - 4) s.size) := by
  have h1 : (s.extract 0 6).size = 6 := by rw [size_extract' _ _ _ (by omega)]
  have h2 := stars_size (s.size - 10)
  have h3 : (s.extract (s.size - 4) s.size).size = 4 := by rw [size_extract' _ _ _ (by omega)]; omega
  refine ⟨by rw [ByteArray.size_append, ByteArray.size_append, h1, h2, h3]; omega, fun k hk => ?_⟩
  unfold maskAt
  rcases Nat.lt_or_ge k 6 with ha | ha
  · rw [byt_left _ _ _ (by rw [ByteArray.size_append]; omega), byt_left _ _ _ (by omega), byt_extract _ _ _ _ (by omega) (by omega)]
    simp [ha]
  · rcases Nat.lt_or_ge k (s.size - 4) with hb | hb
    · rw [byt_left _ _ _ (by rw [ByteArray.size_append]; omega), byt_right _ _ _ (by omega), byt_stars _ _ (by omega)]
      have hx : ¬ k < 6 := by omega
      have hy : ¬ s.size ≤ k + 4 := by omega
      simp [hx, hy]
    · have hy : s.size ≤ k + 4 := by omega
      rw [byt_right _ _ _ (by rw [ByteArray.size_append]; omega), ByteArray.size_append, h1, h2, byt_extract _ _ _ _ (by omega) (by omega)]
      simp [hy]
      congr 1
      omega
theorem wr_any (n : Int) (h0 : -1000 ≤ n) (h1 : n ≤ 100000) : IntKind.i64.wrap n = n := IntWalk.i64_in _ (by omega)
theorem mask_ok (s : ByteArray) (hs : s.size ≤ 1000) (h12 : 12 ≤ s.size) (hc : chkE s = 0) (w : World) :
    Calls Tryd.prog 17 #[.string s] w fun e w' => ∃ r, e = .returned (.string r) ∧ IsMask s true r ∧ Below w.heap.size w w' := by
  have CK : Hid (∀ w, Calls Tryd.prog 15 #[.string s] w fun e w' => e = .returned (.int .i64 0) ∧ Below w.heap.size w w') := Lib.hid fun w => by have := check_any s hs w; rwa [hc] at this
  clear hc
  have HM := Lib.hid (isMask_mid s h12)
  have hs1 := fun w => sl_h s 6 (by omega) (j := 6) rfl w
  have hs2 := fun w => sl_l s (s.size - 4) (by omega) (i := IntKind.i64.wrap ((s.size : Int) - 4)) (by rw [wr_any _ (by omega) (by omega)]; omega) w
  have h1 : (s.extract 0 6).size = 6 := by rw [size_extract' _ _ _ (by omega)]
  have h2 := stars_size (s.size - 10)
  have h3 : (s.extract (s.size - 4) s.size).size = 4 := by rw [size_extract' _ _ _ (by omega)]; omega
  have h4 : (s.extract 0 6 ++ stars (s.size - 10)).size = s.size - 4 := by rw [ByteArray.size_append]; omega
  go_enter Tryd.func17, Tryd.ntmps17
  go_wp2_with fail
  go_at_call 15
  refine (CK.out _).mono ?_
  rintro e w1 ⟨rfl, hb1⟩
  have C1 : Hid (∀ w, Calls Tryd.prog 33 #[.string ⟨#[42]⟩, .int .i64 (IntKind.i64.wrap ((s.size : Int) - 10))] w fun e w' => e = .returned (.string (stars (s.size - 10))) ∧ Below w.heap.size w w') := Lib.hid fun w => rep_any (s.size - 10) (by omega) (by rw [wr_any _ (by omega) (by omega)]; omega) w
  go_wp2_with fail
  go_region_with (first | (go_at_call 33; (with_reducible refine (C1.out _).mono ?_); rintro e w2 ⟨rfl, hb2⟩))
  all_goals go_wp2
  all_goals go_ret
  all_goals exact ⟨_, rfl, HM.out, hb1.trans (((Below.refl _ w1).drew.trans hb2).mono hb1.size)⟩
end Go.Proofs.YtddnfjaogekmjaaDoor
