/-
  CONTRACTS of card numbers: the specification's Strip, Within, Index, Make.
-/
import Derived.Test.YtddnfjaogekmjaaDoorP4
namespace Go.Proofs.YtddnfjaogekmjaaDoor
open Go.RowKit Go.Lib
set_option linter.unusedVariables false
set_option linter.unusedSimpArgs false
/-- A byte that a grouped card number may have at a place. -/
def isD (s : ByteArray) (k : Nat) : Bool := decide (48 ≤ byt s k ∧ byt s k ≤ 57)
def okAt (s : ByteArray) (k : Nat) : Prop := isD s k = true ∨ ((byt s k = 32 ∨ byt s k = 45) ∧ 0 < k ∧ isD s (k - 1) = true ∧ isD s (k + 1) = true)
def strp (s : ByteArray) : Nat → ByteArray
  | 0 => ByteArray.empty
  | k + 1 => if isD s k = true then strp s k ++ one (byt s k) else strp s k
def IsStrip (s : ByteArray) (r : ByteArray) (c : Int) : Prop := ((∃ j, j < s.size ∧ ¬ okAt s j) ∧ r = ByteArray.empty ∧ c = 2) ∨ ((∀ j, j < s.size → okAt s j) ∧ c = chkE (strp s s.size) ∧ r = if c = 0 then strp s s.size else ByteArray.empty)
theorem isStrip_ex (s : ByteArray) : ∃ r c, IsStrip s r c := by
  by_cases h : ∀ j, j < s.size → okAt s j
  · exact ⟨_, _, .inr ⟨h, rfl, rfl⟩⟩
  · refine ⟨_, _, .inl ⟨?_, rfl, rfl⟩⟩
    apply Classical.byContradiction
    intro hn
    exact h fun j hj => Classical.byContradiction fun h2 => hn ⟨j, hj, h2⟩
theorem strp_size (s : ByteArray) : ∀ k, (strp s k).size ≤ k
  | 0 => Nat.le_refl _
  | k + 1 => by
    have := strp_size s k
    rw [strp]
    split
    · rw [ByteArray.size_append, one_size]; omega
    · omega
theorem isD_di (s : ByteArray) (k : Nat) {i : Int} (hi : i = k) : isDI s i = isD s k := by
  subst hi
  unfold isDI isD
  rw [Int.toNat_natCast, Bool.eq_iff_iff, decide_eq_true_eq, decide_eq_true_eq]
  omega
theorem isDI_neg (s : ByteArray) {i : Int} (hi : i < 0) : isDI s i = false := by unfold isDI; exact decide_eq_false fun h => by omega
theorem IsStrip.uniq {s r t : ByteArray} {c d : Int} (h : IsStrip s r c) (g : IsStrip s t d) : r = t ∧ c = d := by
  rcases h with ⟨⟨j, hj, hn⟩, rfl, rfl⟩ | ⟨ha, rfl, rfl⟩ <;> rcases g with ⟨⟨j2, hj2, hn2⟩, rfl, rfl⟩ | ⟨ga, rfl, rfl⟩
  · exact ⟨rfl, rfl⟩
  · exact absurd (ga j hj) hn
  · exact absurd (ha j2 hj2) hn2
  · exact ⟨rfl, rfl⟩
theorem snoc_ok {s : ByteArray} {k : Nat} (h : ∀ j, j < k → okAt s j) (hk : okAt s k) : ∀ j, j < k + 1 → okAt s j := fun j hj => by
  rcases Nat.lt_or_ge j k with h1 | h1
  · exact h j h1
  · obtain rfl : j = k := by omega
    exact hk
theorem not_okAt {s : ByteArray} {k : Nat} (hd : isD s k = false) (h : ¬ ((byt s k = 32 ∨ byt s k = 45) ∧ 0 < k ∧ isD s (k - 1) = true ∧ isD s (k + 1) = true)) : ¬ okAt s k := by
  rintro (h1 | h1)
  · rw [hd] at h1; cases h1
  · exact h h1
theorem ret_sc {a b : ByteArray} {c d : Int} (h : a = b) (g : c = d) : Ending.returned (.tuple #[.string a, .int .i64 c]) = .returned (.tuple #[.string b, .int .i64 d]) := by rw [h, g]
set_option maxHeartbeats 3200000 in
theorem rstrip_any (s : ByteArray) (hs : s.size ≤ 1000) (w : World) :
    Calls Tryd.prog 28 #[.string s] w fun e w' => ∃ r c, e = .returned (.tuple #[.string r, .int .i64 c]) ∧ IsStrip s r c ∧ w = w' := by
  have CD : Hid (∀ i : Int, -1 ≤ i → i ≤ 1000 → ∀ w, Calls Tryd.prog 41 #[.string s, .int .i64 i] w fun e w' => e = .returned (.bool (isDI s i)) ∧ w = w') := Lib.hid fun i h0 h1 w => rdigit_any s hs i h0 h1 (Lib.hid rfl) w
  go_enter Tryd.func28, Tryd.ntmps28
  go_wp2_with fail
  go_loop [4, 5] (fun o i => ∃ (k : Nat) (r : ByteArray), k ≤ s.size ∧ o = .string r ∧ i = .int .i64 k ∧ r.size ≤ k ∧ Hid (r = strp s k) ∧ Hid (∀ j, j < k → okAt s j)) (fun _ i => s.size - (intOf i).toNat)
  case atStart => exact ⟨0, _, Nat.zero_le _, rfl, rfl, Nat.zero_le _, Lib.hid rfl, Lib.hid fun j h => absurd h (by omega)⟩
  case round =>
    obtain ⟨k, r, hk, rfl, rfl, hz, HR, HA⟩ := hrel
    by_cases hlt : k < s.size
    · have hsl := fun w => sl_one s k hlt w
      have hxz := one_size (byt s k)
      have hd0 : isDI s (k : Int) = isD s k := isD_di s k rfl
      have hd2 : isDI s ((k : Int) + 1) = isD s (k + 1) := isD_di s (k + 1) (by omega)
      have HG := Lib.hid (byt_get s k hlt)
      have hb256 : s[k].toNat < 256 := s[k].toNat_lt
      by_cases hd : isD s k = true
      · rw [hd] at hd0
        have HOK : Hid (okAt s k) := Lib.hid (.inl hd)
        have HS : Hid (strp s (k + 1) = r ++ one (byt s k)) := Lib.hid (by rw [strp, if_pos hd, HR.out])
        go_wp2_with (go_at_call 41; refine (CD.out _ (by omega) (by omega) _).mono ?_; rintro e w' ⟨rfl, rfl⟩; rw [hd0])
        go_round
        case rel => exact ⟨k + 1, _, by omega, rfl, by go_num, by simp only [ByteArray.size_append, hxz]; omega, Lib.hid HS.out.symm, Lib.hid (snoc_ok HA.out HOK.out)⟩
        case measure => simp [intOf]; omega
      · have hd' := eq_false_of_ne_true hd
        rw [hd'] at hd0
        have HD := Lib.hid hd'
        by_cases hc : (s[k].toNat : Int) = 32
        · have hq1 : ((s[k].toNat : Int) != 32) = false := by rw [hc]; rfl
          have hq2 : ((s[k].toNat : Int) != 45) = true := by rw [hc]; rfl
          by_cases h0 : 0 < k
          · have hd1 : isDI s ((k : Int) - 1) = isD s (k - 1) := isD_di s (k - 1) (by omega)
            by_cases hp : isD s (k - 1) = true
            · rw [hp] at hd1
              by_cases hn : isD s (k + 1) = true
              · rw [hn] at hd2
                have HOK : Hid (okAt s k) := Lib.hid (.inr ⟨by rw [HG.out]; omega, h0, hp, hn⟩)
                have HS : Hid (strp s (k + 1) = r) := Lib.hid (by rw [strp, if_neg (by rw [HD.out]; simp), HR.out])
                go_wp2_with (go_at_call 41; refine (CD.out _ (by omega) (by omega) _).mono ?_; rintro e w' ⟨rfl, rfl⟩; (first | rw [hd0] | rw [hd1] | rw [hd2]))
                go_round
                case rel => exact ⟨k + 1, _, by omega, rfl, by go_num, by omega, Lib.hid HS.out.symm, Lib.hid (snoc_ok HA.out HOK.out)⟩
                case measure => simp [intOf]; omega
              · have hn' := eq_false_of_ne_true hn
                rw [hn'] at hd2
                have HN : Hid (¬ okAt s k) := Lib.hid (not_okAt HD.out (by rw [HG.out]; rintro ⟨h1, h2, h3, h4⟩; exact hn h4))
                go_wp2_with (go_at_call 41; refine (CD.out _ (by omega) (by omega) _).mono ?_; rintro e w' ⟨rfl, rfl⟩; (first | rw [hd0] | rw [hd1] | rw [hd2]))
                go_ret2
                exact ⟨_, _, rfl, .inl ⟨⟨k, hlt, HN.out⟩, rfl, rfl⟩, rfl⟩
            · have hp' := eq_false_of_ne_true hp
              rw [hp'] at hd1
              have HN : Hid (¬ okAt s k) := Lib.hid (not_okAt HD.out (by rw [HG.out]; rintro ⟨h1, h2, h3, h4⟩; exact hp h3))
              go_wp2_with (go_at_call 41; refine (CD.out _ (by omega) (by omega) _).mono ?_; rintro e w' ⟨rfl, rfl⟩; (first | rw [hd0] | rw [hd1]))
              go_ret2
              exact ⟨_, _, rfl, .inl ⟨⟨k, hlt, HN.out⟩, rfl, rfl⟩, rfl⟩
          · have hd1 : isDI s ((k : Int) - 1) = false := isDI_neg s (by omega)
            have HN : Hid (¬ okAt s k) := Lib.hid (not_okAt HD.out (by rw [HG.out]; rintro ⟨h1, h2, h3, h4⟩; omega))
            go_wp2_with (go_at_call 41; refine (CD.out _ (by omega) (by omega) _).mono ?_; rintro e w' ⟨rfl, rfl⟩; (first | rw [hd0] | rw [hd1]))
            go_ret2
            exact ⟨_, _, rfl, .inl ⟨⟨k, hlt, HN.out⟩, rfl, rfl⟩, rfl⟩
        · by_cases hc2 : (s[k].toNat : Int) = 45
          · have hc := hc2
            have hq1 : ((s[k].toNat : Int) != 32) = true := by rw [hc]; rfl
            have hq2 : ((s[k].toNat : Int) != 45) = false := by rw [hc]; rfl
            by_cases h0 : 0 < k
            · have hd1 : isDI s ((k : Int) - 1) = isD s (k - 1) := isD_di s (k - 1) (by omega)
              by_cases hp : isD s (k - 1) = true
              · rw [hp] at hd1
                by_cases hn : isD s (k + 1) = true
                · rw [hn] at hd2
                  have HOK : Hid (okAt s k) := Lib.hid (.inr ⟨by rw [HG.out]; omega, h0, hp, hn⟩)
                  have HS : Hid (strp s (k + 1) = r) := Lib.hid (by rw [strp, if_neg (by rw [HD.out]; simp), HR.out])
                  go_wp2_with (go_at_call 41; refine (CD.out _ (by omega) (by omega) _).mono ?_; rintro e w' ⟨rfl, rfl⟩; (first | rw [hd0] | rw [hd1] | rw [hd2]))
                  go_round
                  case rel => exact ⟨k + 1, _, by omega, rfl, by go_num, by omega, Lib.hid HS.out.symm, Lib.hid (snoc_ok HA.out HOK.out)⟩
                  case measure => simp [intOf]; omega
                · have hn' := eq_false_of_ne_true hn
                  rw [hn'] at hd2
                  have HN : Hid (¬ okAt s k) := Lib.hid (not_okAt HD.out (by rw [HG.out]; rintro ⟨h1, h2, h3, h4⟩; exact hn h4))
                  go_wp2_with (go_at_call 41; refine (CD.out _ (by omega) (by omega) _).mono ?_; rintro e w' ⟨rfl, rfl⟩; (first | rw [hd0] | rw [hd1] | rw [hd2]))
                  go_ret2
                  exact ⟨_, _, rfl, .inl ⟨⟨k, hlt, HN.out⟩, rfl, rfl⟩, rfl⟩
              · have hp' := eq_false_of_ne_true hp
                rw [hp'] at hd1
                have HN : Hid (¬ okAt s k) := Lib.hid (not_okAt HD.out (by rw [HG.out]; rintro ⟨h1, h2, h3, h4⟩; exact hp h3))
                go_wp2_with (go_at_call 41; refine (CD.out _ (by omega) (by omega) _).mono ?_; rintro e w' ⟨rfl, rfl⟩; (first | rw [hd0] | rw [hd1]))
                go_ret2
                exact ⟨_, _, rfl, .inl ⟨⟨k, hlt, HN.out⟩, rfl, rfl⟩, rfl⟩
            · have hd1 : isDI s ((k : Int) - 1) = false := isDI_neg s (by omega)
              have HN : Hid (¬ okAt s k) := Lib.hid (not_okAt HD.out (by rw [HG.out]; rintro ⟨h1, h2, h3, h4⟩; omega))
              go_wp2_with (go_at_call 41; refine (CD.out _ (by omega) (by omega) _).mono ?_; rintro e w' ⟨rfl, rfl⟩; (first | rw [hd0] | rw [hd1]))
              go_ret2
              exact ⟨_, _, rfl, .inl ⟨⟨k, hlt, HN.out⟩, rfl, rfl⟩, rfl⟩
          · have hq1 : ((s[k].toNat : Int) != 32) = true := bne_iff_ne.2 hc
            have hq2 : ((s[k].toNat : Int) != 45) = true := bne_iff_ne.2 hc2
            have HN : Hid (¬ okAt s k) := Lib.hid (not_okAt HD.out (by rw [HG.out]; rintro ⟨h1, h2, h3, h4⟩; omega))
            go_wp2_with (go_at_call 41; refine (CD.out _ (by omega) (by omega) _).mono ?_; rintro e w' ⟨rfl, rfl⟩; rw [hd0])
            go_ret2
            exact ⟨_, _, rfl, .inl ⟨⟨k, hlt, HN.out⟩, rfl, rfl⟩, rfl⟩
    · obtain rfl : k = s.size := by omega
      have CK := Lib.hid (fun w => rcheck_any r (by omega) w)
      have hcb := chkE_bd r
      by_cases hc : chkE r = 0
      · have HI : Hid (IsStrip s r 0) := Lib.hid (.inr ⟨HA.out, by rw [← HR.out, hc], by rw [if_pos rfl, ← HR.out]⟩)
        rw [hc] at CK
        go_wp2_with (go_at_call 16; refine (CK.out _).mono ?_; rintro e w' ⟨rfl, rfl⟩)
        go_ret2
        exact ⟨_, _, rfl, HI.out, rfl⟩
      · have HI : Hid (IsStrip s ByteArray.empty (chkE r)) := Lib.hid (.inr ⟨HA.out, by rw [← HR.out], by rw [if_neg hc]⟩)
        generalize chkE r = c at *
        go_wp2_with (go_at_call 16; refine (CK.out _).mono ?_; rintro e w' ⟨rfl, rfl⟩)
        go_ret2
        exact ⟨_, _, rfl, HI.out, rfl⟩
end Go.Proofs.YtddnfjaogekmjaaDoor
