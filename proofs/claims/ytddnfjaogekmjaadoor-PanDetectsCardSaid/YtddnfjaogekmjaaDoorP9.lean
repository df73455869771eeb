/-
  CONTRACTS of card numbers: the program's Strip.
-/
import Derived.Test.YtddnfjaogekmjaaDoorP8
namespace Go.Proofs.YtddnfjaogekmjaaDoor
open Go.RowKit
set_option linter.unusedVariables false
set_option linter.unusedSimpArgs false
theorem ix_at (s : ByteArray) (k : Nat) (h : k < s.size) {i : Int} (hi : i = k) (w : World) : (Instr.index 9 (.string s) (.int .i64 i)).run Tryd.prog w = .ok (.int .u8 (byt s k)) w := by
  subst hi
  rw [run_index_string w 9 s .i64 (k : Int) Tryd.underlying9, dif_pos ⟨by omega, by omega⟩, byt_get s k h]
  rfl
theorem digitB_isD (s : ByteArray) (k : Nat) : digitB (byt s k) = isD s k := rfl
theorem strp_dgs (s : ByteArray) : ∀ k, Dgs (strp s k)
  | 0 => fun j hj => absurd hj (by show ¬ j < 0; omega)
  | k + 1 => by
    rw [strp]
    split
    · rename_i h
      have h1 := of_decide_eq_true h
      refine dgs_app (strp_dgs s k) ?_
      intro j hj
      rw [one_size] at hj
      obtain rfl : j = 0 := by omega
      unfold dgAt
      rw [byt_one _ (by omega) (by omega)]
      exact h1
    · exact strp_dgs s k
set_option maxHeartbeats 3200000 in
theorem strip_any (s : ByteArray) (hs : s.size ≤ 1000) (w : World) :
    Calls Tryd.prog 27 #[.string s] w fun e w' => ∃ r c, e = .returned (.tuple #[.string r, .int .i64 c]) ∧ IsStrip s r c ∧ Below w.heap.size w w' := by
  go_enter Tryd.func27, Tryd.ntmps27
  go_wp2_with fail
  go_loopw [5] (fun i wr => ∃ (k : Nat) (r : ByteArray), k ≤ s.size ∧ i = .int .i64 k ∧ IsB w.heap.size r wr ∧ Below w.heap.size w wr ∧ r.size ≤ k ∧ Hid (r = strp s k) ∧ Hid (∀ j, j < k → okAt s j)) (fun i _ => s.size - (intOf i).toNat)
  case atStart => exact ⟨0, _, Nat.zero_le _, rfl, fresh_isB w, fresh_bel w _, Nat.zero_le _, Lib.hid rfl, Lib.hid fun j h => absurd h (by omega)⟩
  case round =>
    obtain ⟨k, r, hk, rfl, hib, hb, hz, HR, HA⟩ := hrel
    have hzw := hb.size
    by_cases hlt : k < s.size
    · have hx := fun w => ix_at s k hlt (i := (k : Int)) rfl w
      have hy := byt_bd s k
      by_cases hd : isD s k = true
      · have HOK : Hid (okAt s k) := Lib.hid (.inl hd)
        have HS : Hid (strp s (k + 1) = r ++ one (byt s k)) := Lib.hid (by rw [strp, if_pos hd, HR.out])
        have hh := of_decide_eq_true hd
        go_wp2_with fail
        go_at_call 40
        refine (digit_any _ (by omega) (by omega) _).mono ?_
        rintro e w' ⟨rfl, rfl⟩
        rw [digitB_isD, hd]
        go_wp2_with fail
        go_at_call 34
        refine (wb_s w.heap.size r _ (by omega) (by omega) _ hib (by omega) hzw).mono ?_
        rintro e w2 ⟨rfl, hi2, hb2⟩
        go_wp2
        go_roundw
        case rel => exact ⟨k + 1, _, by omega, by go_num, hi2, hb.trans hb2, by rw [ByteArray.size_append, one_size]; omega, Lib.hid HS.out.symm, Lib.hid (snoc_ok HA.out HOK.out)⟩
        case measure => simp [intOf]; omega
      · have hd' := eq_false_of_ne_true hd
        have HD := Lib.hid hd'
        by_cases hc : byt s k = 32
        · have hq1 : (byt s k == 32) = true := by rw [hc]; rfl
          have hq2 : (byt s k == 45) = false := by rw [hc]; rfl
          have HC := Lib.hid hc
          clear hc
          by_cases h0 : 0 < k
          · have hx1 := fun w => ix_at s (k - 1) (by omega) (i := (k : Int) - 1) (by omega) w
            have hy1 := byt_bd s (k - 1)
            have hz0 : ((k : Int) == 0) = false := beq_false_of_ne (by omega)
            by_cases hl : k + 1 < s.size
            · have hx2 := fun w => ix_at s (k + 1) (by omega) (i := (k : Int) + 1) (by omega) w
              have hy2 := byt_bd s (k + 1)
              have hzl : ((k : Int) == (s.size : Int) - 1) = false := beq_false_of_ne (by omega)
              by_cases hp : isD s (k - 1) = true
              · by_cases hn : isD s (k + 1) = true
                · have HOK : Hid (okAt s k) := Lib.hid (.inr ⟨by rw [HC.out]; omega, h0, hp, hn⟩)
                  have HS : Hid (strp s (k + 1) = r) := Lib.hid (by rw [strp, if_neg (by rw [HD.out]; simp), HR.out])
                  go_wp2_with (go_at_call 40; refine (digit_any _ (by omega) (by omega) _).mono ?_; rintro e w' ⟨rfl, rfl⟩; rw [digitB_isD]; (first | rw [hd'] | rw [hp] | rw [hn]))
                  go_roundw
                  case rel => exact ⟨k + 1, _, by omega, by go_num, hib, hb, by omega, Lib.hid HS.out.symm, Lib.hid (snoc_ok HA.out HOK.out)⟩
                  case measure => simp [intOf]; omega
                · have hn' := eq_false_of_ne_true hn
                  have HN : Hid (¬ okAt s k) := Lib.hid (not_okAt HD.out (by rintro ⟨h1, h2, h3, h4⟩; exact hn h4))
                  go_wp2_with (go_at_call 40; refine (digit_any _ (by omega) (by omega) _).mono ?_; rintro e w' ⟨rfl, rfl⟩; rw [digitB_isD]; (first | rw [hd'] | rw [hp] | rw [hn']))
                  go_ret2
                  exact ⟨_, _, rfl, .inl ⟨⟨k, hlt, HN.out⟩, rfl, rfl⟩, hb⟩
              · have hp' := eq_false_of_ne_true hp
                have HN : Hid (¬ okAt s k) := Lib.hid (not_okAt HD.out (by rintro ⟨h1, h2, h3, h4⟩; exact hp h3))
                go_wp2_with (go_at_call 40; refine (digit_any _ (by omega) (by omega) _).mono ?_; rintro e w' ⟨rfl, rfl⟩; rw [digitB_isD]; (first | rw [hd'] | rw [hp']))
                go_ret2
                exact ⟨_, _, rfl, .inl ⟨⟨k, hlt, HN.out⟩, rfl, rfl⟩, hb⟩
            · have hzl : ((k : Int) == (s.size : Int) - 1) = true := beq_iff_eq.2 (by omega)
              have HN : Hid (¬ okAt s k) := Lib.hid (not_okAt HD.out (by rintro ⟨h1, h2, h3, h4⟩; rw [show isD s (k + 1) = false from decide_eq_false fun h => by rw [byt_out s (k + 1) (by omega)] at h; omega] at h4; cases h4))
              go_wp2_with (go_at_call 40; refine (digit_any _ (by omega) (by omega) _).mono ?_; rintro e w' ⟨rfl, rfl⟩; rw [digitB_isD]; rw [hd'])
              go_ret2
              exact ⟨_, _, rfl, .inl ⟨⟨k, hlt, HN.out⟩, rfl, rfl⟩, hb⟩
          · have hz0 : ((k : Int) == 0) = true := beq_iff_eq.2 (by omega)
            have HN : Hid (¬ okAt s k) := Lib.hid (not_okAt HD.out (by rintro ⟨h1, h2, h3, h4⟩; omega))
            go_wp2_with (go_at_call 40; refine (digit_any _ (by omega) (by omega) _).mono ?_; rintro e w' ⟨rfl, rfl⟩; rw [digitB_isD]; rw [hd'])
            go_ret2
            exact ⟨_, _, rfl, .inl ⟨⟨k, hlt, HN.out⟩, rfl, rfl⟩, hb⟩
        · by_cases hc2 : byt s k = 45
          · have hc := hc2
            have hq1 : (byt s k == 32) = false := by rw [hc]; rfl
            have hq2 : (byt s k == 45) = true := by rw [hc]; rfl
            have HC := Lib.hid hc
            clear hc
            clear hc2
            by_cases h0 : 0 < k
            · have hx1 := fun w => ix_at s (k - 1) (by omega) (i := (k : Int) - 1) (by omega) w
              have hy1 := byt_bd s (k - 1)
              have hz0 : ((k : Int) == 0) = false := beq_false_of_ne (by omega)
              by_cases hl : k + 1 < s.size
              · have hx2 := fun w => ix_at s (k + 1) (by omega) (i := (k : Int) + 1) (by omega) w
                have hy2 := byt_bd s (k + 1)
                have hzl : ((k : Int) == (s.size : Int) - 1) = false := beq_false_of_ne (by omega)
                by_cases hp : isD s (k - 1) = true
                · by_cases hn : isD s (k + 1) = true
                  · have HOK : Hid (okAt s k) := Lib.hid (.inr ⟨by rw [HC.out]; omega, h0, hp, hn⟩)
                    have HS : Hid (strp s (k + 1) = r) := Lib.hid (by rw [strp, if_neg (by rw [HD.out]; simp), HR.out])
                    go_wp2_with (go_at_call 40; refine (digit_any _ (by omega) (by omega) _).mono ?_; rintro e w' ⟨rfl, rfl⟩; rw [digitB_isD]; (first | rw [hd'] | rw [hp] | rw [hn]))
                    go_roundw
                    case rel => exact ⟨k + 1, _, by omega, by go_num, hib, hb, by omega, Lib.hid HS.out.symm, Lib.hid (snoc_ok HA.out HOK.out)⟩
                    case measure => simp [intOf]; omega
                  · have hn' := eq_false_of_ne_true hn
                    have HN : Hid (¬ okAt s k) := Lib.hid (not_okAt HD.out (by rintro ⟨h1, h2, h3, h4⟩; exact hn h4))
                    go_wp2_with (go_at_call 40; refine (digit_any _ (by omega) (by omega) _).mono ?_; rintro e w' ⟨rfl, rfl⟩; rw [digitB_isD]; (first | rw [hd'] | rw [hp] | rw [hn']))
                    go_ret2
                    exact ⟨_, _, rfl, .inl ⟨⟨k, hlt, HN.out⟩, rfl, rfl⟩, hb⟩
                · have hp' := eq_false_of_ne_true hp
                  have HN : Hid (¬ okAt s k) := Lib.hid (not_okAt HD.out (by rintro ⟨h1, h2, h3, h4⟩; exact hp h3))
                  go_wp2_with (go_at_call 40; refine (digit_any _ (by omega) (by omega) _).mono ?_; rintro e w' ⟨rfl, rfl⟩; rw [digitB_isD]; (first | rw [hd'] | rw [hp']))
                  go_ret2
                  exact ⟨_, _, rfl, .inl ⟨⟨k, hlt, HN.out⟩, rfl, rfl⟩, hb⟩
              · have hzl : ((k : Int) == (s.size : Int) - 1) = true := beq_iff_eq.2 (by omega)
                have HN : Hid (¬ okAt s k) := Lib.hid (not_okAt HD.out (by rintro ⟨h1, h2, h3, h4⟩; rw [show isD s (k + 1) = false from decide_eq_false fun h => by rw [byt_out s (k + 1) (by omega)] at h; omega] at h4; cases h4))
                go_wp2_with (go_at_call 40; refine (digit_any _ (by omega) (by omega) _).mono ?_; rintro e w' ⟨rfl, rfl⟩; rw [digitB_isD]; rw [hd'])
                go_ret2
                exact ⟨_, _, rfl, .inl ⟨⟨k, hlt, HN.out⟩, rfl, rfl⟩, hb⟩
            · have hz0 : ((k : Int) == 0) = true := beq_iff_eq.2 (by omega)
              have HN : Hid (¬ okAt s k) := Lib.hid (not_okAt HD.out (by rintro ⟨h1, h2, h3, h4⟩; omega))
              go_wp2_with (go_at_call 40; refine (digit_any _ (by omega) (by omega) _).mono ?_; rintro e w' ⟨rfl, rfl⟩; rw [digitB_isD]; rw [hd'])
              go_ret2
              exact ⟨_, _, rfl, .inl ⟨⟨k, hlt, HN.out⟩, rfl, rfl⟩, hb⟩
          · have hq1 : (byt s k == 32) = false := beq_false_of_ne hc
            have hq2 : (byt s k == 45) = false := beq_false_of_ne hc2
            have HN : Hid (¬ okAt s k) := Lib.hid (not_okAt HD.out (by rintro ⟨h1, h2, h3, h4⟩; omega))
            go_wp2_with (go_at_call 40; refine (digit_any _ (by omega) (by omega) _).mono ?_; rintro e w' ⟨rfl, rfl⟩; rw [digitB_isD]; rw [hd'])
            go_ret2
            exact ⟨_, _, rfl, .inl ⟨⟨k, hlt, HN.out⟩, rfl, rfl⟩, hb⟩
    · obtain rfl : k = s.size := by omega
      have CS := Tryd.Builder_String_any_f w.heap.size w.heap.size r.data.toList
      have CK := Lib.hid (fun w => check_any r (by omega) w)
      have hcb := chkE_bd r
      go_wp2_with fail
      go_at_call 35
      refine (CS _ (Lib.IsBuilderF.of hib) hzw).mono ?_
      rintro e w1 ⟨rfl, hi1, hb1⟩
      by_cases hc : chkE r = 0
      · have HI : Hid (IsStrip s r 0) := Lib.hid (.inr ⟨HA.out, by rw [← HR.out, hc], by rw [if_pos rfl, ← HR.out]⟩)
        rw [hc] at CK
        go_wp2_with fail
        go_at_call 15
        refine (CK.out _).mono ?_
        rintro e w2 ⟨rfl, hb2⟩
        have hz1 := hb1.size
        have hz2 := hb2.size
        go_wp2_with fail
        go_at_call 35
        refine (CS _ (IsBF.later hi1 hb2) (by omega)).mono ?_
        rintro e w3 ⟨rfl, hi3, hb3⟩
        go_wp2
        go_ret2
        exact ⟨_, _, rfl, HI.out, ((hb.trans hb1).trans (hb2.mono (by omega))).trans hb3⟩
      · have HI : Hid (IsStrip s ByteArray.empty (chkE r)) := Lib.hid (.inr ⟨HA.out, by rw [← HR.out], by rw [if_neg hc]⟩)
        generalize chkE r = c at *
        go_wp2_with fail
        go_at_call 15
        refine (CK.out _).mono ?_
        rintro e w2 ⟨rfl, hb2⟩
        have hz1 := hb1.size
        go_wp2
        go_ret2
        exact ⟨_, _, rfl, HI.out, (hb.trans hb1).trans (hb2.mono (by omega))⟩
end Go.Proofs.YtddnfjaogekmjaaDoor
