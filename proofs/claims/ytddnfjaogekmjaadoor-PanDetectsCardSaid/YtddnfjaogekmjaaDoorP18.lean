/-
  CONTRACTS of card numbers: the specification's Make.
-/
import Derived.Test.YtddnfjaogekmjaaDoorP13
import Derived.Laws.BytesArg
namespace Go.Proofs.YtddnfjaogekmjaaDoor
open Go.RowKit Go.Lib
set_option linter.unusedVariables false
set_option linter.unusedSimpArgs false
def D10 : ByteArray := ⟨#[48, 49, 50, 51, 52, 53, 54, 55, 56, 57]⟩
theorem d10_at (r : Nat) (h : r < 10) : D10.extract r (r + 1) = one (48 + r) := by
  have hz : D10.size = 10 := rfl
  rw [extract_one D10 r (by omega)]
  have : ∀ r, r < 10 → byt D10 r = 48 + r := by decide
  rw [this r h]
theorem dg_one (u j : Nat) : one (48 + ((u / 10 ^ j % 10 : Nat) : Int)) = ⟨#[dg u j]⟩ := by
  unfold one
  congr 2
theorem d10_sl (q : Nat) (w : World) : (Instr.slice 9 (.string ⟨#[48, 49, 50, 51, 52, 53, 54, 55, 56, 57]⟩) (some (.int .i64 ((q : Int) % 10))) (some (.int .i64 ((q : Int) % 10 + 1))) none).run Tryd.prog w = .ok (.string (one (48 + ((q % 10 : Nat) : Int)))) w := by
  have := sl_lh D10 (q % 10) (q % 10 + 1) (by omega) (by show _ ≤ 10; omega) (i := (q : Int) % 10) (j := (q : Int) % 10 + 1) (by omega) (by omega) w
  rw [d10_at _ (by omega)] at this
  exact this
theorem one_str (b : Nat) (c : Int) (w : World) (h : w.cell? ⟨b, 0, none⟩ = some (.int .u8 c)) : (convert 36 9 (.slice (some ⟨b, 0, none⟩) 1 1)).run Tryd.prog w = .ok (.string (one c)) w := by
  rw [run_convert_bytes_arg w 36 5 Tryd.underlying36 Tryd.underlying5 b 0 1 1 [c] rfl (fun i hi => by have h0 : i = 0 := (by omega); subst h0; exact h) 9 Tryd.underlying9]
  rfl
theorem one_new (c : Int) (w : World) : (convert 36 9 (.slice (some ⟨w.heap.size, 0, none⟩) 1 1)).run Tryd.prog (w.alloc (.cells #[.int .u8 c] 5)) = .ok (.string (one c)) (w.alloc (.cells #[.int .u8 c] 5)) :=
  one_str _ _ _ (by rw [World.cell?_alloc_new]; rfl)
set_option maxHeartbeats 1600000 in
set_option maxRecDepth 3000 in
theorem rmake_ok (p : ByteArray) (u l : Nat) (u1 : u ≤ 9223372036854775807) (h : OkM p (u : Int) (l : Int)) (w : World) :
    Calls Tryd.prog 22 #[.string p, .int .i64 (u : Int), .int .i64 (l : Int)] w fun e w' => e = .returned (.tuple #[.string (made p u l), .int .i64 0]) ∧ Below w.heap.size w w' := by
  obtain ⟨l1, l2, p1, p2, hd, n0, hlt⟩ := h
  rw [Int.toNat_natCast, Int.toNat_natCast] at hlt
  have C1 := Lib.hid (fun w => rdigits_yes p (by omega) hd w)
  have C4 : Hid (∀ w, Calls Tryd.prog 12 #[.string (p ++ decS u (l - 1 - p.size))] w fun e w' => e = .returned (.tuple #[.int .u8 (48 + (cdN (body p u l) : Int)), .int .i64 0]) ∧ w = w') := Lib.hid (fun w => rcd_ok (body p u l) (by rw [body_size (by omega)]; omega) (by rw [body_size (by omega)]; omega) (body_dgs hd) w)
  have hz3 : (p ++ decS u (l - 1 - p.size)).size = l - 1 := body_size (by omega)
  have hcd := cd_le (body p u l)
  have HM : Hid (made p u l = p ++ decS u (l - 1 - p.size) ++ one (48 + (cdN (body p u l) : Int))) := Lib.hid rfl
  have hz4 := one_size (48 + (cdN (body p u l) : Int))
  have HLT := Lib.hid hlt
  clear hd hlt
  go_enter Tryd.func22, Tryd.ntmps22
  go_wp2_with (go_at_call 30; refine (C1.out _).mono ?_; rintro e w' ⟨rfl, rfl⟩)
  go_loop [1, 8] (fun n s => ∃ j : Nat, j ≤ l - 1 - p.size ∧ n = .int .i64 ((u / 10 ^ j : Nat) : Int) ∧ s = .string (decS u j)) (fun n s => l - (match s with | .string t => t.size | _ => 0))
  case atStart => exact ⟨0, Nat.zero_le _, by simp, rfl⟩
  case round =>
    obtain ⟨j, hj, rfl, rfl⟩ := hrel
    have hz := decS_size u j
    by_cases hlt2 : j < l - 1 - p.size
    · have hq : u / 10 ^ j ≤ 9223372036854775807 := Nat.le_trans (Nat.div_le_self _ _) u1
      have HQ1 : Hid (u / 10 ^ j / 10 = u / 10 ^ (j + 1)) := Lib.hid (by rw [Nat.pow_succ, Nat.div_div_eq_div_mul])
      have HS : Hid (one (48 + ((u / 10 ^ j % 10 : Nat) : Int)) ++ decS u j = decS u (j + 1)) := Lib.hid (by rw [dg_one, decS_cons])
      generalize u / 10 ^ j = q at *
      have hsl := fun w => d10_sl q w
      have hzo := one_size (48 + ((q % 10 : Nat) : Int))
      generalize one (48 + ((q % 10 : Nat) : Int)) = o at *
      go_wp2
      go_round
      case rel => exact ⟨j + 1, by omega, by rw [← HQ1.out]; go_num, by rw [HS.out]⟩
      case measure => simp [ByteArray.size_append, hz, hzo]; omega
    · obtain rfl : j = l - 1 - p.size := by omega
      have hq0 : u / 10 ^ (l - 1 - p.size) = 0 := Nat.div_eq_of_lt HLT.out
      rw [hq0]
      go_wp2_with (go_at_call 12; refine (C4.out _).mono ?_; rintro e w' ⟨rfl, rfl⟩)
      rw [one_new]
      go_wp2
      go_ret2
      exact ⟨ret_sc HM.out.symm rfl, (Below.refl _ _).alloc (Nat.le_refl _) _⟩
set_option maxHeartbeats 1600000 in
set_option maxRecDepth 3000 in
theorem rmake_big (p : ByteArray) (u l : Nat) (u1 : u ≤ 9223372036854775807) (hd : Dgs p) (p1 : 1 ≤ p.size) (p2 : p.size ≤ 10) (l1 : 12 ≤ l) (l2 : l ≤ 19) (hbig : ¬ u < 10 ^ (l - 1 - p.size)) (w : World) :
    Calls Tryd.prog 22 #[.string p, .int .i64 (u : Int), .int .i64 (l : Int)] w fun e w' => e = .returned (.tuple #[.string ByteArray.empty, .int .i64 4]) ∧ w = w' := by
  have C1 := Lib.hid (fun w => rdigits_yes p (by omega) hd w)
  have HLT := Lib.hid hbig
  clear hd hbig
  go_enter Tryd.func22, Tryd.ntmps22
  go_wp2_with (go_at_call 30; refine (C1.out _).mono ?_; rintro e w' ⟨rfl, rfl⟩)
  go_loop [1, 8] (fun n s => ∃ j : Nat, j ≤ l - 1 - p.size ∧ n = .int .i64 ((u / 10 ^ j : Nat) : Int) ∧ s = .string (decS u j)) (fun n s => l - (match s with | .string t => t.size | _ => 0))
  case atStart => exact ⟨0, Nat.zero_le _, by simp, rfl⟩
  case round =>
    obtain ⟨j, hj, rfl, rfl⟩ := hrel
    have hz := decS_size u j
    by_cases hlt2 : j < l - 1 - p.size
    · have hq : u / 10 ^ j ≤ 9223372036854775807 := Nat.le_trans (Nat.div_le_self _ _) u1
      have HQ1 : Hid (u / 10 ^ j / 10 = u / 10 ^ (j + 1)) := Lib.hid (by rw [Nat.pow_succ, Nat.div_div_eq_div_mul])
      have HS : Hid (one (48 + ((u / 10 ^ j % 10 : Nat) : Int)) ++ decS u j = decS u (j + 1)) := Lib.hid (by rw [dg_one, decS_cons])
      generalize u / 10 ^ j = q at *
      have hsl := fun w => d10_sl q w
      have hzo := one_size (48 + ((q % 10 : Nat) : Int))
      generalize one (48 + ((q % 10 : Nat) : Int)) = o at *
      go_wp2
      go_round
      case rel => exact ⟨j + 1, by omega, by rw [← HQ1.out]; go_num, by rw [HS.out]⟩
      case measure => simp [ByteArray.size_append, hz, hzo]; omega
    · obtain rfl : j = l - 1 - p.size := by omega
      have hq0 : 0 < u / 10 ^ (l - 1 - p.size) := Nat.div_pos (by have := HLT.out; omega) (Nat.pow_pos (by decide))
      have hq : u / 10 ^ (l - 1 - p.size) ≤ 9223372036854775807 := Nat.le_trans (Nat.div_le_self _ _) u1
      generalize u / 10 ^ (l - 1 - p.size) = q at *
      go_wp2
      go_ret2
      exact ⟨rfl, rfl⟩
theorem rmake_badR (p : ByteArray) (hp : p.size ≤ 1000) (n L : Int) (n0 : -9223372036854775808 ≤ n) (n1 : n ≤ 9223372036854775807) (h : ¬ OkM p n L) (w : World) :
    Calls Tryd.prog 22 #[.string p, .int .i64 n, .int .i64 L] w fun e w' => e = .returned (.tuple #[.string ByteArray.empty, .int .i64 4]) ∧ w = w' := by
  by_cases l1 : L < 12
  · go_enter Tryd.func22, Tryd.ntmps22
    go_wp2
    go_ret2
    exact ⟨rfl, rfl⟩
  by_cases l2 : 19 < L
  · go_enter Tryd.func22, Tryd.ntmps22
    go_wp2
    go_ret2
    exact ⟨rfl, rfl⟩
  by_cases p0 : p.size < 1
  · go_enter Tryd.func22, Tryd.ntmps22
    go_wp2
    go_ret2
    exact ⟨rfl, rfl⟩
  by_cases p1 : 10 < p.size
  · go_enter Tryd.func22, Tryd.ntmps22
    go_wp2
    go_ret2
    exact ⟨rfl, rfl⟩
  by_cases hd : Dgs p
  · have C1 := Lib.hid (fun w => rdigits_yes p hp hd w)
    by_cases hn : n < 0
    · clear hd h
      go_enter Tryd.func22, Tryd.ntmps22
      go_wp2_with (go_at_call 30; refine (C1.out _).mono ?_; rintro e w' ⟨rfl, rfl⟩)
      go_ret2
      exact ⟨rfl, rfl⟩
    · obtain ⟨u, rfl⟩ := Int.eq_ofNat_of_zero_le (show 0 ≤ n by omega)
      obtain ⟨l, rfl⟩ := Int.eq_ofNat_of_zero_le (show 0 ≤ L by omega)
      have hbig : ¬ u < 10 ^ (l - 1 - p.size) := by
        intro hlt
        exact h ⟨by omega, by omega, by omega, by omega, hd, by omega, by rw [Int.toNat_natCast, Int.toNat_natCast]; exact hlt⟩
      exact rmake_big p u l (by omega) hd (by omega) (by omega) (by omega) (by omega) hbig w
  · have C1 := Lib.hid (fun w => rdigits_no p hp hd w)
    clear hd h
    go_enter Tryd.func22, Tryd.ntmps22
    go_wp2_with (go_at_call 30; refine (C1.out _).mono ?_; rintro e w' ⟨rfl, rfl⟩)
    go_ret2
    exact ⟨rfl, rfl⟩
end Go.Proofs.YtddnfjaogekmjaaDoor
