/-
  CONTRACTS of card numbers: the specification's Index.
-/
import Derived.Test.YtddnfjaogekmjaaDoorP15
namespace Go.Proofs.YtddnfjaogekmjaaDoor
open Go.RowKit Go.Lib
set_option linter.unusedVariables false
set_option linter.unusedSimpArgs false
theorem bne_str {a b : ByteArray} (h : a ≠ b) : (a.toList == b.toList) = false := by
  rw [beq_eq_false_iff_ne]
  intro e
  rw [ByteArray.toList_eq, ByteArray.toList_eq] at e
  exact h (ByteArray.ext (Array.toList_inj.1 e))
theorem okx_of {p s : ByteArray} (hc : chkE s = 0) (p1 : 1 ≤ p.size) (p2 : p.size ≤ 10) (hx : s.extract 0 p.size = p) : OkX p s := ⟨hc, p1, p2, bytes_pre (by have := (chk_ok hc).1; omega) hx⟩
set_option maxHeartbeats 1600000 in
theorem rindex_no (p s : ByteArray) (hp : p.size ≤ 1000) (hs : s.size ≤ 1000) (h : ¬ OkX p s) (w : World) :
    Calls Tryd.prog 24 #[.string p, .string s] w fun e w' => e = .returned (.tuple #[.int .i64 0, .bool false]) ∧ w = w' := by
  have C1 := Lib.hid (fun w => rcheck_any s hs w)
  have hcb := chkE_bd s
  by_cases hc : chkE s = 0
  · obtain ⟨s1, s2, hd, hl⟩ := chk_ok hc
    rw [hc] at C1
    by_cases p1 : p.size < 1
    · clear h hc hd hl
      go_enter Tryd.func24, Tryd.ntmps24
      go_wp2_with (go_at_call 16; refine (C1.out _).mono ?_; rintro e w1 ⟨rfl, rfl⟩)
      go_ret2
      exact ⟨rfl, rfl⟩
    by_cases p2 : 10 < p.size
    · clear h hc hd hl
      go_enter Tryd.func24, Tryd.ntmps24
      go_wp2_with (go_at_call 16; refine (C1.out _).mono ?_; rintro e w1 ⟨rfl, rfl⟩)
      go_ret2
      exact ⟨rfl, rfl⟩
    have hsl := fun w => sl_h s p.size (by omega) (j := (p.size : Int)) rfl w
    have hne := bne_str (a := s.extract 0 p.size) (b := p) (fun hx => h (okx_of hc (by omega) (by omega) hx))
    generalize s.extract 0 p.size = t at *
    clear h hc hd hl
    go_enter Tryd.func24, Tryd.ntmps24
    go_wp2_with (go_at_call 16; refine (C1.out _).mono ?_; rintro e w1 ⟨rfl, rfl⟩)
    go_ret2
    exact ⟨rfl, rfl⟩
  · generalize chkE s = c at *
    clear h
    go_enter Tryd.func24, Tryd.ntmps24
    go_wp2_with (go_at_call 16; refine (C1.out _).mono ?_; rintro e w1 ⟨rfl, rfl⟩)
    go_ret2
    exact ⟨rfl, rfl⟩
set_option maxHeartbeats 1600000 in
theorem rindex_ok (p s : ByteArray) (h : OkX p s) (w : World) :
    Calls Tryd.prog 24 #[.string p, .string s] w fun e w' => e = .returned (.tuple #[.int .i64 (idxN p s), .bool true]) ∧ w = w' := by
  obtain ⟨hc, p0, p1, hx⟩ := h
  obtain ⟨s1, s2, hd, hl⟩ := chk_ok hc
  have C1 := Lib.hid (fun w => rcheck_any s (by omega) w)
  rw [hc] at C1
  have HD := Lib.hid hd
  obtain ⟨hz, hx2⟩ := pre_bytes hx
  have hsl : ∀ w, (Instr.slice 9 (.string s) none (some (.int .i64 (p.size : Int))) none).run Tryd.prog w = .ok (.string p) w := fun w => by rw [sl_h s p.size hz (j := (p.size : Int)) rfl w, hx2]
  clear hd hl hc hx hx2
  go_enter Tryd.func24, Tryd.ntmps24
  go_wp2_with (go_at_call 16; refine (C1.out _).mono ?_; rintro e w1 ⟨rfl, rfl⟩)
  go_loop [6, 7] (fun n i => ∃ m : Nat, p.size ≤ m ∧ m ≤ s.size - 1 ∧ i = .int .i64 (m : Int) ∧ n = .int .i64 (numOf s p.size (m - p.size))) (fun n i => s.size - (RowKit.intOf i).toNat)
  case atStart => exact ⟨p.size, Nat.le_refl _, by omega, rfl, by rw [Nat.sub_self]; rfl⟩
  case round =>
    obtain ⟨m, hm, hm2, rfl, rfl⟩ := hrel
    have hbd := numOf_bd s p.size (m - p.size) (fun j hj => HD.out _ (by omega))
    have h18 : (10 : Int) ^ (m - p.size) = ((10 ^ (m - p.size) : Nat) : Int) := by simp
    have h18b := Nat.pow_le_pow_right (show 0 < 10 by decide) (show m - p.size ≤ 17 by omega)
    by_cases hlt : m < s.size - 1
    · have hx := fun w => ix_at s m (by omega) (i := (m : Int)) rfl w
      have hdm := HD.out m (by omega)
      unfold dgAt at hdm
      have HS : Hid (numOf s p.size (m + 1 - p.size) = 10 * numOf s p.size (m - p.size) + (byt s m - 48)) := Lib.hid (by
        rw [show m + 1 - p.size = (m - p.size) + 1 by omega, numOf, show p.size + (m - p.size) = m by omega])
      have h0 := hbd.1
      have h1 : numOf s p.size (m - p.size) < 100000000000000000 := by omega
      clear hbd h18 h18b
      generalize numOf s p.size (m - p.size) = x at *
      generalize byt s m = v at *
      go_wp2
      go_round
      case rel => exact ⟨m + 1, by omega, by omega, by go_num, val_int (by rw [HS.out])⟩
      case measure => simp [RowKit.intOf]; omega
    · obtain rfl : m = s.size - 1 := by omega
      have HI : Hid (idxN p s = numOf s p.size (s.size - 1 - p.size)) := Lib.hid rfl
      clear hbd h18 h18b
      generalize numOf s p.size (s.size - 1 - p.size) = x at *
      go_wp2
      go_ret2
      exact ⟨ret_nb HI.out.symm, rfl⟩
end Go.Proofs.YtddnfjaogekmjaaDoor
