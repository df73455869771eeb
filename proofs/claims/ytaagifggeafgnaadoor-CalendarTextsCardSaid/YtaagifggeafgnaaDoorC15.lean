/-
  CONTRACTS of dates: the program's Parse.
-/
import Derived.Test.YtaagifggeafgnaaDoorC14
namespace Go.Proofs.YtaagifggeafgnaaDoor
open Go.RowKit
set_option linter.unusedVariables false
set_option linter.unusedSimpArgs false
/-- A place of a date's text that has a digit. -/
def dpl (k : Nat) : Prop := k < 10 ∧ k ≠ 4 ∧ k ≠ 7
/-- The form of a date's text. -/
structure IsT (s : ByteArray) : Prop where
  size : s.size = 10
  b4 : byt s 4 = 45
  b7 : byt s 7 = 45
  dg : ∀ k, dpl k → dgAt s k
def parts (s : ByteArray) : ByteArray := s.extract 0 4 ++ s.extract 5 7 ++ s.extract 8 10
theorem parts_size {s : ByteArray} (h : s.size = 10) : (parts s).size = 8 := by
  unfold parts
  rw [ByteArray.size_append, ByteArray.size_append, size_extract' _ _ _ (by omega), size_extract' _ _ _ (by omega), size_extract' _ _ _ (by omega)]
theorem byt_parts {s : ByteArray} (h : s.size = 10) (k : Nat) (hk : k < 8) : byt (parts s) k = byt s (if k < 4 then k else if k < 6 then k + 1 else k + 2) := by
  have z1 : (s.extract 0 4).size = 4 := by rw [size_extract' _ _ _ (by omega)]
  have z2 : (s.extract 5 7).size = 2 := by rw [size_extract' _ _ _ (by omega)]
  unfold parts
  by_cases h4 : k < 4
  · rw [if_pos h4, byt_left _ _ _ (by rw [ByteArray.size_append]; omega), byt_left _ _ _ (by omega), byt_extract _ _ _ _ (by omega) (by omega), Nat.zero_add]
  · rw [if_neg h4]
    by_cases h6 : k < 6
    · rw [if_pos h6, byt_left _ _ _ (by rw [ByteArray.size_append]; omega), byt_right _ _ _ (by omega), byt_extract _ _ _ _ (by omega) (by omega)]
      congr 1; omega
    · rw [if_neg h6, byt_right _ _ _ (by rw [ByteArray.size_append]; omega), byt_extract _ _ _ _ (by omega) (by rw [ByteArray.size_append]; omega), ByteArray.size_append]
      congr 1; omega
theorem parts_dgs {s : ByteArray} (h : s.size = 10) : Dgs (parts s) ↔ ∀ k, dpl k → dgAt s k := by
  unfold Dgs
  rw [parts_size h]
  constructor
  · intro hd k ⟨h1, h2, h3⟩
    have := hd (if k < 4 then k else if k < 7 then k - 1 else k - 2) (by split <;> (try split) <;> omega)
    unfold dgAt at this ⊢
    rw [byt_parts h _ (by split <;> (try split) <;> omega)] at this
    have e : (if (if k < 4 then k else if k < 7 then k - 1 else k - 2) < 4 then (if k < 4 then k else if k < 7 then k - 1 else k - 2) else if (if k < 4 then k else if k < 7 then k - 1 else k - 2) < 6 then (if k < 4 then k else if k < 7 then k - 1 else k - 2) + 1 else (if k < 4 then k else if k < 7 then k - 1 else k - 2) + 2) = k := by
      by_cases a : k < 4
      · simp [a]
      · by_cases b : k < 7
        · simp only [a, b, if_false, if_true]
          rw [if_neg (by omega), if_pos (by omega)]
          omega
        · simp only [a, b, if_false]
          rw [if_neg (by omega), if_neg (by omega)]
          omega
    rw [e] at this
    exact this
  · intro hd k hk
    unfold dgAt
    rw [byt_parts h k hk]
    exact hd _ (by unfold dpl; split <;> (try split) <;> omega)
/-- Digits, asked of any text that is not empty. -/
theorem digits_b (s : ByteArray) (hs : s.size ≤ 1000) (h0 : 0 < s.size) {b : Bool} (HB : Hid (b = true ↔ Dgs s)) (w : World) : Calls Tryd.prog 39 #[.string s] w fun e w' => e = .returned (.bool b) ∧ w = w' := by
  cases b
  · exact digits_no s hs (fun h => by have := HB.out.2 h; cases this) w
  · exact digits_yes s hs h0 (HB.out.1 rfl) w
def pY (s : ByteArray) : Int := nv s 0 4
def pM (s : ByteArray) : Int := nv s 5 2
def pD (s : ByteArray) : Int := nv s 8 2
theorem num_at (s : ByteArray) (a b : Nat) (hs : s.size = 10) (h1 : a ≤ b) (h2 : b ≤ 10) (h3 : b - a ≤ 4) (hd : ∀ k, a ≤ k → k < b → dgAt s k) (w : World) : Calls Tryd.prog 40 #[.string (s.extract a b)] w fun e w' => e = .returned (.int .i64 (nv s a (b - a))) ∧ w = w' := by
  have hz : (s.extract a b).size = b - a := size_extract' _ _ _ (by omega)
  refine (number_any _ (by omega) (fun k hk => ?_) w).mono ?_
  · unfold dgAt
    rw [byt_extract _ _ _ _ (by omega) (by omega)]
    exact hd _ (by omega) (by omega)
  · rintro e w' ⟨rfl, rfl⟩
    refine ⟨ret_int ?_, rfl⟩
    rw [hz]
    exact nv_ext fun j hj => by rw [Nat.zero_add, byt_extract _ _ _ _ (by omega) (by omega)]
theorem parse_short (s : ByteArray) (h : s.size < 10) (w : World) : Calls Tryd.prog 20 #[.string s] w fun e w' => e = .returned (.tuple #[.int .i64 0, .int .i64 1]) ∧ w = w' := by
  go_enter Tryd.func20, Tryd.ntmps20
  go_wp2
  go_ret2
  exact ⟨rfl, rfl⟩
theorem parse_long (s : ByteArray) (h : 10 < s.size) (hs : s.size ≤ 1000) (w : World) : Calls Tryd.prog 20 #[.string s] w fun e w' => e = .returned (.tuple #[.int .i64 0, .int .i64 3]) ∧ w = w' := by
  have g : ¬ (s.size : Int) < 10 := by omega
  go_enter Tryd.func20, Tryd.ntmps20
  go_wp2
  go_ret2
  exact ⟨rfl, rfl⟩
set_option maxHeartbeats 1600000 in
theorem parse_bad (s : ByteArray) (hs : s.size = 10) (hn : ¬ IsT s) (w : World) : Calls Tryd.prog 20 #[.string s] w fun e w' => e = .returned (.tuple #[.int .i64 0, .int .i64 2]) ∧ Below w.heap.size w w' := by
  have g : ¬ (s.size : Int) < 10 := by omega
  have g2 : ¬ 10 < (s.size : Int) := by omega
  have i4 := fun w => ix_at s 4 (by omega) (i := 4) rfl w
  have i7 := fun w => ix_at s 7 (by omega) (i := 7) rfl w
  have s1 := fun w => sl_h s 4 (by omega) (j := 4) rfl w
  have s2 := fun w => sl_lh s 5 7 (by omega) (by omega) (i := 5) (j := 7) rfl rfl w
  have s3 := fun w => sl_l s 8 (by omega) (i := 8) rfl w
  rw [hs] at s3
  by_cases h4 : byt s 4 = 45
  · have e4 : (byt s 4 != 45) = false := by simp [h4]
    by_cases h7 : byt s 7 = 45
    · have e7 : (byt s 7 != 45) = false := by simp [h7]
      have HD := Lib.hid (fun w => digits_b (parts s) (by rw [parts_size hs]; omega) (by rw [parts_size hs]; omega) (b := false) (Lib.hid ⟨fun h => (by cases h), fun h => absurd (IsT.mk hs h4 h7 ((parts_dgs hs).1 h)) hn⟩) w)
      have z1 : (s.extract 0 4).size = 4 := by rw [size_extract' _ _ _ (by omega)]
      have z2 : (s.extract 5 7).size = 2 := by rw [size_extract' _ _ _ (by omega)]
      have z3 : (s.extract 8 10).size = 2 := by rw [size_extract' _ _ _ (by omega)]
      have hP : Hid (parts s = s.extract 0 4 ++ s.extract 5 7 ++ s.extract 8 10) := Lib.hid rfl
      rw [hP.out] at HD
      clear hP h4 h7 hn
      generalize s.extract 0 4 = a at *
      generalize s.extract 5 7 = b at *
      generalize s.extract 8 10 = c at *
      have v1 := fun w => run_string_add_sum (P := Tryd.prog) w a b (by omega)
      have e1 : (a ++ b).size = 6 := by rw [ByteArray.size_append]; omega
      have v2 := fun w => run_string_add_sum (P := Tryd.prog) w (a ++ b) c (by omega)
      generalize byt s 4 = c4 at *
      generalize byt s 7 = c7 at *
      go_enter Tryd.func20, Tryd.ntmps20
      go_wp2_with fail
      go_quiet ((go_at_call_of 39 (Value.string (a ++ b ++ c)); exact Calls.quiet_of_same ((HD.out _).mono fun _ _ h => ⟨h.1, h.2.symm⟩)))
      go_wp2
      go_ret2
      exact ⟨rfl, bel_drewN (Below.refl _ _) _⟩
    · have e7 : (byt s 7 != 45) = true := by simp [h7]
      clear h4 h7 hn
      generalize byt s 4 = c4 at *
      generalize byt s 7 = c7 at *
      go_enter Tryd.func20, Tryd.ntmps20
      go_wp2_with fail
      go_quiet (fail)
      go_wp2
      go_ret2
      exact ⟨rfl, bel_drewN (Below.refl _ _) _⟩
  · have e4 : (byt s 4 != 45) = true := by simp [h4]
    clear h4 hn
    generalize byt s 4 = c4 at *
    go_enter Tryd.func20, Tryd.ntmps20
    go_wp2_with fail
    go_quiet (fail)
    go_wp2
    go_ret2
    exact ⟨rfl, bel_drewN (Below.refl _ _) _⟩
set_option maxHeartbeats 3200000 in
theorem parse_of (s : ByteArray) (h : IsT s) {a e : Int} (w : World) (hM : Mth w) (hO : ∀ w', Mth w' → Calls Tryd.prog 9 #[.int .i64 (pY s), .int .i64 (pM s), .int .i64 (pD s)] w' fun x w'' => x = .returned (.tuple #[.int .i64 a, .int .i64 e]) ∧ w' = w'') : Calls Tryd.prog 20 #[.string s] w fun x w' => x = .returned (.tuple #[.int .i64 a, .int .i64 e]) ∧ Below w.heap.size w w' := by
  have hs := h.size
  have g : ¬ (s.size : Int) < 10 := by omega
  have g2 : ¬ 10 < (s.size : Int) := by omega
  have i4 := fun w => ix_at s 4 (by omega) (i := 4) rfl w
  have i7 := fun w => ix_at s 7 (by omega) (i := 7) rfl w
  have s1 := fun w => sl_h s 4 (by omega) (j := 4) rfl w
  have s2 := fun w => sl_lh s 5 7 (by omega) (by omega) (i := 5) (j := 7) rfl rfl w
  have s3 := fun w => sl_l s 8 (by omega) (i := 8) rfl w
  rw [hs] at s3
  have e4 : (byt s 4 != 45) = false := by simp [h.b4]
  have e7 : (byt s 7 != 45) = false := by simp [h.b7]
  have HD := Lib.hid (fun w => digits_b (parts s) (by rw [parts_size hs]; omega) (by rw [parts_size hs]; omega) (b := true) (Lib.hid ⟨fun _ => (parts_dgs hs).2 h.dg, fun _ => rfl⟩) w)
  have z1 : (s.extract 0 4).size = 4 := by rw [size_extract' _ _ _ (by omega)]
  have z2 : (s.extract 5 7).size = 2 := by rw [size_extract' _ _ _ (by omega)]
  have z3 : (s.extract 8 10).size = 2 := by rw [size_extract' _ _ _ (by omega)]
  have hP : Hid (parts s = s.extract 0 4 ++ s.extract 5 7 ++ s.extract 8 10) := Lib.hid rfl
  rw [hP.out] at HD
  have N1 := Lib.hid (fun w => num_at s 0 4 hs (by omega) (by omega) (by omega) (fun k h1 h2 => h.dg k ⟨by omega, by omega, by omega⟩) w)
  have N2 := Lib.hid (fun w => num_at s 5 7 hs (by omega) (by omega) (by omega) (fun k h1 h2 => h.dg k ⟨by omega, by omega, by omega⟩) w)
  have N3 := Lib.hid (fun w => num_at s 8 10 hs (by omega) (by omega) (by omega) (fun k h1 h2 => h.dg k ⟨by omega, by omega, by omega⟩) w)
  simp only [pY, pM, pD] at hO
  simp only [Nat.reduceSub] at N1 N2 N3
  have HO := Lib.hid hO
  clear hP h hO
  generalize s.extract 0 4 = p at *
  generalize s.extract 5 7 = q at *
  generalize s.extract 8 10 = r at *
  generalize nv s 0 4 = y at *
  generalize nv s 5 2 = m at *
  generalize nv s 8 2 = d at *
  have v1 := fun w => run_string_add_sum (P := Tryd.prog) w p q (by omega)
  have e1 : (p ++ q).size = 6 := by rw [ByteArray.size_append]; omega
  have v2 := fun w => run_string_add_sum (P := Tryd.prog) w (p ++ q) r (by omega)
  generalize byt s 4 = c4 at *
  generalize byt s 7 = c7 at *
  go_enter Tryd.func20, Tryd.ntmps20
  go_wp2_with fail
  go_quiet ((go_at_call_of 39 (Value.string (p ++ q ++ r)); exact Calls.quiet_of_same ((HD.out _).mono fun _ _ h => ⟨h.1, h.2.symm⟩)))
  have hMW : Hid (Mth (w.drewN nq)) := Lib.hid hM
  have hBW : Hid (Below w.heap.size w (w.drewN nq)) := Lib.hid (bel_drewN (Below.refl _ _) _)
  generalize w.drewN nq = W at *
  have HOd : Hid (∀ n, Calls Tryd.prog 9 #[.int .i64 y, .int .i64 m, .int .i64 d] (W.drewN n) fun x w'' => x = .returned (.tuple #[.int .i64 a, .int .i64 e]) ∧ W.drewN n = w'') := Lib.hid fun n => HO.out (W.drewN n) hMW.out
  go_wp2_with fail
  go_quiet ((first | (go_at_call_of 40 (Value.string p); exact Calls.quiet_of_same ((N1.out _).mono fun _ _ h => ⟨h.1, h.2.symm⟩)) | (go_at_call_of 40 (Value.string q); exact Calls.quiet_of_same ((N2.out _).mono fun _ _ h => ⟨h.1, h.2.symm⟩)) | (go_at_call_of 40 (Value.string r); exact Calls.quiet_of_same ((N3.out _).mono fun _ _ h => ⟨h.1, h.2.symm⟩)) | (go_at_call_of 9 (Value.int IntKind.i64 y); exact Calls.quiet_of_same ((HOd.out _).mono fun _ _ h => ⟨h.1, h.2.symm⟩))))
  go_wp2
  go_ret2
  exact ⟨rfl, bel_drewN hBW.out _⟩
end Go.Proofs.YtaagifggeafgnaaDoor
