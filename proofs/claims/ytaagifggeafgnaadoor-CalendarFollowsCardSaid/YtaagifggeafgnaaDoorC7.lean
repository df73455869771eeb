/-
  CONTRACTS of dates: Format.
-/
import Derived.Test.YtaagifggeafgnaaDoorC6
import Derived.Deep.RegionHeld3
namespace Go.Proofs.YtaagifggeafgnaaDoor
open Go.RowKit Go.Lib
set_option linter.unusedVariables false
set_option linter.unusedSimpArgs false
theorem bel_alloc {w w' : World} (h : Below w.heap.size w w') (o : Obj) : Below w.heap.size w (w'.alloc o) := h.alloc h.size o
theorem bel_drewN {w w' : World} (h : Below w.heap.size w w') (n : Nat) : Below w.heap.size w (w'.drewN n) := h.trans ⟨rfl, rfl, rfl, Nat.le_refl _, fun _ _ => rfl⟩
theorem small_nd {u d : Nat} (hd : 1 ≤ d) (h : u < 10 ^ d) : nDigits u ≤ d := (nd_iff u d hd).2 h
theorem pad_in (u d : Nat) (h : u ≤ 100000) (hd : d ≤ 30) (hn : nDigits u ≤ d) (w : World) (hT : Pow w) (hw : 4 ≤ w.heap.size) : ∀ w', Below w.heap.size w w' →
    Calls Tryd.prog 37 #[.int .i64 (u : Int), .int .i64 (d : Int)] w' fun e w'' => e = .returned (.string (decS u d)) ∧ Below w.heap.size w w'' := fun w' hb => by
  refine (padded_any u (by omega) d hd hn w' (hT.later hb hw)).mono ?_
  rintro e w'' ⟨rfl, hb2⟩
  exact ⟨rfl, hb.trans (hb2.mono hb.size)⟩
theorem fmt_no {n : Int} (h : isDt n = false) (w : World) : Calls Tryd.prog 17 #[.int .i64 n] w fun e w' => e = .returned (.string ⟨#[]⟩) ∧ w = w' := by
  have hD := Lib.hid h
  clear h
  go_enter Tryd.func17, Tryd.ntmps17
  go_wp2_with fail
  refine (isDate_any _ _ hD).mono ?_
  rintro e w' ⟨rfl, rfl⟩
  go_wp2
  go_ret
  exact ⟨rfl, rfl⟩
theorem rfmt_no {n : Int} (h : isDt n = false) (w : World) : Calls Tryd.prog 18 #[.int .i64 n] w fun e w' => e = .returned (.string ⟨#[]⟩) ∧ w = w' := by
  have hD := Lib.hid h
  clear h
  go_enter Tryd.func18, Tryd.ntmps18
  go_wp2_with fail
  refine (rsplit_no hD.out _).mono ?_
  rintro e w' ⟨rfl, rfl⟩
  go_wp2
  go_ret
  exact ⟨rfl, rfl⟩
set_option maxHeartbeats 1600000 in
theorem fmt_ok {n y m d : Nat} (h : IsD n y m d) (hn : n ≤ 99999) (w : World) (hM : Mth w) (hT : Pow w) (hw : 4 ≤ w.heap.size) : Calls Tryd.prog 17 #[.int .i64 (n : Int)] w fun e w' => e = .returned (.string (fmtS y m d)) ∧ Below w.heap.size w w' := by
  have hD : Hid (isDt (n : Int) = true) := Lib.hid (isDt_yes (by omega) (by omega))
  have hy1 := h.y1 (by omega)
  have hm1 := h.m1
  have hd1 := h.d1
  have hml := ml_bd y m
  have S1 := Lib.hid (split_ok h hn w hM)
  have P1 := Lib.hid (pad_in y 4 (by omega) (by omega) (small_nd (by omega) (by omega)) w hT hw)
  have P2 := Lib.hid (pad_in m 2 (by omega) (by omega) (small_nd (by omega) (by omega)) w hT hw)
  have P3 := Lib.hid (pad_in d 2 (by omega) (by omega) (small_nd (by omega) (by omega)) w hT hw)
  have HF : Hid (fmtS y m d = decS y 4 ++ ⟨#[45]⟩ ++ decS m 2 ++ ⟨#[45]⟩ ++ decS d 2) := Lib.hid rfl
  have z1 := decS_size y 4
  have z2 := decS_size m 2
  have z3 := decS_size d 2
  have z0 : (⟨#[45]⟩ : ByteArray).size = 1 := rfl
  clear h hM hT hy1 hm1 hd1 hml hw
  generalize decS y 4 = a at *
  generalize decS m 2 = b at *
  generalize decS d 2 = c at *
  have v1 := fun w => run_string_add_sum (P := Tryd.prog) w a ⟨#[45]⟩ (by omega)
  have e1 : (a ++ ⟨#[45]⟩).size = 5 := by rw [ByteArray.size_append]; omega
  have v2 := fun w => run_string_add_sum (P := Tryd.prog) w (a ++ ⟨#[45]⟩) b (by omega)
  have e2 : (a ++ ⟨#[45]⟩ ++ b).size = 7 := by rw [ByteArray.size_append]; omega
  have v3 := fun w => run_string_add_sum (P := Tryd.prog) w (a ++ ⟨#[45]⟩ ++ b) ⟨#[45]⟩ (by omega)
  have e3 : (a ++ ⟨#[45]⟩ ++ b ++ ⟨#[45]⟩).size = 8 := by rw [ByteArray.size_append]; omega
  have v4 := fun w => run_string_add_sum (P := Tryd.prog) w (a ++ ⟨#[45]⟩ ++ b ++ ⟨#[45]⟩) c (by omega)
  go_enter Tryd.func17, Tryd.ntmps17
  go_wp2_with fail
  refine (isDate_any _ _ hD).mono ?_
  rintro e w' ⟨rfl, rfl⟩
  go_wp2_with fail
  refine S1.out.mono ?_
  rintro e w' ⟨rfl, rfl⟩
  go_wp2_with fail
  refine (P1.out _ (Below.refl _ _)).mono ?_
  rintro e w1 ⟨rfl, hb1⟩
  go_wp2_with fail
  refine (P2.out _ hb1).mono ?_
  rintro e w2 ⟨rfl, hb2⟩
  go_wp2_with fail
  refine (P3.out _ hb2).mono ?_
  rintro e w3 ⟨rfl, hb3⟩
  go_wp2
  go_ret
  exact ⟨ret_str HF.out.symm, hb3⟩
set_option maxHeartbeats 1600000 in
theorem rfmt_ok {n y m d : Nat} (h : IsD n y m d) (hn : n ≤ 99999) (w : World) : Calls Tryd.prog 18 #[.int .i64 (n : Int)] w fun e w' => e = .returned (.string (fmtS y m d)) ∧ Below w.heap.size w w' := by
  have hy0 := h.y0
  have hy1 := h.y1 (by omega)
  have hm1 := h.m1
  have hd1 := h.d1
  have hml := ml_bd y m
  have hne : ((y : Int) == 0) = false := by simp; omega
  have S1 := Lib.hid (rsplit_ok h hn w)
  have P1 := Lib.hid (fun w => rdigits_any y (by omega) 4 (by omega) w)
  have P2 := Lib.hid (fun w => rdigits_any m (by omega) 2 (by omega) w)
  have P3 := Lib.hid (fun w => rdigits_any d (by omega) 2 (by omega) w)
  have HF : Hid (fmtS y m d = decS y 4 ++ ⟨#[45]⟩ ++ decS m 2 ++ ⟨#[45]⟩ ++ decS d 2) := Lib.hid rfl
  have z1 := decS_size y 4
  have z2 := decS_size m 2
  have z3 := decS_size d 2
  have z0 : (⟨#[45]⟩ : ByteArray).size = 1 := rfl
  clear h hm1 hd1 hml
  generalize decS y 4 = a at *
  generalize decS m 2 = b at *
  generalize decS d 2 = c at *
  have v1 := fun w => run_string_add_sum (P := Tryd.prog) w a ⟨#[45]⟩ (by omega)
  have e1 : (a ++ ⟨#[45]⟩).size = 5 := by rw [ByteArray.size_append]; omega
  have v2 := fun w => run_string_add_sum (P := Tryd.prog) w (a ++ ⟨#[45]⟩) b (by omega)
  have e2 : (a ++ ⟨#[45]⟩ ++ b).size = 7 := by rw [ByteArray.size_append]; omega
  have v3 := fun w => run_string_add_sum (P := Tryd.prog) w (a ++ ⟨#[45]⟩ ++ b) ⟨#[45]⟩ (by omega)
  have e3 : (a ++ ⟨#[45]⟩ ++ b ++ ⟨#[45]⟩).size = 8 := by rw [ByteArray.size_append]; omega
  have v4 := fun w => run_string_add_sum (P := Tryd.prog) w (a ++ ⟨#[45]⟩ ++ b ++ ⟨#[45]⟩) c (by omega)
  go_enter Tryd.func18, Tryd.ntmps18
  go_wp2_with fail
  refine S1.out.mono ?_
  rintro e w1 ⟨rfl, hb1⟩
  go_wp2_with fail
  refine (P1.out _).mono ?_
  rintro e w2 ⟨rfl, rfl⟩
  go_wp2_with fail
  refine (P2.out _).mono ?_
  rintro e w2 ⟨rfl, rfl⟩
  go_wp2_with fail
  refine (P3.out _).mono ?_
  rintro e w2 ⟨rfl, rfl⟩
  go_wp2
  go_ret
  exact ⟨ret_str HF.out.symm, hb1⟩
end Go.Proofs.YtaagifggeafgnaaDoor
