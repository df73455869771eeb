/-
  CONTRACTS of amounts: Scale, the program's and the specification's, for every amount, fraction and mode.
-/
import Derived.Test.YtompkkanckejjaaDoorM4
import Derived.Test.YtompkkanckejjaaDoorM5
import Derived.Test.YtompkkanckejjaaDoorM7
import Derived.Test.YtompkkanckejjaaDoorMD1
namespace Go.Proofs.YtompkkanckejjaaDoor
open Go.RowKit
set_option linter.unusedVariables false
set_option linter.unusedSimpArgs false
def BothM (F G : FuncId) (args : Array Value) (v : Value) : Prop :=
  (∀ w, Calls Tryd.prog F args w fun x w' => x = .returned v ∧ Pushed w w') ∧ (∀ w, Calls Tryd.prog G args w fun x w' => x = .returned v ∧ Below w.heap.size w w')
theorem div64_any (p y : Nat) (h0 : 1 ≤ y) (hy : y < 9223372036854775808) (hh : ¬ y ≤ p / 18446744073709551616) (w : World) : Calls Tryd.prog 38 #[.int .u64 ((p / 18446744073709551616 : Nat) : Int), .int .u64 ((p % 18446744073709551616 : Nat) : Int), .int .u64 (y : Int)] w fun x w' => x = .returned (.tuple #[.int .u64 ((p / y : Nat) : Int), .int .u64 ((p % y : Nat) : Int)]) ∧ Pushed w w' := by
  by_cases hz : p / 18446744073709551616 = 0
  · rw [hz]
    have e : p % 18446744073709551616 = p := by omega
    rw [e]
    exact div64_wide p y h0 (by omega) w
  · have h := div64_high (p / 18446744073709551616) (p % 18446744073709551616) y (by omega) (by omega) hy (Nat.mod_lt _ (by omega)) w
    have e : p / 18446744073709551616 * 18446744073709551616 + p % 18446744073709551616 = p := by omega
    rw [e] at h
    exact h
theorem over_big (p D M lim : Nat) (hM : lim < M) (D0 : 1 ≤ D) (h : D ≤ p / M) : lim < p / D := by
  have h1 : D * M ≤ p := (Nat.le_div_iff_mul_le (by omega)).1 h
  have h3 : M ≤ p / D := by
    rw [Nat.le_div_iff_mul_le (by omega), Nat.mul_comm]
    exact h1
  omega
theorem qlim_big {A N D : Nat} {mode : Int} (h : 4503599627370496 < A * N / D) : 4503599627370496 < rndR (qLim A N D 4503599627370496) (A * N % D) D mode := by
  have e : qLim A N D 4503599627370496 = 4503599627370496 + 1 := by
    unfold qLim
    exact if_neg (by omega)
  unfold rndR
  rw [e]
  split <;> omega
theorem qlim_fit {A N D : Nat} (h : A * N / D ≤ 4503599627370496) : qLim A N D 4503599627370496 = A * N / D := by
  unfold qLim
  rw [if_pos h]
theorem mag_any (m : Int) (hm : -4503599627370496 ≤ m ∧ m ≤ 4503599627370496) (w : World) : Calls Tryd.prog 37 #[.int .i64 m] w fun x w' => x = .returned (.int .u64 (m.natAbs : Int)) ∧ Pushed w w' := by
  by_cases h : 0 ≤ m
  · have h1 := mag_pos m.natAbs (by omega) w
    rw [show ((m.natAbs : Nat) : Int) = m by omega] at h1
    rw [show ((m.natAbs : Nat) : Int) = m by omega]
    exact h1
  · have h1 := mag_neg m.natAbs (by omega) (by omega) w
    rw [show (-((m.natAbs : Nat) : Int)) = m by omega] at h1
    exact h1
/-- What both return: the amount, or the error, of a scaled amount. -/
theorem scale_tot (m : Int) (c : ByteArray) (num den mode : Int) (hc : c.size ≤ 9223372036854775807) : ∃ (y : Int) (u : ByteArray) (e : Int), BothM 19 20 #[.agg #[.int .i64 m, .string c], .int .i64 num, .int .i64 den, .int .i64 mode] (.tuple #[.agg #[.int .i64 y, .string u], .int .i64 e]) := by
  by_cases hm : mchkR m c = 0
  case neg => exact ⟨0, ⟨#[]⟩, _, fun w => scale_e1 m num den mode c hc (Lib.hid rfl) (ne_b hm) w, fun w => rscale_e1 m num den mode c hc (Lib.hid rfl) (ne_b hm) w⟩
  by_cases hb : den < 1 ∨ 1099511627776 < den ∨ num < -1099511627776 ∨ 1099511627776 < num ∨ mode < 1 ∨ 4 < mode
  · exact ⟨0, ⟨#[]⟩, 4, fun w => scale_e2 m num den mode c hc (Lib.hid hm) hb w, fun w => rscale_e2 m num den mode c hc (Lib.hid hm) hb w⟩
  obtain ⟨D, rfl⟩ := Int.eq_ofNat_of_zero_le (show 0 ≤ den by omega)
  obtain ⟨hcur, hlo, hhi⟩ := mchk_curP hm
  have D0 : 1 ≤ D := by omega
  have D1 : D ≤ 1099511627776 := by omega
  have N0 : -1099511627776 ≤ num := by omega
  have N1 : num ≤ 1099511627776 := by omega
  have M0 : 1 ≤ mode := by omega
  have M1 : mode ≤ 4 := by omega
  have G1 := Lib.hid fun w => mag_any m ⟨by omega, by omega⟩ w
  have G2 := Lib.hid fun w => mag_any num ⟨by omega, by omega⟩ w
  have mA : max m (-m) = (m.natAbs : Int) := by omega
  have mN : max num (-num) = (num.natAbs : Int) := by omega
  have hA : m.natAbs ≤ 4503599627370496 := by omega
  have hN : num.natAbs ≤ 1099511627776 := by omega
  clear hb
  generalize m.natAbs = A at *
  generalize num.natAbs = B at *
  have MM : Hid (∀ w, Calls Tryd.prog 36 #[.int .u64 (A : Int), .int .u64 (B : Int)] w fun x w' => x = .returned (.tuple #[.int .u64 ((A * B / 18446744073709551616 : Nat) : Int), .int .u64 ((A * B % 18446744073709551616 : Nat) : Int)]) ∧ Pushed w w') := Lib.hid fun w => (Tryd.bits_Mul64 A B (by omega) (by omega) w).mono fun x w' h' => by
    obtain ⟨rfl, rfl⟩ := h'
    exact ⟨rfl, Pushed.refl _⟩
  by_cases hov : D ≤ A * B / 18446744073709551616
  · have hbig := over_big (A * B) D _ 4503599627370496 (by decide) D0 hov
    exact ⟨0, ⟨#[]⟩, 4, fun w => scale_over m num A B D _ _ mode c hc (Lib.hid hm) N0 N1 D0 D1 M0 M1 G1 G2 MM hov w, fun w => rscale_big m num A B D mode c hc hA hN D0 D1 N0 N1 mA mN (Lib.hid hm) hlo hhi ⟨M0, M1⟩ (qlim_big hbig) w⟩
  have DV := Lib.hid fun w => div64_any (A * B) D D0 (by omega) hov w
  have hrl : A * B % D < D := Nat.mod_lt _ (by omega)
  by_cases hbig : 4503599627370496 < A * B / D
  · exact ⟨0, ⟨#[]⟩, 4, fun w => scale_qbig m num A B D _ _ mode c hc (Lib.hid hm) N0 N1 D0 D1 M0 M1 G1 G2 MM _ _ hov DV hbig w, fun w => rscale_big m num A B D mode c hc hA hN D0 D1 N0 N1 mA mN (Lib.hid hm) hlo hhi ⟨M0, M1⟩ (qlim_big hbig) w⟩
  have hq : A * B / D ≤ 4503599627370496 := by omega
  have el := qlim_fit hq
  cases hb : upB (A * B / D) (A * B % D) D mode with
  | false =>
    have er : rndR (qLim A B D 4503599627370496) (A * B % D) D mode = A * B / D := by rw [el]; unfold rndR; rw [hb]; rfl
    cases kne : (decide (m < 0) != decide (num < 0)) with
    | false =>
      refine ⟨((A * B / D : Nat) : Int), c, 0, fun w => scale_p0 m num A B D _ _ mode c hc (Lib.hid hm) N0 N1 D0 D1 M0 M1 G1 G2 MM _ _ hov DV hq hrl kne hb _ _ _ (Lib.hid fun w => valid_ok _ c hc (Lib.hid (mchk_fit hcur (by omega))) w) w, fun w => ?_⟩
      have := rscale_okp m num A B D mode c hc hA hN D0 D1 N0 N1 mA mN (Lib.hid hm) hlo hhi ⟨M0, M1⟩ kne (by rw [er]; exact hq) w
      rw [er] at this
      exact this
    | true =>
      refine ⟨-((A * B / D : Nat) : Int), c, 0, fun w => scale_n0 m num A B D _ _ mode c hc (Lib.hid hm) N0 N1 D0 D1 M0 M1 G1 G2 MM _ _ hov DV hq hrl kne hb _ _ _ (Lib.hid fun w => valid_ok _ c hc (Lib.hid (mchk_fit hcur (by omega))) w) w, fun w => ?_⟩
      have := rscale_okn m num A B D mode c hc hA hN D0 D1 N0 N1 mA mN (Lib.hid hm) hlo hhi ⟨M0, M1⟩ kne (by rw [er]; exact hq) w
      rw [er] at this
      exact this
  | true =>
    have er : rndR (qLim A B D 4503599627370496) (A * B % D) D mode = A * B / D + 1 := by rw [el]; unfold rndR; rw [hb]; rfl
    by_cases hq1 : A * B / D + 1 ≤ 4503599627370496
    · cases kne : (decide (m < 0) != decide (num < 0)) with
      | false =>
        refine ⟨((A * B / D : Nat) : Int) + 1, c, 0, fun w => scale_p1 m num A B D _ _ mode c hc (Lib.hid hm) N0 N1 D0 D1 M0 M1 G1 G2 MM _ _ hov DV hq hrl kne hb _ _ _ (Lib.hid fun w => valid_ok _ c hc (Lib.hid (mchk_fit hcur (by omega))) w) w, fun w => ?_⟩
        have := rscale_okp m num A B D mode c hc hA hN D0 D1 N0 N1 mA mN (Lib.hid hm) hlo hhi ⟨M0, M1⟩ kne (by rw [er]; exact hq1) w
        rw [er] at this
        exact this
      | true =>
        refine ⟨-(((A * B / D : Nat) : Int) + 1), c, 0, fun w => scale_n1 m num A B D _ _ mode c hc (Lib.hid hm) N0 N1 D0 D1 M0 M1 G1 G2 MM _ _ hov DV hq hrl kne hb _ _ _ (Lib.hid fun w => valid_ok _ c hc (Lib.hid (mchk_fit hcur (by omega))) w) w, fun w => ?_⟩
        have := rscale_okn m num A B D mode c hc hA hN D0 D1 N0 N1 mA mN (Lib.hid hm) hlo hhi ⟨M0, M1⟩ kne (by rw [er]; exact hq1) w
        rw [er] at this
        exact this
    · have RB : ∀ w, Calls Tryd.prog 20 #[.agg #[.int .i64 m, .string c], .int .i64 num, .int .i64 (D : Int), .int .i64 mode] w fun x w' => x = .returned (.tuple #[.agg #[.int .i64 0, .string ⟨#[]⟩], .int .i64 4]) ∧ Below w.heap.size w w' := fun w => rscale_big m num A B D mode c hc hA hN D0 D1 N0 N1 mA mN (Lib.hid hm) hlo hhi ⟨M0, M1⟩ (by rw [er]; omega) w
      cases kne : (decide (m < 0) != decide (num < 0)) with
      | false => exact ⟨0, ⟨#[]⟩, 4, fun w => scale_p1 m num A B D _ _ mode c hc (Lib.hid hm) N0 N1 D0 D1 M0 M1 G1 G2 MM _ _ hov DV hq hrl kne hb _ _ _ (Lib.hid fun w => valid_err _ c hc (Lib.hid (mchk_big hcur (by omega))) rfl w) w, RB⟩
      | true => exact ⟨0, ⟨#[]⟩, 4, fun w => scale_n1 m num A B D _ _ mode c hc (Lib.hid hm) N0 N1 D0 D1 M0 M1 G1 G2 MM _ _ hov DV hq hrl kne hb _ _ _ (Lib.hid fun w => valid_err _ c hc (Lib.hid (mchk_big hcur (by omega))) rfl w) w, RB⟩
/-- A fraction of 1 changes nothing; the program's Scale where it needs no error. -/
theorem scale_val (m : Int) (c : ByteArray) (num : Int) (D : Nat) (mode : Int) (hc : c.size ≤ 9223372036854775807) (hm : mchkR m c = 0) (N0 : -1099511627776 ≤ num) (N1 : num ≤ 1099511627776) (D0 : 1 ≤ D) (D1 : D ≤ 1099511627776) (M0 : 1 ≤ mode) (M1 : mode ≤ 4) (q r : Nat) (hqr : m.natAbs * num.natAbs = q * D + r) (hr : r < D) (b k : Bool) (hq : q ≤ 4503599627370496) (hq2 : b = true → q ≤ 4503599627370495) (hb : upB q r D mode = b) (hk : (decide (m < 0) != decide (num < 0)) = k) (v : Int) (hv : v = if k then -((q + if b then 1 else 0 : Nat) : Int) else ((q + if b then 1 else 0 : Nat) : Int)) (w : World) :
    Calls Tryd.prog 19 #[.agg #[.int .i64 m, .string c], .int .i64 num, .int .i64 (D : Int), .int .i64 mode] w fun x w' => x = .returned (.tuple #[.agg #[.int .i64 v, .string c], .int .i64 0]) ∧ Pushed w w' := by
  obtain ⟨hcur, hlo, hhi⟩ := mchk_curP hm
  have G1 := Lib.hid fun w => mag_any m ⟨by omega, by omega⟩ w
  have G2 := Lib.hid fun w => mag_any num ⟨by omega, by omega⟩ w
  have hA : m.natAbs ≤ 4503599627370496 := by omega
  have hN : num.natAbs ≤ 1099511627776 := by omega
  generalize m.natAbs = A at *
  generalize num.natAbs = B at *
  have MM : Hid (∀ w, Calls Tryd.prog 36 #[.int .u64 (A : Int), .int .u64 (B : Int)] w fun x w' => x = .returned (.tuple #[.int .u64 ((A * B / 18446744073709551616 : Nat) : Int), .int .u64 ((A * B % 18446744073709551616 : Nat) : Int)]) ∧ Pushed w w') := Lib.hid fun w => (Tryd.bits_Mul64 A B (by omega) (by omega) w).mono fun x w' h' => by
    obtain ⟨rfl, rfl⟩ := h'
    exact ⟨rfl, Pushed.refl _⟩
  have e1 : A * B / D = q := by
    rw [hqr, Nat.mul_comm q D, Nat.mul_add_div (by omega), Nat.div_eq_of_lt hr]; omega
  have e2 : A * B % D = r := by
    rw [hqr, Nat.mul_comm q D, Nat.mul_add_mod, Nat.mod_eq_of_lt hr]
  have hov : ¬ D ≤ A * B / 18446744073709551616 := fun h => by
    have := over_big (A * B) D _ 4503599627370496 (by decide) D0 h
    omega
  have DV := Lib.hid fun w => div64_any (A * B) D D0 (by omega) hov w
  rw [e1, e2] at DV
  subst hb hk
  cases hb : upB q r D mode <;> rw [hb] at hq2 <;> simp at hq2 <;> cases kne : (decide (m < 0) != decide (num < 0)) <;> rw [hb, kne] at hv <;> simp at hv <;> subst hv
  · exact scale_p0 m num A B D _ _ mode c hc (Lib.hid hm) N0 N1 D0 D1 M0 M1 G1 G2 MM _ _ hov DV (by omega) hr kne hb _ _ _ (Lib.hid fun w => valid_ok _ c hc (Lib.hid (mchk_fit hcur (by omega))) w) w
  · exact scale_n0 m num A B D _ _ mode c hc (Lib.hid hm) N0 N1 D0 D1 M0 M1 G1 G2 MM _ _ hov DV (by omega) hr kne hb _ _ _ (Lib.hid fun w => valid_ok _ c hc (Lib.hid (mchk_fit hcur (by omega))) w) w
  · exact scale_p1 m num A B D _ _ mode c hc (Lib.hid hm) N0 N1 D0 D1 M0 M1 G1 G2 MM _ _ hov DV (by omega) hr kne hb _ _ _ (Lib.hid fun w => valid_ok _ c hc (Lib.hid (mchk_fit hcur (by omega))) w) w
  · exact scale_n1 m num A B D _ _ mode c hc (Lib.hid hm) N0 N1 D0 D1 M0 M1 G1 G2 MM _ _ hov DV (by omega) hr kne hb _ _ _ (Lib.hid fun w => valid_ok _ c hc (Lib.hid (mchk_fit hcur (by omega))) w) w
end Go.Proofs.YtompkkanckejjaaDoor
