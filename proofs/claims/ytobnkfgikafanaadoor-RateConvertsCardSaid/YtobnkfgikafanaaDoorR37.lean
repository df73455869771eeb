/-
  CONTRACTS of rates: Scale and Convert, the program's and the specification's, for every amount, rate and mode.
-/
import Derived.Test.YtobnkfgikafanaaDoorR36
import Derived.Test.YtobnkfgikafanaaDoorD1
namespace Go.Proofs.YtobnkfgikafanaaDoor
open Go.RowKit
set_option linter.unusedVariables false
set_option linter.unusedSimpArgs false
theorem bcell {W w1 : World} (hb : Below W.heap.size W w1) : (∀ b o, b < W.heap.size → w1.cell? ⟨b, o, none⟩ = W.cell? ⟨b, o, none⟩) ∧ (∀ b o, b < W.heap.size → w1.frozen? ⟨b, o, none⟩ = W.frozen? ⟨b, o, none⟩) :=
  ⟨fun b o h => hb.cell (p := ⟨b, o, none⟩) h, fun b o h => hb.frozen (p := ⟨b, o, none⟩) h⟩
def BothM (F G : FuncId) (args : Array Value) (v : Value) : Prop :=
  (∀ w, Calls Tryd.prog F args w fun x w' => x = .returned v ∧ Pushed w w') ∧ (∀ w, Calls Tryd.prog G args w fun x w' => x = .returned v ∧ Below w.heap.size w w')
/-- What both say of a scaled amount: the amount, or an error. -/
def ScaleSame (args : Array Value) (c : ByteArray) : Prop :=
  (∃ y : Int, BothM 35 37 args (.tuple #[.agg #[.int .i64 y, .string c], .int .i64 0])) ∨ (∃ e : Int, (e != 0) = true ∧ BothM 35 37 args (.tuple #[.agg #[.int .i64 0, .string ⟨#[]⟩], .int .i64 e]))
theorem div64_any (p y : Nat) (h0 : 1 ≤ y) (hy : y < 9223372036854775808) (hh : ¬ y ≤ p / 18446744073709551616) (w : World) : Calls Tryd.prog 47 #[.int .u64 ((p / 18446744073709551616 : Nat) : Int), .int .u64 ((p % 18446744073709551616 : Nat) : Int), .int .u64 (y : Int)] w fun x w' => x = .returned (.tuple #[.int .u64 ((p / y : Nat) : Int), .int .u64 ((p % y : Nat) : Int)]) ∧ Pushed w w' := by
  by_cases hz : p / 18446744073709551616 = 0
  · rw [hz]
    have e : p % 18446744073709551616 = p := by omega
    rw [e]
    exact div64_wide p y h0 (by omega) w
  · have h := div64_high (p / 18446744073709551616) (p % 18446744073709551616) y (by omega) (by omega) hy (Nat.mod_lt _ (by omega)) w
    have e : p / 18446744073709551616 * 18446744073709551616 + p % 18446744073709551616 = p := by omega
    rw [e] at h
    exact h
theorem mchk_curP {m : Int} {c : ByteArray} (h : mchkR m c = 0) : curP c ∧ -4503599627370496 ≤ m ∧ m ≤ 4503599627370496 := by
  unfold mchkR at h
  split at h
  · split at h
    · rename_i a b; exact ⟨a, b⟩
    · omega
  · omega
theorem mchk_big {m : Int} {c : ByteArray} (h : curP c) (hm : ¬ (-4503599627370496 ≤ m ∧ m ≤ 4503599627370496)) : mchkR m c = 4 := by rw [mchkR, if_pos h, if_neg hm]
theorem mchk_fit {m : Int} {c : ByteArray} (h : curP c) (hm : -4503599627370496 ≤ m ∧ m ≤ 4503599627370496) : mchkR m c = 0 := by rw [mchkR, if_pos h, if_pos hm]
theorem over_big (p D M lim : Nat) (hM : lim < M) (D0 : 1 ≤ D) (h : D ≤ p / M) : lim < p / D := by
  have h1 : D * M ≤ p := (Nat.le_div_iff_mul_le (by omega)).1 h
  have h3 : M ≤ p / D := by
    rw [Nat.le_div_iff_mul_le (by omega), Nat.mul_comm]
    exact h1
  omega
theorem qlim_big {A N D : Nat} {mode : Int} (h : 4503599627370496 < A * N / D) : 4503599627370496 < rndR (qLim A N D 4503599627370496) (A * N % D) D mode := by
  have e : qLim A N D 4503599627370496 = 4503599627370496 + 1 := by
    unfold qLim
    exact if_neg (by omega)
  unfold rndR
  rw [e]
  split <;> omega
theorem qlim_fit {A N D : Nat} (h : A * N / D ≤ 4503599627370496) : qLim A N D 4503599627370496 = A * N / D := by
  unfold qLim
  rw [if_pos h]
theorem scale_same (m : Int) (c : ByteArray) (N D : Nat) (mode : Int) (hc : c.size ≤ 1000000) (N0 : 1 ≤ N) (N1 : N ≤ 1099511627776) (D0 : 1 ≤ D) (D1 : D ≤ 1099511627776) (hm : mchkR m c = 0) : ScaleSame #[.agg #[.int .i64 m, .string c], .int .i64 (N : Int), .int .i64 (D : Int), .int .i64 mode] c := by
  by_cases m0 : mode < 1
  · exact Or.inr ⟨4, rfl, fun w => scale_mode0 m N D mode c hc (Lib.hid hm) N0 N1 D0 D1 m0 w, fun w => rscale_mode0 m c N D mode hc N0 N1 D0 D1 (Lib.hid hm) m0 w⟩
  by_cases m1 : 4 < mode
  · exact Or.inr ⟨4, rfl, fun w => scale_mode1 m N D mode c hc (Lib.hid hm) N0 N1 D0 D1 m1 w, fun w => rscale_mode1 m c N D mode hc N0 N1 D0 D1 (Lib.hid hm) m1 w⟩
  obtain ⟨hcur, hlo, hhi⟩ := mchk_curP hm
  have key : ∀ A : Nat, A ≤ 4503599627370496 → (m = (A : Int) ∨ (m = -(A : Int) ∧ 1 ≤ A)) → ScaleSame #[.agg #[.int .i64 m, .string c], .int .i64 (N : Int), .int .i64 (D : Int), .int .i64 mode] c := by
    intro A hA hs
    have G1 : Hid (∀ w, Calls Tryd.prog 46 #[.int .i64 m] w fun x w' => x = .returned (.int .u64 (A : Int)) ∧ Pushed w w') := by
      rcases hs with rfl | ⟨rfl, h1⟩
      · exact Lib.hid fun w => mag_pos A (by omega) w
      · exact Lib.hid fun w => mag_neg A h1 (by omega) w
    have MM : Hid (∀ w, Calls Tryd.prog 45 #[.int .u64 (A : Int), .int .u64 (N : Int)] w fun x w' => x = .returned (.tuple #[.int .u64 ((A * N / 18446744073709551616 : Nat) : Int), .int .u64 ((A * N % 18446744073709551616 : Nat) : Int)]) ∧ Pushed w w') := Lib.hid fun w => (Tryd.bits_Mul64 A N (by omega) (by omega) w).mono fun x w' h' => by
      obtain ⟨rfl, rfl⟩ := h'
      exact ⟨rfl, Pushed.refl _⟩
    by_cases hov : D ≤ A * N / 18446744073709551616
    · have hbig := over_big (A * N) D _ 4503599627370496 (by decide) D0 hov
      refine Or.inr ⟨4, rfl, fun w => scale_over m A N D _ _ mode c hc (Lib.hid hm) N0 N1 D0 D1 (by omega) (by omega) G1 MM hov w, fun w => ?_⟩
      rcases hs with rfl | ⟨rfl, h1⟩
      · exact rscale_bigp A c N D mode hA hc N0 N1 D0 D1 (Lib.hid hm) ⟨by omega, by omega⟩ (qlim_big hbig) w
      · exact rscale_bign A c N D mode hA h1 hc N0 N1 D0 D1 (Lib.hid hm) ⟨by omega, by omega⟩ (qlim_big hbig) w
    have DV := Lib.hid fun w => div64_any (A * N) D D0 (by omega) hov w
    have hrl : A * N % D < D := Nat.mod_lt _ (by omega)
    by_cases hbig : 4503599627370496 < A * N / D
    · refine Or.inr ⟨4, rfl, fun w => scale_qbig m A N D _ _ mode c hc (Lib.hid hm) N0 N1 D0 D1 (by omega) (by omega) G1 MM _ _ hov DV hbig w, fun w => ?_⟩
      rcases hs with rfl | ⟨rfl, h1⟩
      · exact rscale_bigp A c N D mode hA hc N0 N1 D0 D1 (Lib.hid hm) ⟨by omega, by omega⟩ (qlim_big hbig) w
      · exact rscale_bign A c N D mode hA h1 hc N0 N1 D0 D1 (Lib.hid hm) ⟨by omega, by omega⟩ (qlim_big hbig) w
    have hq : A * N / D ≤ 4503599627370496 := by omega
    have el := qlim_fit hq
    cases hb : upB (A * N / D) (A * N % D) D mode with
    | false =>
      have er : rndR (qLim A N D 4503599627370496) (A * N % D) D mode = A * N / D := by rw [el]; unfold rndR; rw [hb]; rfl
      rcases hs with rfl | ⟨rfl, h1⟩
      · refine Or.inl ⟨((A * N / D : Nat) : Int), fun w => scale_p0 _ A N D _ _ mode c hc (Lib.hid hm) N0 N1 D0 D1 (by omega) (by omega) G1 MM _ _ hov DV hq hrl (by omega) hb _ _ _ (Lib.hid fun w => valid_ok _ c hc (Lib.hid (mchk_fit hcur (by omega))) w) w, fun w => ?_⟩
        have := rscale_okp A c N D mode hA hc N0 N1 D0 D1 (Lib.hid hm) ⟨by omega, by omega⟩ (by rw [er]; exact hq) w
        rw [er] at this
        exact this
      · refine Or.inl ⟨-((A * N / D : Nat) : Int), fun w => scale_n0 _ A N D _ _ mode c hc (Lib.hid hm) N0 N1 D0 D1 (by omega) (by omega) G1 MM _ _ hov DV hq hrl (by omega) hb _ _ _ (Lib.hid fun w => valid_ok _ c hc (Lib.hid (mchk_fit hcur (by omega))) w) w, fun w => ?_⟩
        have := rscale_okn A c N D mode hA h1 hc N0 N1 D0 D1 (Lib.hid hm) ⟨by omega, by omega⟩ (by rw [er]; exact hq) w
        rw [er] at this
        exact this
    | true =>
      have er : rndR (qLim A N D 4503599627370496) (A * N % D) D mode = A * N / D + 1 := by rw [el]; unfold rndR; rw [hb]; rfl
      by_cases hq1 : A * N / D + 1 ≤ 4503599627370496
      · rcases hs with rfl | ⟨rfl, h1⟩
        · refine Or.inl ⟨((A * N / D : Nat) : Int) + 1, fun w => scale_p1 _ A N D _ _ mode c hc (Lib.hid hm) N0 N1 D0 D1 (by omega) (by omega) G1 MM _ _ hov DV hq hrl (by omega) hb _ _ _ (Lib.hid fun w => valid_ok _ c hc (Lib.hid (mchk_fit hcur (by omega))) w) w, fun w => ?_⟩
          have := rscale_okp A c N D mode hA hc N0 N1 D0 D1 (Lib.hid hm) ⟨by omega, by omega⟩ (by rw [er]; exact hq1) w
          rw [er] at this
          exact this
        · refine Or.inl ⟨-(((A * N / D : Nat) : Int) + 1), fun w => scale_n1 _ A N D _ _ mode c hc (Lib.hid hm) N0 N1 D0 D1 (by omega) (by omega) G1 MM _ _ hov DV hq hrl (by omega) hb _ _ _ (Lib.hid fun w => valid_ok _ c hc (Lib.hid (mchk_fit hcur (by omega))) w) w, fun w => ?_⟩
          have := rscale_okn A c N D mode hA h1 hc N0 N1 D0 D1 (Lib.hid hm) ⟨by omega, by omega⟩ (by rw [er]; exact hq1) w
          rw [er] at this
          exact this
      · rcases hs with rfl | ⟨rfl, h1⟩
        · refine Or.inr ⟨4, rfl, fun w => scale_p1 _ A N D _ _ mode c hc (Lib.hid hm) N0 N1 D0 D1 (by omega) (by omega) G1 MM _ _ hov DV hq hrl (by omega) hb _ _ _ (Lib.hid fun w => valid_err _ c hc (Lib.hid (mchk_big hcur (by omega))) rfl w) w, fun w => ?_⟩
          exact rscale_bigp A c N D mode hA hc N0 N1 D0 D1 (Lib.hid hm) ⟨by omega, by omega⟩ (by rw [er]; omega) w
        · refine Or.inr ⟨4, rfl, fun w => scale_n1 _ A N D _ _ mode c hc (Lib.hid hm) N0 N1 D0 D1 (by omega) (by omega) G1 MM _ _ hov DV hq hrl (by omega) hb _ _ _ (Lib.hid fun w => valid_err _ c hc (Lib.hid (mchk_big hcur (by omega))) rfl w) w, fun w => ?_⟩
          exact rscale_bign A c N D mode hA h1 hc N0 N1 D0 D1 (Lib.hid hm) ⟨by omega, by omega⟩ (by rw [er]; omega) w
  by_cases hs : 0 ≤ m
  · exact key m.toNat (by omega) (Or.inl (by omega))
  · exact key (-m).toNat (by omega) (Or.inr ⟨by omega, by omega⟩)
theorem conv_tot (m : Int) (c f t : ByteArray) (n d mode : Int) (hc : c.size ≤ 1000) (hf : f.size ≤ 1000) (ht : t.size ≤ 1000) : ∃ (y : Int) (u : ByteArray) (e : Int), BothM 17 18 #[.agg #[.int .i64 m, .string c], .agg #[.string f, .string t, .int .i64 n, .int .i64 d], .int .i64 mode] (.tuple #[.agg #[.int .i64 y, .string u], .int .i64 e]) := by
  by_cases hm : mchkR m c = 0
  case neg => exact ⟨0, ⟨#[]⟩, _, fun w => conv_e1 m c f t n d mode (by omega) (by omega) (by omega) (Lib.hid rfl) (by simp [hm]) w, fun w => pb (rconv_e1 m c f t n d mode (by omega) (by omega) (by omega) (Lib.hid rfl) (by simp [hm]) w)⟩
  by_cases hk : chkR f t n d = 0
  case neg => exact ⟨0, ⟨#[]⟩, _, fun w => conv_e2 m c f t n d mode (by omega) (by omega) (by omega) (Lib.hid hm) (Lib.hid rfl) (chk_ne hk) w, fun w => pb (rconv_e2 m c f t n d mode (by omega) (by omega) (by omega) (Lib.hid hm) (Lib.hid rfl) (chk_ne hk) w)⟩
  by_cases hcf : c = f
  case neg => exact ⟨0, ⟨#[]⟩, _, fun w => conv_e3 m c f t n d mode (by omega) (by omega) (by omega) (Lib.hid hm) (Lib.hid hk) hcf w, fun w => pb (rconv_e3 m c f t n d mode (by omega) (by omega) (by omega) (Lib.hid hm) (Lib.hid hk) hcf w)⟩
  subst hcf
  obtain ⟨N, D, rfl, rfl, N0, D0, N1, D1⟩ := num_nat (chk_ok hk).2
  rcases scale_same m c N D mode (by omega) N0 N1 D0 D1 hm with ⟨y, h1, h2⟩ | ⟨e, he, h1, h2⟩
  · exact ⟨y, t, 0, fun w => conv_ok m c t _ _ mode (by omega) (by omega) (Lib.hid hm) (Lib.hid hk) (Lib.hid h1) w, fun w => rconv_ok m c t _ _ mode (by omega) (by omega) (Lib.hid hm) (Lib.hid hk) (Lib.hid h2) w⟩
  · exact ⟨0, ⟨#[]⟩, e, fun w => conv_e4 m c t _ _ mode (by omega) (by omega) (Lib.hid hm) (Lib.hid hk) he (Lib.hid h1) w, fun w => rconv_e4 m c t _ _ mode (by omega) (by omega) (Lib.hid hm) (Lib.hid hk) he (Lib.hid h2) w⟩
end Go.Proofs.YtobnkfgikafanaaDoor
