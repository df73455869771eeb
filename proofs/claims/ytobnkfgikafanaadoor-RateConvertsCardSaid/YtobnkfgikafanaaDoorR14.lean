/-
  CONTRACTS of rates: totals: what both functions return.
-/
import Derived.Test.YtobnkfgikafanaaDoorR13
namespace Go.Proofs.YtobnkfgikafanaaDoor
open Go.RowKit
set_option linter.unusedVariables false
set_option linter.unusedSimpArgs false
theorem small_any (f t : ByteArray) (n d : Int) (hf : f.size ≤ maxLen) (ht : t.size ≤ maxLen) {b : Bool} (HB : Hid (decide (f.size ≤ 20 ∧ t.size ≤ 20) = b)) (w : World) : Calls Tryd.prog 9 #[.agg #[.string f, .string t, .int .i64 n, .int .i64 d]] w fun x w' => x = .returned (.bool b) ∧ Pushed w w' := by
  unfold maxLen at hf ht
  by_cases h1 : f.size ≤ 20
  · by_cases h2 : t.size ≤ 20
    · have HE : Hid (true = b) := Lib.hid (by rw [← HB.out, decide_eq_true ⟨h1, h2⟩])
      have g1 : (f.size : Int) ≤ 20 := by omega
      have g2 : (t.size : Int) ≤ 20 := by omega
      clear HB
      go_enter Tryd.func9, Tryd.ntmps9
      go_wp2
      go_ret
      exact ⟨ret_bool HE.out, (by repeat (first | with_reducible exact Pushed.refl _ | with_reducible assumption | with_reducible refine Pushed.push ?_ _ | with_reducible refine Pushed.alloc ?_ _ | with_reducible refine Pushed.drewN ?_ _ | with_reducible refine Pushed.drew ?_))⟩
    · have HE : Hid (false = b) := Lib.hid (by rw [← HB.out, decide_eq_false (fun h => h2 h.2)])
      have g1 : (f.size : Int) ≤ 20 := by omega
      have g2 : ¬ (t.size : Int) ≤ 20 := by omega
      have g3 : decide ((t.size : Int) ≤ 20) = false := decide_eq_false g2
      clear HB
      go_enter Tryd.func9, Tryd.ntmps9
      go_wp2
      go_ret
      exact ⟨ret_bool (by (rw [← HE.out]) <;> first | rfl | exact g3 | (simp; done) | (simp; omega)), (by repeat (first | with_reducible exact Pushed.refl _ | with_reducible assumption | with_reducible refine Pushed.push ?_ _ | with_reducible refine Pushed.alloc ?_ _ | with_reducible refine Pushed.drewN ?_ _ | with_reducible refine Pushed.drew ?_))⟩
  · have HE : Hid (false = b) := Lib.hid (by rw [← HB.out, decide_eq_false (fun h => h1 h.1)])
    have g1 : ¬ (f.size : Int) ≤ 20 := by omega
    clear HB
    go_enter Tryd.func9, Tryd.ntmps9
    go_wp2
    go_ret
    exact ⟨ret_bool (by (rw [← HE.out]) <;> first | rfl | (simp; done) | (simp; omega)), (by repeat (first | with_reducible exact Pushed.refl _ | with_reducible assumption | with_reducible refine Pushed.push ?_ _ | with_reducible refine Pushed.alloc ?_ _ | with_reducible refine Pushed.drewN ?_ _ | with_reducible refine Pushed.drew ?_))⟩
def BothB (F G : FuncId) (args : Array Value) (v : Value) : Prop :=
  (∀ w, Pow w → 8 ≤ w.heap.size → Calls Tryd.prog F args w fun x w' => x = .returned v ∧ Below w.heap.size w w') ∧ (∀ w, Pow w → 8 ≤ w.heap.size → Calls Tryd.prog G args w fun x w' => x = .returned v ∧ Below w.heap.size w w')
def BothP (F G : FuncId) (args : Array Value) (v : Value) : Prop :=
  (∀ w, Calls Tryd.prog F args w fun x w' => x = .returned v ∧ Pushed w w') ∧ (∀ w, Calls Tryd.prog G args w fun x w' => x = .returned v ∧ Pushed w w')
theorem pb {f : FuncId} {args : Array Value} {w : World} {v : Ending} (h : Calls Tryd.prog f args w fun x w' => x = v ∧ Pushed w w') : Calls Tryd.prog f args w fun x w' => x = v ∧ Below w.heap.size w w' := h.mono fun x w' h => ⟨h.1, h.2.below⟩
theorem num_nat {n d : Int} (h : numR n d) : ∃ a b : Nat, n = a ∧ d = b ∧ 1 ≤ a ∧ 1 ≤ b ∧ a ≤ 1099511627776 ∧ b ≤ 1099511627776 := by
  obtain ⟨h1, h2, h3, h4⟩ := h
  exact ⟨n.toNat, d.toNat, by omega, by omega, by omega, by omega, by omega, by omega⟩
theorem fmt_tot (f t : ByteArray) (n d : Int) (hf : f.size ≤ 1000) (ht : t.size ≤ 1000) : ∃ s, BothB 15 16 #[.agg #[.string f, .string t, .int .i64 n, .int .i64 d]] (.string s) := by
  by_cases h : chkR f t n d = 0
  · obtain ⟨a, b, rfl, rfl, a0, b0, a1, b1⟩ := num_nat (chk_ok h).2
    exact ⟨_, fun w hT hw => fmt_ok f t a b hf ht (Lib.hid h) a1 b1 w hT hw, fun w hT hw => rfmt_ok f t a b hf ht (Lib.hid h) a1 b1 w hT hw⟩
  · exact ⟨_, fun w hT hw => pb (fmt_err f t n d (by omega) (by omega) (Lib.hid rfl) (chk_ne h) w), fun w hT hw => pb (rfmt_err f t n d (by omega) (by omega) (Lib.hid rfl) (chk_ne h) w)⟩
theorem red_tot (a b : Int) (ha : a ≤ 9223372036854775807) (hb : b ≤ 9223372036854775807) : ∃ p q, BothP 11 12 #[.int .i64 a, .int .i64 b] (.tuple #[.int .i64 p, .int .i64 q]) := by
  by_cases h : a < 1 ∨ b < 1
  · exact ⟨_, _, fun w => red_low a b h w, fun w => rred_low a b h w⟩
  · obtain ⟨x, rfl⟩ := Int.eq_ofNat_of_zero_le (show 0 ≤ a by omega)
    obtain ⟨y, rfl⟩ := Int.eq_ofNat_of_zero_le (show 0 ≤ b by omega)
    exact ⟨_, _, fun w => red_ok x y (by omega) (by omega) ha hb w, fun w => rred_ok x y (by omega) (by omega) ha hb w⟩
theorem inv_tot (f t : ByteArray) (n d : Int) (hf : f.size ≤ 1000) (ht : t.size ≤ 1000) : ∃ f' t' n' d' e, BothP 19 20 #[.agg #[.string f, .string t, .int .i64 n, .int .i64 d]] (.tuple #[.agg #[.string f', .string t', .int .i64 n', .int .i64 d'], .int .i64 e]) := by
  by_cases h : chkR f t n d = 0
  · obtain ⟨a, b, rfl, rfl, a0, b0, a1, b1⟩ := num_nat (chk_ok h).2
    exact ⟨_, _, _, _, _, fun w => inv_ok f t a b (by omega) (by omega) (Lib.hid h) a0 b0 (by omega) (by omega) w, fun w => rinv_ok f t a b (by omega) (by omega) (Lib.hid h) a0 b0 (by omega) (by omega) w⟩
  · exact ⟨_, _, _, _, _, fun w => inv_err f t n d (by omega) (by omega) (Lib.hid rfl) (chk_ne h) w, fun w => rinv_err f t n d (by omega) (by omega) (Lib.hid rfl) (chk_ne h) w⟩
theorem cross_tot (f t : ByteArray) (n d : Int) (g u : ByteArray) (k e : Int) (hf : f.size ≤ 1000) (ht : t.size ≤ 1000) (hg : g.size ≤ 1000) (hu : u.size ≤ 1000) : ∃ f' t' n' d' c, BothP 21 22 #[.agg #[.string f, .string t, .int .i64 n, .int .i64 d], .agg #[.string g, .string u, .int .i64 k, .int .i64 e]] (.tuple #[.agg #[.string f', .string t', .int .i64 n', .int .i64 d'], .int .i64 c]) := by
  by_cases h1 : chkR f t n d = 0
  case neg => exact ⟨_, _, _, _, _, fun w => cross_e1 f t n d g u k e (by omega) (by omega) (by omega) (by omega) (Lib.hid rfl) (chk_ne h1) w, fun w => rcross_e1 f t n d g u k e (by omega) (by omega) (by omega) (by omega) (Lib.hid rfl) (chk_ne h1) w⟩
  by_cases h2 : chkR g u k e = 0
  case neg => exact ⟨_, _, _, _, _, fun w => cross_e2 f t n d g u k e (by omega) (by omega) (by omega) (by omega) (Lib.hid h1) (Lib.hid rfl) (chk_ne h2) w, fun w => rcross_e2 f t n d g u k e (by omega) (by omega) (by omega) (by omega) (Lib.hid h1) (Lib.hid rfl) (chk_ne h2) w⟩
  by_cases h3 : t = g ∧ f ≠ u
  case neg => exact ⟨_, _, _, _, _, fun w => cross_e3 f t n d g u k e (by omega) (by omega) (by omega) (by omega) (Lib.hid h1) (Lib.hid h2) h3 w, fun w => rcross_e3 f t n d g u k e (by omega) (by omega) (by omega) (by omega) (Lib.hid h1) (Lib.hid h2) h3 w⟩
  obtain ⟨rfl, hfu⟩ := h3
  obtain ⟨a, b, rfl, rfl, a0, b0, a1, b1⟩ := num_nat (chk_ok h1).2
  obtain ⟨x, y, rfl, rfl, x0, y0, x1, y1⟩ := num_nat (chk_ok h2).2
  by_cases hp : prdOk a b x y
  · exact ⟨_, _, _, _, _, fun w => cross_ok f t u a b x y (by omega) (by omega) (by omega) (Lib.hid h1) (Lib.hid h2) hfu a0 b0 x0 y0 a1 b1 x1 y1 hp w, fun w => rcross_ok f t u a b x y (by omega) (by omega) (by omega) (Lib.hid h1) (Lib.hid h2) hfu a0 b0 x0 y0 a1 b1 x1 y1 hp w⟩
  · exact ⟨_, _, _, _, _, fun w => cross_bad f t u a b x y (by omega) (by omega) (by omega) (Lib.hid h1) (Lib.hid h2) hfu a0 b0 x0 y0 a1 b1 x1 y1 hp w, fun w => rcross_bad f t u a b x y (by omega) (by omega) (by omega) (Lib.hid h1) (Lib.hid h2) hfu a0 b0 x0 y0 a1 b1 x1 y1 hp w⟩
theorem mark_tot (f t : ByteArray) (n d b : Int) (hf : f.size ≤ 1000) (ht : t.size ≤ 1000) : ∃ f' t' n' d' c, BothP 23 24 #[.agg #[.string f, .string t, .int .i64 n, .int .i64 d], .int .i64 b] (.tuple #[.agg #[.string f', .string t', .int .i64 n', .int .i64 d'], .int .i64 c]) := by
  by_cases h1 : chkR f t n d = 0
  case neg => exact ⟨_, _, _, _, _, fun w => mark_e1 f t n d b (by omega) (by omega) (Lib.hid rfl) (chk_ne h1) w, fun w => rmark_e1 f t n d b (by omega) (by omega) (Lib.hid rfl) (chk_ne h1) w⟩
  by_cases h2 : -9999 ≤ b ∧ b ≤ 100000
  case neg => exact ⟨_, _, _, _, _, fun w => mark_e2 f t n d b (by omega) (by omega) (Lib.hid h1) h2 w, fun w => rmark_e2 f t n d b (by omega) (by omega) (Lib.hid h1) h2 w⟩
  obtain ⟨x, y, rfl, rfl, x0, y0, x1, y1⟩ := num_nat (chk_ok h1).2
  obtain ⟨m, hm⟩ := Int.eq_ofNat_of_zero_le (show 0 ≤ 10000 + b by omega)
  by_cases hp : prdOk x y m 10000
  · exact ⟨_, _, _, _, _, fun w => mark_ok f t x y m b (by omega) (by omega) (Lib.hid h1) hm h2.1 h2.2 x0 y0 x1 y1 hp w, fun w => rmark_ok f t x y m b (by omega) (by omega) (Lib.hid h1) hm h2.1 h2.2 x0 y0 x1 y1 hp w⟩
  · exact ⟨_, _, _, _, _, fun w => mark_bad f t x y m b (by omega) (by omega) (Lib.hid h1) hm h2.1 h2.2 x0 y0 x1 y1 hp w, fun w => rmark_bad f t x y m b (by omega) (by omega) (Lib.hid h1) hm h2.1 h2.2 x0 y0 x1 y1 hp w⟩
end Go.Proofs.YtobnkfgikafanaaDoor
