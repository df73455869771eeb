/-
  CONTRACTS of rates: Check.
-/
import Derived.Test.YtobnkfgikafanaaDoorR2
namespace Go.Proofs.YtobnkfgikafanaaDoor
open Go.RowKit
set_option linter.unusedVariables false
set_option linter.unusedSimpArgs false
def rateV (f t : ByteArray) (n d : Int) : Value := .agg #[.string f, .string t, .int .i64 n, .int .i64 d]
def curR (f t : ByteArray) : Prop := curP f ∧ curP t ∧ f ≠ t
def numR (n d : Int) : Prop := 1 ≤ n ∧ n ≤ 1099511627776 ∧ 1 ≤ d ∧ d ≤ 1099511627776
instance (f t : ByteArray) : Decidable (curR f t) := by unfold curR; exact inferInstance
instance (n d : Int) : Decidable (numR n d) := by unfold numR; exact inferInstance
theorem str_ne {f t : ByteArray} (h : f ≠ t) : (f.toList == t.toList) = false := by
  rw [beq_eq_false_iff_ne]
  intro he
  rw [ByteArray.toList_eq, ByteArray.toList_eq] at he
  exact h (ByteArray.ext (Array.ext' he))
def chkR (f t : ByteArray) (n d : Int) : Int := if curR f t then (if numR n d then 0 else 4) else 11
set_option maxRecDepth 8000 in
set_option maxHeartbeats 3200000 in
theorem chk_any (f t : ByteArray) (n d : Int) (hf : f.size ≤ 1000000) (ht : t.size ≤ 1000000) {e : Int} (H : Hid (chkR f t n d = e)) (w : World) : Calls Tryd.prog 13 #[.agg #[.string f, .string t, .int .i64 n, .int .i64 d]] w fun x w' => x = .returned (.int .i64 e) ∧ Pushed w w' := by
  by_cases hcf : curP f
  case neg =>
    have HE : Hid (11 = e) := Lib.hid (by rw [← H.out, chkR, if_neg (fun h => hcf h.1)])
    have A := Lib.hid (fun w => cur_no f hf hcf w)
    have B := A
    clear hcf H
    go_enter Tryd.func13, Tryd.ntmps13
    go_wp2_with (first | (go_at_call 31; with_reducible refine (A.out _).mono ?_; rintro x w' ⟨rfl, rfl⟩) | (go_at_call 31; with_reducible refine (B.out _).mono ?_; rintro x w' ⟨rfl, rfl⟩))
    go_ret
    exact ⟨ret_int HE.out, (Pushed.refl _).alloc _⟩
  by_cases hct : curP t
  case neg =>
    have HE : Hid (11 = e) := Lib.hid (by rw [← H.out, chkR, if_neg (fun h => hct h.2.1)])
    have A := Lib.hid (fun w => cur_yes f hcf w)
    have B := Lib.hid (fun w => cur_no t ht hct w)
    clear hcf hct H
    go_enter Tryd.func13, Tryd.ntmps13
    go_wp2_with (first | (go_at_call 31; with_reducible refine (A.out _).mono ?_; rintro x w' ⟨rfl, rfl⟩) | (go_at_call 31; with_reducible refine (B.out _).mono ?_; rintro x w' ⟨rfl, rfl⟩))
    go_ret
    exact ⟨ret_int HE.out, (Pushed.refl _).alloc _⟩
  have A := Lib.hid (fun w => cur_yes f hcf w)
  have B := Lib.hid (fun w => cur_yes t hct w)
  by_cases hft : f = t
  case pos =>
    have HE : Hid (11 = e) := Lib.hid (by rw [← H.out, chkR, if_neg (fun h => h.2.2 hft)])
    subst hft
    clear hcf hct H
    go_enter Tryd.func13, Tryd.ntmps13
    go_wp2_with (first | (go_at_call 31; with_reducible refine (A.out _).mono ?_; rintro x w' ⟨rfl, rfl⟩) | (go_at_call 31; with_reducible refine (B.out _).mono ?_; rintro x w' ⟨rfl, rfl⟩))
    go_ret
    exact ⟨ret_int HE.out, (Pushed.refl _).alloc _⟩
  have hc : curR f t := ⟨hcf, hct, hft⟩
  have hfe := str_ne hft
  clear hcf hct hft
  by_cases g0 : 1 ≤ n
  case neg =>
    have HE : Hid (4 = e) := Lib.hid (by rw [← H.out, chkR, if_pos hc, if_neg (fun h => g0 h.1)])
    clear hc H
    go_enter Tryd.func13, Tryd.ntmps13
    go_wp2_with (first | (go_at_call 31; with_reducible refine (A.out _).mono ?_; rintro x w' ⟨rfl, rfl⟩) | (go_at_call 31; with_reducible refine (B.out _).mono ?_; rintro x w' ⟨rfl, rfl⟩))
    go_ret
    exact ⟨ret_int HE.out, (Pushed.refl _).alloc _⟩
  by_cases g1 : n ≤ 1099511627776
  case neg =>
    have HE : Hid (4 = e) := Lib.hid (by rw [← H.out, chkR, if_pos hc, if_neg (fun h => g1 h.2.1)])
    clear hc H
    go_enter Tryd.func13, Tryd.ntmps13
    go_wp2_with (first | (go_at_call 31; with_reducible refine (A.out _).mono ?_; rintro x w' ⟨rfl, rfl⟩) | (go_at_call 31; with_reducible refine (B.out _).mono ?_; rintro x w' ⟨rfl, rfl⟩))
    go_ret
    exact ⟨ret_int HE.out, (Pushed.refl _).alloc _⟩
  by_cases g2 : 1 ≤ d
  case neg =>
    have HE : Hid (4 = e) := Lib.hid (by rw [← H.out, chkR, if_pos hc, if_neg (fun h => g2 h.2.2.1)])
    clear hc H
    go_enter Tryd.func13, Tryd.ntmps13
    go_wp2_with (first | (go_at_call 31; with_reducible refine (A.out _).mono ?_; rintro x w' ⟨rfl, rfl⟩) | (go_at_call 31; with_reducible refine (B.out _).mono ?_; rintro x w' ⟨rfl, rfl⟩))
    go_ret
    exact ⟨ret_int HE.out, (Pushed.refl _).alloc _⟩
  by_cases g3 : d ≤ 1099511627776
  case neg =>
    have HE : Hid (4 = e) := Lib.hid (by rw [← H.out, chkR, if_pos hc, if_neg (fun h => g3 h.2.2.2)])
    clear hc H
    go_enter Tryd.func13, Tryd.ntmps13
    go_wp2_with (first | (go_at_call 31; with_reducible refine (A.out _).mono ?_; rintro x w' ⟨rfl, rfl⟩) | (go_at_call 31; with_reducible refine (B.out _).mono ?_; rintro x w' ⟨rfl, rfl⟩))
    go_ret
    exact ⟨ret_int HE.out, (Pushed.refl _).alloc _⟩
  have HE : Hid (0 = e) := Lib.hid (by rw [← H.out, chkR, if_pos hc, if_pos ⟨g0, g1, g2, g3⟩])
  clear hc H
  go_enter Tryd.func13, Tryd.ntmps13
  go_wp2_with (first | (go_at_call 31; with_reducible refine (A.out _).mono ?_; rintro x w' ⟨rfl, rfl⟩) | (go_at_call 31; with_reducible refine (B.out _).mono ?_; rintro x w' ⟨rfl, rfl⟩))
  go_ret
  exact ⟨ret_int HE.out, (Pushed.refl _).alloc _⟩
set_option maxRecDepth 8000 in
set_option maxHeartbeats 3200000 in
theorem rchk_any (f t : ByteArray) (n d : Int) (hf : f.size ≤ 1000000) (ht : t.size ≤ 1000000) {e : Int} (H : Hid (chkR f t n d = e)) (w : World) : Calls Tryd.prog 14 #[.agg #[.string f, .string t, .int .i64 n, .int .i64 d]] w fun x w' => x = .returned (.int .i64 e) ∧ Pushed w w' := by
  by_cases hcf : curP f
  case neg =>
    have HE : Hid (11 = e) := Lib.hid (by rw [← H.out, chkR, if_neg (fun h => hcf h.1)])
    have A := Lib.hid (fun w => rcur_no f hf hcf w)
    have B := A
    clear hcf H
    go_enter Tryd.func14, Tryd.ntmps14
    go_wp2_with (first | (go_at_call 32; with_reducible refine (A.out _).mono ?_; rintro x w' ⟨rfl, rfl⟩) | (go_at_call 32; with_reducible refine (B.out _).mono ?_; rintro x w' ⟨rfl, rfl⟩))
    go_ret
    exact ⟨ret_int HE.out, (Pushed.refl _).alloc _⟩
  by_cases hct : curP t
  case neg =>
    have HE : Hid (11 = e) := Lib.hid (by rw [← H.out, chkR, if_neg (fun h => hct h.2.1)])
    have A := Lib.hid (fun w => rcur_yes f hcf w)
    have B := Lib.hid (fun w => rcur_no t ht hct w)
    clear hcf hct H
    go_enter Tryd.func14, Tryd.ntmps14
    go_wp2_with (first | (go_at_call 32; with_reducible refine (A.out _).mono ?_; rintro x w' ⟨rfl, rfl⟩) | (go_at_call 32; with_reducible refine (B.out _).mono ?_; rintro x w' ⟨rfl, rfl⟩))
    go_ret
    exact ⟨ret_int HE.out, (Pushed.refl _).alloc _⟩
  have A := Lib.hid (fun w => rcur_yes f hcf w)
  have B := Lib.hid (fun w => rcur_yes t hct w)
  by_cases hft : f = t
  case pos =>
    have HE : Hid (11 = e) := Lib.hid (by rw [← H.out, chkR, if_neg (fun h => h.2.2 hft)])
    subst hft
    clear hcf hct H
    go_enter Tryd.func14, Tryd.ntmps14
    go_wp2_with (first | (go_at_call 32; with_reducible refine (A.out _).mono ?_; rintro x w' ⟨rfl, rfl⟩) | (go_at_call 32; with_reducible refine (B.out _).mono ?_; rintro x w' ⟨rfl, rfl⟩))
    go_ret
    exact ⟨ret_int HE.out, (Pushed.refl _).alloc _⟩
  have hc : curR f t := ⟨hcf, hct, hft⟩
  have hfe := str_ne hft
  clear hcf hct hft
  by_cases g0 : 1 ≤ n
  case neg =>
    have HE : Hid (4 = e) := Lib.hid (by rw [← H.out, chkR, if_pos hc, if_neg (fun h => g0 h.1)])
    clear hc H
    go_enter Tryd.func14, Tryd.ntmps14
    go_wp2_with (first | (go_at_call 32; with_reducible refine (A.out _).mono ?_; rintro x w' ⟨rfl, rfl⟩) | (go_at_call 32; with_reducible refine (B.out _).mono ?_; rintro x w' ⟨rfl, rfl⟩))
    go_ret
    exact ⟨ret_int HE.out, (Pushed.refl _).alloc _⟩
  by_cases g1 : n ≤ 1099511627776
  case neg =>
    have HE : Hid (4 = e) := Lib.hid (by rw [← H.out, chkR, if_pos hc, if_neg (fun h => g1 h.2.1)])
    clear hc H
    go_enter Tryd.func14, Tryd.ntmps14
    go_wp2_with (first | (go_at_call 32; with_reducible refine (A.out _).mono ?_; rintro x w' ⟨rfl, rfl⟩) | (go_at_call 32; with_reducible refine (B.out _).mono ?_; rintro x w' ⟨rfl, rfl⟩))
    go_ret
    exact ⟨ret_int HE.out, (Pushed.refl _).alloc _⟩
  by_cases g2 : 1 ≤ d
  case neg =>
    have HE : Hid (4 = e) := Lib.hid (by rw [← H.out, chkR, if_pos hc, if_neg (fun h => g2 h.2.2.1)])
    clear hc H
    go_enter Tryd.func14, Tryd.ntmps14
    go_wp2_with (first | (go_at_call 32; with_reducible refine (A.out _).mono ?_; rintro x w' ⟨rfl, rfl⟩) | (go_at_call 32; with_reducible refine (B.out _).mono ?_; rintro x w' ⟨rfl, rfl⟩))
    go_ret
    exact ⟨ret_int HE.out, (Pushed.refl _).alloc _⟩
  by_cases g3 : d ≤ 1099511627776
  case neg =>
    have HE : Hid (4 = e) := Lib.hid (by rw [← H.out, chkR, if_pos hc, if_neg (fun h => g3 h.2.2.2)])
    clear hc H
    go_enter Tryd.func14, Tryd.ntmps14
    go_wp2_with (first | (go_at_call 32; with_reducible refine (A.out _).mono ?_; rintro x w' ⟨rfl, rfl⟩) | (go_at_call 32; with_reducible refine (B.out _).mono ?_; rintro x w' ⟨rfl, rfl⟩))
    go_ret
    exact ⟨ret_int HE.out, (Pushed.refl _).alloc _⟩
  have HE : Hid (0 = e) := Lib.hid (by rw [← H.out, chkR, if_pos hc, if_pos ⟨g0, g1, g2, g3⟩])
  clear hc H
  go_enter Tryd.func14, Tryd.ntmps14
  go_wp2_with (first | (go_at_call 32; with_reducible refine (A.out _).mono ?_; rintro x w' ⟨rfl, rfl⟩) | (go_at_call 32; with_reducible refine (B.out _).mono ?_; rintro x w' ⟨rfl, rfl⟩))
  go_ret
  exact ⟨ret_int HE.out, (Pushed.refl _).alloc _⟩
end Go.Proofs.YtobnkfgikafanaaDoor
