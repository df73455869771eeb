/-
  CONTRACTS of an authorization's amounts, its state and its check, the program's and the specification's.
-/
import Derived.Test.YtmigodjkenhedaaRefIdent
namespace Go.Proofs.Ytmigodjkenhedaa
open Go.RowKit
set_option linter.unusedVariables false

abbrev auV (id cur : ByteArray) (ap rv cl ex st at_ un pa : Int) : Value := .agg #[.string id, .string cur, .int .i64 ap, .int .i64 rv, .int .i64 cl, .int .i64 ex, .int .i64 st, .int .i64 at_, .int .i64 un, .int .i64 pa]

/-- An amount, or 0. -/
def okAmt (n : Int) : Bool := decide (0 ≤ n ∧ n ≤ 999999999999)
def inB (n lo hi : Int) : Bool := decide (lo ≤ n ∧ n ≤ hi)
def auState (ap rv cl ex : Int) : Int := if 0 < ap - rv - cl - ex then 1 else if 0 < ex then 4 else if 0 < cl then 2 else 3
def auCheck (i c : Bool) (ap rv cl ex st at_ un pa : Int) : Int :=
  if i = false then 5 else if c = false then 11 else
  if ap < 1 ∨ 999999999999 < ap ∨ rv < 0 ∨ 999999999999 < rv ∨ cl < 0 ∨ 999999999999 < cl ∨ ex < 0 ∨ 999999999999 < ex then 4 else
  if ap - rv - cl - ex < 0 then 26 else
  if at_ < 0 ∨ 1099511627776 < at_ ∨ un ≤ at_ ∨ 1099511627776 < un then 14 else
  if pa < 0 ∨ 8 < pa ∨ cl < pa ∨ (pa = 0 ∧ cl ≠ 0) ∨ (pa ≠ 0 ∧ cl = 0) then 4 else
  if st ≠ auState ap rv cl ex ∨ (st = 1 ∧ ex ≠ 0) then 8 else 0

theorem possible_any (n : Int) (w : World) :
    Calls Try.prog 27 #[.int .i64 n] w fun e w' => e = .returned (.bool (okAmt n)) ∧ w = w' := by
  go_enter Try.func27, Try.ntmps27
  go_wp2
  all_goals go_ret
  all_goals exact ⟨ret_bool (by unfold okAmt; rw [Bool.eq_iff_iff]; simp; omega), rfl⟩
theorem within_any (n lo hi : Int) (w : World) :
    Calls Try.prog 31 #[.int .i64 n, .int .i64 lo, .int .i64 hi] w fun e w' => e = .returned (.bool (inB n lo hi)) ∧ w = w' := by
  go_enter Try.func31, Try.ntmps31
  go_wp2
  all_goals go_ret
  all_goals exact ⟨ret_bool (by unfold inB; rw [Bool.eq_iff_iff]; simp; omega), rfl⟩
theorem left_any (id cur : ByteArray) (ap rv cl ex st at_ un pa : Int) (w : World) (ha : 0 ≤ ap ∧ ap ≤ 9999999999999) (hr : 0 ≤ rv ∧ rv ≤ 9999999999999) (hc : 0 ≤ cl ∧ cl ≤ 9999999999999) (he : 0 ≤ ex ∧ ex ≤ 9999999999999) :
    Calls Try.prog 21 #[auV id cur ap rv cl ex st at_ un pa] w fun e w' => e = .returned (.int .i64 (ap - rv - cl - ex)) ∧ w.alloc (.cells #[.string id, .string cur, .int .i64 ap, .int .i64 rv, .int .i64 cl, .int .i64 ex, .int .i64 st, .int .i64 at_, .int .i64 un, .int .i64 pa] 24) = w' := by
  go_enter Try.func21, Try.ntmps21
  go_wp2
  go_ret
  exact ⟨rfl, rfl⟩
set_option maxHeartbeats 400000 in
theorem refstate_any (id cur : ByteArray) (ap rv cl ex st at_ un pa : Int) (w : World) (ha : 0 ≤ ap ∧ ap ≤ 9999999999999) (hr : 0 ≤ rv ∧ rv ≤ 9999999999999) (hc : 0 ≤ cl ∧ cl ≤ 9999999999999) (he : 0 ≤ ex ∧ ex ≤ 9999999999999) :
    Calls Try.prog 32 #[auV id cur ap rv cl ex st at_ un pa] w fun e w' => e = .returned (.int .i64 (auState ap rv cl ex)) ∧ Pushed w w' := by
  go_enter Try.func32, Try.ntmps32
  go_wp2
  all_goals go_ret
  all_goals exact ⟨ret_int (by unfold auState; (repeat' split) <;> first | rfl | omega), (Pushed.refl _).alloc _⟩
set_option maxHeartbeats 400000 in
theorem settled_any (id cur : ByteArray) (ap rv cl ex st at_ un pa : Int) (w : World) (ha : 0 ≤ ap ∧ ap ≤ 9999999999999) (hr : 0 ≤ rv ∧ rv ≤ 9999999999999) (hc : 0 ≤ cl ∧ cl ≤ 9999999999999) (he : 0 ≤ ex ∧ ex ≤ 9999999999999) :
    Calls Try.prog 28 #[auV id cur ap rv cl ex st at_ un pa] w fun e w' => e = .returned (auV id cur ap rv cl ex (auState ap rv cl ex) at_ un pa) ∧ Pushed w w' := by
  go_enter Try.func28, Try.ntmps28
  go_wp2_with (go_at_call 21; refine (left_any _ _ _ _ _ _ _ _ _ _ _ ha hr hc he).mono ?_; rintro e w1 ⟨rfl, rfl⟩)
  all_goals exact bodyPost_ret (v := auV id cur ap rv cl ex (auState ap rv cl ex) at_ un pa) (by simp only [auState]; (repeat' split) <;> first | omega | simp [results, Try.results28, go_sem]) rfl ⟨rfl, (((Pushed.refl _).alloc _).alloc _).alloc _⟩

section
variable (id cur : ByteArray) (ap rv cl ex st at_ un pa : Int) (w : World)
theorem check_name (hi : id.size ≤ maxLen) (h : identB id.data.toList 16 = false) :
    Calls Try.prog 12 #[auV id cur ap rv cl ex st at_ un pa] w fun e w' => e = .returned (.int .i64 5) ∧ Pushed w w' := by
  go_enter Try.func12, Try.ntmps12
  go_wp2_with (go_at_call 25; refine (ident_any _ hi _ _).mono ?_; rintro e w1 ⟨rfl, rfl⟩)
  go_ret
  exact ⟨rfl, (Pushed.refl _).alloc _⟩
theorem check_cur (hi : id.size ≤ maxLen) (hc : cur.size ≤ maxLen) (h : identB id.data.toList 16 = true) (h2 : curB cur.data.toList = false) :
    Calls Try.prog 12 #[auV id cur ap rv cl ex st at_ un pa] w fun e w' => e = .returned (.int .i64 11) ∧ Pushed w w' := by
  go_enter Try.func12, Try.ntmps12
  go_wp2_with (first | (go_at_call 25; refine (ident_any _ hi _ _).mono ?_; rintro e w1 ⟨rfl, rfl⟩) | (go_at_call 26; refine (currency_any _ hc _).mono ?_; rintro e w1 ⟨rfl, rfl⟩))
  go_ret
  exact ⟨rfl, (Pushed.refl _).alloc _⟩
end
end Go.Proofs.Ytmigodjkenhedaa
