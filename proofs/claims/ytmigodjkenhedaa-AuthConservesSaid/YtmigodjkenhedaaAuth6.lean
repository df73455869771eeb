/-
  CONTRACTS of the program's calls on an authorization: Open, New, Raise, Reverse, Clear, Expire: each by a plain function of the fields.
-/
import Derived.Test.YtmigodjkenhedaaAuth3
namespace Go.Proofs.Ytmigodjkenhedaa
open Go.RowKit
set_option linter.unusedVariables false

/-- What a call on an authorization gives: the authorization, two amounts, the error. -/
structure AuR where
  id : ByteArray
  cur : ByteArray
  ap : Int
  rv : Int
  cl : Int
  ex : Int
  st : Int
  at_ : Int
  un : Int
  pa : Int
  n1 : Int
  n2 : Int
  err : Int
abbrev AuR.v (r : AuR) : Value := auV r.id r.cur r.ap r.rv r.cl r.ex r.st r.at_ r.un r.pa
def AuR.bad (e : Int) : AuR := ⟨⟨#[]⟩, ⟨#[]⟩, 0, 0, 0, 0, 0, 0, 0, 0, 0, 0, e⟩
def openE (c st : Int) : Int := if c ≠ 0 then c else if st ≠ 1 then 8 else 0
/-- What holds of the numbers of an authorization that passes the check. -/
structure AuOk (ap rv cl ex st at_ un pa : Int) : Prop where
  k_ap : 1 ≤ ap ∧ ap ≤ 999999999999
  k_rv : 0 ≤ rv ∧ rv ≤ 999999999999
  k_cl : 0 ≤ cl ∧ cl ≤ 999999999999
  k_ex : 0 ≤ ex ∧ ex ≤ 999999999999
  k_left : 0 ≤ ap - rv - cl - ex
  k_time : 0 ≤ at_ ∧ at_ ≤ 1099511627776 ∧ at_ < un ∧ un ≤ 1099511627776
  k_parts : 0 ≤ pa ∧ pa ≤ 8 ∧ pa ≤ cl ∧ (pa = 0 ∧ cl = 0 ∨ pa ≠ 0 ∧ cl ≠ 0)
  k_state : st = auState ap rv cl ex
  k_open_ : st = 1 → ex = 0
theorem auCheck_zero {i c : Bool} {ap rv cl ex st at_ un pa : Int} : auCheck i c ap rv cl ex st at_ un pa = 0 ↔ i = true ∧ c = true ∧ AuOk ap rv cl ex st at_ un pa := by
  unfold auCheck
  constructor
  · intro h
    cases i <;> simp at h
    cases c <;> simp at h
    by_cases h1 : ap < 1 ∨ 999999999999 < ap ∨ rv < 0 ∨ 999999999999 < rv ∨ cl < 0 ∨ 999999999999 < cl ∨ ex < 0 ∨ 999999999999 < ex
    · rw [if_pos h1] at h; omega
    rw [if_neg h1] at h
    by_cases h2 : ap - rv - cl - ex < 0
    · rw [if_pos h2] at h; omega
    rw [if_neg h2] at h
    by_cases h3 : at_ < 0 ∨ 1099511627776 < at_ ∨ un ≤ at_ ∨ 1099511627776 < un
    · rw [if_pos h3] at h; omega
    rw [if_neg h3] at h
    by_cases h4 : pa < 0 ∨ 8 < pa ∨ cl < pa ∨ (pa = 0 ∧ ¬ cl = 0) ∨ (¬ pa = 0 ∧ cl = 0)
    · rw [if_pos h4] at h; omega
    rw [if_neg h4] at h
    by_cases h5 : ¬ st = auState ap rv cl ex ∨ (st = 1 ∧ ¬ ex = 0)
    · rw [if_pos h5] at h; omega
    exact ⟨rfl, rfl, by omega, by omega, by omega, by omega, by omega, by omega, by omega, by omega, by omega⟩
  · rintro ⟨rfl, rfl, h1, h2, h3, h4, h5, h6, h7, h8, h9⟩
    rw [if_neg (by simp), if_neg (by simp), if_neg (by omega), if_neg (by omega), if_neg (by omega), if_neg (by omega), if_neg (by omega)]

section
variable (id cur : ByteArray) (ap rv cl ex st at_ un pa : Int) (w : World)
theorem check_is {c : Int} (hi : id.size ≤ maxLen) (hcu : cur.size ≤ maxLen) (HC : Hid (c = auCheck (identB id.data.toList 16) (curB cur.data.toList) ap rv cl ex st at_ un pa)) :
    Calls Try.prog 12 #[auV id cur ap rv cl ex st at_ un pa] w fun e w' => e = .returned (.int .i64 c) ∧ Pushed w w' := by
  have h := check_any id cur ap rv cl ex st at_ un pa w hi hcu
  rw [← HC.out] at h
  exact h
theorem checked_ok (hi : id.size ≤ maxLen) (hcu : cur.size ≤ maxLen) (HC : Hid (0 = auCheck (identB id.data.toList 16) (curB cur.data.toList) ap rv cl ex st at_ un pa)) :
    Calls Try.prog 20 #[auV id cur ap rv cl ex st at_ un pa] w fun e w' => e = .returned (.tuple #[auV id cur ap rv cl ex st at_ un pa, .int .i64 0]) ∧ Pushed w w' := by
  go_enter Try.func20, Try.ntmps20
  go_wp2_with (go_at_call 12; refine (check_is _ _ _ _ _ _ _ _ _ _ _ hi hcu HC).mono ?_; rintro e w1 ⟨rfl, l1, n1, rfl⟩)
  exact bodyPost_ret (v := .tuple #[auV id cur ap rv cl ex st at_ un pa, .int .i64 0]) (by simp [results, Try.results20, go_sem]) rfl ⟨rfl, (by repeat (first | with_reducible exact Pushed.refl _ | with_reducible assumption | with_reducible refine Pushed.push ?_ _ | with_reducible refine Pushed.alloc ?_ _ | with_reducible refine Pushed.drewN ?_ _ | with_reducible refine Pushed.drew ?_))⟩
theorem checked_err {c : Int} (hi : id.size ≤ maxLen) (hcu : cur.size ≤ maxLen) (HC : Hid (c = auCheck (identB id.data.toList 16) (curB cur.data.toList) ap rv cl ex st at_ un pa)) (h1 : (c != 0) = true) :
    Calls Try.prog 20 #[auV id cur ap rv cl ex st at_ un pa] w fun e w' => e = .returned (.tuple #[auV ⟨#[]⟩ ⟨#[]⟩ 0 0 0 0 0 0 0 0, .int .i64 c]) ∧ Pushed w w' := by
  go_enter Try.func20, Try.ntmps20
  go_wp2_with (go_at_call 12; refine (check_is _ _ _ _ _ _ _ _ _ _ _ hi hcu HC).mono ?_; rintro e w1 ⟨rfl, l1, n1, rfl⟩)
  exact bodyPost_ret (v := .tuple #[auV ⟨#[]⟩ ⟨#[]⟩ 0 0 0 0 0 0 0 0, .int .i64 c]) (by simp [results, Try.results20, go_sem]) rfl ⟨rfl, (by repeat (first | with_reducible exact Pushed.refl _ | with_reducible assumption | with_reducible refine Pushed.push ?_ _ | with_reducible refine Pushed.alloc ?_ _ | with_reducible refine Pushed.drewN ?_ _ | with_reducible refine Pushed.drew ?_))⟩

theorem id_ne {n : Int} {l : List UInt8} (h : identB l n = true) : l.isEmpty = false := by
  unfold identB at h; simp at h; cases l <;> simp_all
/-- What the check tells, as the walks want it. -/
theorem open_ok (hi : id.size ≤ maxLen) (hcu : cur.size ≤ maxLen) (HC : Hid (0 = auCheck (identB id.data.toList 16) (curB cur.data.toList) ap rv cl ex st at_ un pa)) (b : AuOk ap rv cl ex st at_ un pa) (hn : id.toList.isEmpty = false) (hn2 : (id.toList == []) = false) :
    Calls Try.prog 10 #[auV id cur ap rv cl ex st at_ un pa] w fun e w' => e = .returned (.int .i64 (ap - rv - cl - ex)) ∧ Pushed w w' := by
  obtain ⟨k1, k2, k3, k4, k5, k6, k7, k8, k9⟩ := b
  have ba : 0 ≤ ap ∧ ap ≤ 9999999999999 := by omega
  have br : 0 ≤ rv ∧ rv ≤ 9999999999999 := by omega
  have bc : 0 ≤ cl ∧ cl ≤ 9999999999999 := by omega
  have be : 0 ≤ ex ∧ ex ≤ 9999999999999 := by omega
  clear k8 k9
  go_enter Try.func10, Try.ntmps10
  go_wp2_with (first | (go_at_call 20; refine (checked_ok _ _ _ _ _ _ _ _ _ _ _ hi hcu HC).mono ?_; rintro e w1 ⟨rfl, l1, n1, rfl⟩) | (go_at_call 21; refine (left_any _ _ _ _ _ _ _ _ _ _ _ ba br bc be).mono ?_; rintro e w1 ⟨rfl, rfl⟩))
  go_ret
  exact ⟨rfl, (by repeat (first | with_reducible exact Pushed.refl _ | with_reducible assumption | with_reducible refine Pushed.push ?_ _ | with_reducible refine Pushed.alloc ?_ _ | with_reducible refine Pushed.drewN ?_ _ | with_reducible refine Pushed.drew ?_))⟩
theorem open_err {c : Int} (hi : id.size ≤ maxLen) (hcu : cur.size ≤ maxLen) (HC : Hid (c = auCheck (identB id.data.toList 16) (curB cur.data.toList) ap rv cl ex st at_ un pa)) (h1 : (c != 0) = true) :
    Calls Try.prog 10 #[auV id cur ap rv cl ex st at_ un pa] w fun e w' => e = .returned (.int .i64 0) ∧ Pushed w w' := by
  go_enter Try.func10, Try.ntmps10
  go_wp2_with (go_at_call 20; refine (checked_err _ _ _ _ _ _ _ _ _ _ _ hi hcu HC h1).mono ?_; rintro e w1 ⟨rfl, l1, n1, rfl⟩)
  go_ret
  exact ⟨rfl, (by repeat (first | with_reducible exact Pushed.refl _ | with_reducible assumption | with_reducible refine Pushed.push ?_ _ | with_reducible refine Pushed.alloc ?_ _ | with_reducible refine Pushed.drewN ?_ _ | with_reducible refine Pushed.drew ?_))⟩
theorem checkOpen_err {c : Int} (hi : id.size ≤ maxLen) (hcu : cur.size ≤ maxLen) (HC : Hid (c = auCheck (identB id.data.toList 16) (curB cur.data.toList) ap rv cl ex st at_ un pa)) (h1 : (c != 0) = true) :
    Calls Try.prog 37 #[auV id cur ap rv cl ex st at_ un pa] w fun e w' => e = .returned (.int .i64 c) ∧ Pushed w w' := by
  go_enter Try.func37, Try.ntmps37
  go_wp2_with (go_at_call 12; refine (check_is _ _ _ _ _ _ _ _ _ _ _ hi hcu HC).mono ?_; rintro e w1 ⟨rfl, l1, n1, rfl⟩)
  go_ret
  exact ⟨rfl, (by repeat (first | with_reducible exact Pushed.refl _ | with_reducible assumption | with_reducible refine Pushed.push ?_ _ | with_reducible refine Pushed.alloc ?_ _ | with_reducible refine Pushed.drewN ?_ _ | with_reducible refine Pushed.drew ?_))⟩
theorem checkOpen_state (hi : id.size ≤ maxLen) (hcu : cur.size ≤ maxLen) (HC : Hid (0 = auCheck (identB id.data.toList 16) (curB cur.data.toList) ap rv cl ex st at_ un pa)) (h1 : (st != 1) = true) :
    Calls Try.prog 37 #[auV id cur ap rv cl ex st at_ un pa] w fun e w' => e = .returned (.int .i64 8) ∧ Pushed w w' := by
  go_enter Try.func37, Try.ntmps37
  go_wp2_with (go_at_call 12; refine (check_is _ _ _ _ _ _ _ _ _ _ _ hi hcu HC).mono ?_; rintro e w1 ⟨rfl, l1, n1, rfl⟩)
  go_ret
  exact ⟨rfl, (by repeat (first | with_reducible exact Pushed.refl _ | with_reducible assumption | with_reducible refine Pushed.push ?_ _ | with_reducible refine Pushed.alloc ?_ _ | with_reducible refine Pushed.drewN ?_ _ | with_reducible refine Pushed.drew ?_))⟩
theorem checkOpen_ok (hi : id.size ≤ maxLen) (hcu : cur.size ≤ maxLen) (HC : Hid (0 = auCheck (identB id.data.toList 16) (curB cur.data.toList) ap rv cl ex 1 at_ un pa)) :
    Calls Try.prog 37 #[auV id cur ap rv cl ex 1 at_ un pa] w fun e w' => e = .returned (.int .i64 0) ∧ Pushed w w' := by
  go_enter Try.func37, Try.ntmps37
  go_wp2_with (go_at_call 12; refine (check_is _ _ _ _ _ _ _ _ _ _ _ hi hcu HC).mono ?_; rintro e w1 ⟨rfl, l1, n1, rfl⟩)
  go_ret
  exact ⟨rfl, (by repeat (first | with_reducible exact Pushed.refl _ | with_reducible assumption | with_reducible refine Pushed.push ?_ _ | with_reducible refine Pushed.alloc ?_ _ | with_reducible refine Pushed.drewN ?_ _ | with_reducible refine Pushed.drew ?_))⟩
theorem checkOpen_any (hi : id.size ≤ maxLen) (hcu : cur.size ≤ maxLen) {c : Int} (HC : Hid (c = openE (auCheck (identB id.data.toList 16) (curB cur.data.toList) ap rv cl ex st at_ un pa) st)) :
    Calls Try.prog 37 #[auV id cur ap rv cl ex st at_ un pa] w fun e w' => e = .returned (.int .i64 c) ∧ Pushed w w' := by
  have h := HC.out
  unfold openE at h
  by_cases h0 : auCheck (identB id.data.toList 16) (curB cur.data.toList) ap rv cl ex st at_ un pa = 0
  · rw [if_neg (by omega)] at h
    by_cases h1 : st = 1
    · subst h1
      rw [if_neg (by omega)] at h
      subst h
      exact checkOpen_ok id cur ap rv cl ex at_ un pa w hi hcu h0.symm
    · rw [if_pos h1] at h
      subst h
      exact checkOpen_state id cur ap rv cl ex st at_ un pa w hi hcu h0.symm (by simp [h1])
  · rw [if_pos h0] at h
    exact checkOpen_err id cur ap rv cl ex st at_ un pa w hi hcu h (by simp [h, h0])
end
end Go.Proofs.Ytmigodjkenhedaa
