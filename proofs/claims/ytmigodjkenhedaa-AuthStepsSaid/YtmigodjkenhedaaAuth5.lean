/-
  CONTRACTS of the specification's check (all ways together) and New, and of the names of the states.
-/
import Derived.Test.YtmigodjkenhedaaAuth4
import Derived.Test.YtmigodjkenhedaaAuth8
namespace Go.Proofs.Ytmigodjkenhedaa
open Go.RowKit
set_option linter.unusedVariables false
section
variable (id cur : ByteArray) (ap rv cl ex st at_ un pa : Int) (w : World)
/-- The specification's Check. -/
theorem rcheck_any (hi : id.size ≤ maxLen) (hc : cur.size ≤ maxLen) :
    Calls Try.prog 13 #[auV id cur ap rv cl ex st at_ un pa] w fun e w' => e = .returned (.int .i64 (auCheck (identB id.data.toList 16) (curB cur.data.toList) ap rv cl ex st at_ un pa)) ∧ Pushed w w' := by
  cases h : identB id.data.toList 16 with
  | false => exact (rcheck_name id cur ap rv cl ex st at_ un pa w hi h).mono fun e w' hh => ⟨hh.1.trans (ret_int (by simp [auCheck])), hh.2⟩
  | true =>
  cases h2 : curB cur.data.toList with
  | false => exact (rcheck_cur id cur ap rv cl ex st at_ un pa w hi hc h h2).mono fun e w' hh => ⟨hh.1.trans (ret_int (by simp [auCheck])), hh.2⟩
  | true =>
  have hA : ∀ n lo : Int, inB n lo 999999999999 = true ↔ (lo ≤ n ∧ n ≤ 999999999999) := fun n lo => by unfold inB; simp
  have hF : ∀ n lo : Int, inB n lo 999999999999 = false ↔ ¬ (lo ≤ n ∧ n ≤ 999999999999) := fun n lo => by unfold inB; simp
  by_cases hr : inB ap 1 999999999999 = false ∨ inB rv 0 999999999999 = false ∨ inB cl 0 999999999999 = false ∨ inB ex 0 999999999999 = false
  · refine (rcheck_range id cur ap rv cl ex st at_ un pa w hi hc h h2 hr).mono fun e w' hh => ⟨hh.1.trans (ret_int ?_), hh.2⟩
    simp only [hF] at hr
    unfold auCheck
    rw [if_neg (by simp), if_neg (by simp), if_pos (by omega)]
  have q : inB ap 1 999999999999 = true ∧ inB rv 0 999999999999 = true ∧ inB cl 0 999999999999 = true ∧ inB ex 0 999999999999 = true := by
    simp only [hF] at hr; simp only [hA]; omega
  obtain ⟨q0, q1, q2, q3⟩ := q
  have r0 := (hA ap 1).1 q0
  have r1 := (hA rv 0).1 q1
  have r2 := (hA cl 0).1 q2
  have r3 := (hA ex 0).1 q3
  have e0 : ∀ x y : Int, (if (true : Bool) = false then (5 : Int) else if (true : Bool) = false then 11 else if ap < 1 ∨ 999999999999 < ap ∨ rv < 0 ∨ 999999999999 < rv ∨ cl < 0 ∨ 999999999999 < cl ∨ ex < 0 ∨ 999999999999 < ex then x else y) = y := fun x y => by
    rw [if_neg (by simp), if_neg (by simp), if_neg (by omega)]
  by_cases hL : ap - rv - cl - ex < 0
  · refine (rcheck_bal id cur ap rv cl ex st at_ un pa w hi hc h h2 q0 q1 q2 q3 (by omega)).mono fun e w' hh => ⟨hh.1.trans (ret_int ?_), hh.2⟩
    unfold auCheck
    rw [e0, if_pos hL]
  by_cases ht : at_ < 0 ∨ 1099511627776 < at_ ∨ un ≤ at_ ∨ 1099511627776 < un
  · refine (rcheck_time id cur ap rv cl ex st at_ un pa w hi hc h h2 q0 q1 q2 q3 (by omega) ht).mono fun e w' hh => ⟨hh.1.trans (ret_int ?_), hh.2⟩
    unfold auCheck
    rw [e0, if_neg hL, if_pos ht]
  by_cases hp : pa < 0 ∨ 8 < pa ∨ cl < pa ∨ (pa = 0 ∧ cl ≠ 0) ∨ (pa ≠ 0 ∧ cl = 0)
  · refine (rcheck_parts id cur ap rv cl ex st at_ un pa w hi hc h h2 q0 q1 q2 q3 (by omega) (by omega) (by omega) (by omega) (by omega) hp).mono fun e w' hh => ⟨hh.1.trans (ret_int ?_), hh.2⟩
    unfold auCheck
    rw [e0, if_neg hL, if_neg ht, if_pos hp]
  by_cases hs : st = auState ap rv cl ex
  · by_cases ho : st = 1
    · subst ho
      by_cases hx : ex = 0
      · refine (rcheck_ok1 id cur ap rv cl ex at_ un pa w hi hc h h2 q0 q1 q2 q3 (by omega) (by omega) (by omega) (by omega) (by omega) (by omega) (by omega) (by omega) (by omega) _ rfl (by simp [← hs]) (by simp [hx])).mono fun e w' hh => ⟨hh.1.trans (ret_int ?_), hh.2⟩
        unfold auCheck
        rw [e0, if_neg hL, if_neg ht, if_neg hp, if_neg (by omega)]
      · refine (rcheck_ex id cur ap rv cl ex at_ un pa w hi hc h h2 q0 q1 q2 q3 (by omega) (by omega) (by omega) (by omega) (by omega) (by omega) (by omega) (by omega) (by omega) _ rfl (by simp [← hs]) (by simp [hx])).mono fun e w' hh => ⟨hh.1.trans (ret_int ?_), hh.2⟩
        unfold auCheck
        rw [e0, if_neg hL, if_neg ht, if_neg hp, if_pos (by omega)]
    · refine (rcheck_ok2 id cur ap rv cl ex st at_ un pa w hi hc h h2 q0 q1 q2 q3 (by omega) (by omega) (by omega) (by omega) (by omega) (by omega) (by omega) (by omega) (by omega) _ rfl (by simp [← hs]) (by simp [ho])).mono fun e w' hh => ⟨hh.1.trans (ret_int ?_), hh.2⟩
      unfold auCheck
      rw [e0, if_neg hL, if_neg ht, if_neg hp, if_neg (by omega)]
  · refine (rcheck_st id cur ap rv cl ex st at_ un pa w hi hc h h2 q0 q1 q2 q3 (by omega) (by omega) (by omega) (by omega) (by omega) (by omega) (by omega) (by omega) (by omega) _ rfl (by simp [hs]) (by simp [hs])).mono fun e w' hh => ⟨hh.1.trans (ret_int ?_), hh.2⟩
    unfold auCheck
    rw [e0, if_neg hL, if_neg ht, if_neg hp, if_pos (by omega)]
theorem rcheck_is {c : Int} (hi : id.size ≤ maxLen) (hcu : cur.size ≤ maxLen) (HC : Hid (c = auCheck (identB id.data.toList 16) (curB cur.data.toList) ap rv cl ex st at_ un pa)) :
    Calls Try.prog 13 #[auV id cur ap rv cl ex st at_ un pa] w fun e w' => e = .returned (.int .i64 c) ∧ Pushed w w' := by
  have h := rcheck_any id cur ap rv cl ex st at_ un pa w hi hcu
  rw [← HC.out] at h
  exact h
theorem rnew_ok (amount : Int) (hi : id.size ≤ maxLen) (hcu : cur.size ≤ maxLen) (HC : Hid (0 = auCheck (identB id.data.toList 16) (curB cur.data.toList) amount 0 0 0 1 at_ un 0)) :
    Calls Try.prog 16 #[.string id, .string cur, .int .i64 amount, .int .i64 at_, .int .i64 un] w fun e w' => e = .returned (.tuple #[auV id cur amount 0 0 0 1 at_ un 0, .int .i64 0]) ∧ Pushed w w' := by
  go_enter Try.func16, Try.ntmps16
  go_wp2_with (go_at_call 13; refine (rcheck_is _ _ _ _ _ _ _ _ _ _ _ hi hcu HC).mono ?_; rintro e w1 ⟨rfl, l1, n1, rfl⟩)
  exact bodyPost_ret (v := .tuple #[auV id cur amount 0 0 0 1 at_ un 0, .int .i64 0]) (by simp [results, Try.results16, go_sem]) rfl ⟨rfl, (by repeat (first | with_reducible exact Pushed.refl _ | with_reducible assumption | with_reducible refine Pushed.push ?_ _ | with_reducible refine Pushed.alloc ?_ _ | with_reducible refine Pushed.drewN ?_ _ | with_reducible refine Pushed.drew ?_))⟩
theorem rnew_err {c : Int} (amount : Int) (hi : id.size ≤ maxLen) (hcu : cur.size ≤ maxLen) (HC : Hid (c = auCheck (identB id.data.toList 16) (curB cur.data.toList) amount 0 0 0 1 at_ un 0)) (h1 : (c != 0) = true) :
    Calls Try.prog 16 #[.string id, .string cur, .int .i64 amount, .int .i64 at_, .int .i64 un] w fun e w' => e = .returned (.tuple #[auV ⟨#[]⟩ ⟨#[]⟩ 0 0 0 0 0 0 0 0, .int .i64 c]) ∧ Pushed w w' := by
  go_enter Try.func16, Try.ntmps16
  go_wp2_with (go_at_call 13; refine (rcheck_is _ _ _ _ _ _ _ _ _ _ _ hi hcu HC).mono ?_; rintro e w1 ⟨rfl, l1, n1, rfl⟩)
  exact bodyPost_ret (v := .tuple #[auV ⟨#[]⟩ ⟨#[]⟩ 0 0 0 0 0 0 0 0, .int .i64 c]) (by simp [results, Try.results16, go_sem]) rfl ⟨rfl, (by repeat (first | with_reducible exact Pushed.refl _ | with_reducible assumption | with_reducible refine Pushed.push ?_ _ | with_reducible refine Pushed.alloc ?_ _ | with_reducible refine Pushed.drewN ?_ _ | with_reducible refine Pushed.drew ?_))⟩
end
def nameS (n : Int) : ByteArray := if n = 1 then ⟨#[111, 112, 101, 110]⟩ else if n = 2 then ⟨#[99, 108, 101, 97, 114, 101, 100]⟩ else if n = 3 then ⟨#[114, 101, 118, 101, 114, 115, 101, 100]⟩ else if n = 4 then ⟨#[101, 120, 112, 105, 114, 101, 100]⟩ else ⟨#[]⟩
theorem ret_str {a b : ByteArray} (h : a = b) : Ending.returned (.string a) = .returned (.string b) := by rw [h]
theorem name_is {s : ByteArray} (n : Int) (w : World) (HS : Hid (s = nameS n)) :
    Calls Try.prog 17 #[.int .i64 n] w fun e w' => e = .returned (.string s) ∧ w = w' := by
  go_enter Try.func17, Try.ntmps17
  go_wp2
  all_goals go_ret
  all_goals exact ⟨ret_str (by rw [HS.out]; unfold nameS; simp_all), rfl⟩
theorem rname_is {s : ByteArray} (n : Int) (w : World) (HS : Hid (s = nameS n)) :
    Calls Try.prog 18 #[.int .i64 n] w fun e w' => e = .returned (.string s) ∧ w = w' := by
  go_enter Try.func18, Try.ntmps18
  go_wp2
  all_goals go_ret
  all_goals exact ⟨ret_str (by rw [HS.out]; unfold nameS; simp_all), rfl⟩
end Go.Proofs.Ytmigodjkenhedaa
