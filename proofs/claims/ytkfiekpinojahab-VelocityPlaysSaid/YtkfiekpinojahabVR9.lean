/-
  CONTRACTS of velocity, both: two windows side by side.
-/
import Derived.Test.YtkfiekpinojahabVR8
import Derived.Test.YtkfiekpinojahabVR2
namespace Go.Proofs.Ytkfiekpinojahab
open Go.RowKit
set_option linter.unusedVariables false
set_option linter.unusedSimpArgs false
/-- Two windows side by side: one state for both. -/
structure Pair (w0 W : World) (K D E : Nat) (v u : Value) (s : VS) : Prop where
  ra : Rep W K D v s
  rb : R.Rep W K E u s
  kp : Kp (fun i => K ≤ i) w0 W
  sep : ∀ i, Own D v i → ¬ Own E u i
/-- As a pair, but the second is at another state. -/
structure Pair2 (w0 W : World) (K D E : Nat) (v u : Value) (s r : VS) : Prop where
  ra : Rep W K D v s
  rb : R.Rep W K E u r
  kp : Kp (fun i => K ≤ i) w0 W
  sep : ∀ i, Own D v i → ¬ Own E u i
section
variable {w0 W W' : World} {K D E : Nat} {v u v' u' : Value} {s r s' r' : VS}
theorem Pair.two (h : Pair w0 W K D E v u s) : Pair2 w0 W K D E v u s s := ⟨h.ra, h.rb, h.kp, h.sep⟩
theorem Pair2.one (h : Pair2 w0 W K D E v u s r) (e : r = s) : Pair w0 W K D E v u s := by subst e; exact ⟨h.ra, h.rb, h.kp, h.sep⟩
theorem Pair2.stepA (h : Pair2 w0 W K D E v u s r) (k : Left W W' K D v v' s') : Pair2 w0 W' K D E v' u s' r :=
  ⟨k.rep, h.rb.kp k.kp (fun i hi ho => h.sep i ho hi), h.kp.trans (k.kp.weak (fun i hi => (h.ra.lt hi).1)), fun i hi ho => by
    have h1 := (h.rb.lt ho).2
    rcases hi with e | e
    · exact h.sep i (.inl e) ho
    · rcases k.own i e with h2 | h2
      · exact h.sep i (.inr h2) ho
      · omega⟩
theorem Pair2.stepB (h : Pair2 w0 W K D E v u s r) (k : R.Left W W' K E u u' r') : Pair2 w0 W' K D E v u' s r' :=
  ⟨h.ra.kp k.kp (fun i hi ho => h.sep i hi ho), k.rep, h.kp.trans (k.kp.weak (fun i hi => (h.rb.lt hi).1)), fun i hi ho => by
    have h1 := (h.ra.lt hi).2
    rcases ho with e | e
    · exact h.sep i hi (.inl e)
    · rcases k.own i e with h2 | h2
      · exact h.sep i hi (.inr h2)
      · omega⟩
theorem Pair2.drew (h : Pair2 w0 W K D E v u s r) : Pair2 w0 W.drew K D E v u s r :=
  ⟨h.ra.below (Below.refl _ _).drew, h.rb.below (Below.refl _ _).drew, h.kp.drew, h.sep⟩
theorem Pair2.alloc (h : Pair2 w0 W K D E v u s r) (o : Obj) : Pair2 w0 (W.alloc o) K D E v u s r :=
  ⟨h.ra.below ((Below.refl _ _).alloc (Nat.le_refl _) o), h.rb.below ((Below.refl _ _).alloc (Nat.le_refl _) o), h.kp.alloc o, h.sep⟩

open Go.Proofs.Ytkfiekpinojahab.R (Inv addF addH addF_eq addH_eq forM forM_eq forN_int maxS maxS_last)
theorem P.new_bad (n : Int) (h : n < 1 ∨ 10000000 < n) (w : World) : Calls Try.prog 8 #[.int .i64 n] w fun e w' => e = .returned (.tuple #[.pointer none, .int .i64 4]) ∧ w = w' := by
  go_enter Try.func8, Try.ntmps8
  rcases h with h | h
  · have h1 : decide (n < 1) = true := decide_eq_true h
    go_wp2
    go_ret2
    exact ⟨rfl, rfl⟩
  · have h1 : decide (n < 1) = false := decide_eq_false (by omega)
    have h2 : decide (10000000 < n) = true := decide_eq_true h
    go_wp2
    go_ret2
    exact ⟨rfl, rfl⟩
variable {x : ByteArray} {a m n c : Int}
theorem addA (h : Pair w0 W K D E v u s) (hk : x.size ≤ 100) (hc : addE s x a m = c) : Calls Try.prog 10 #[.pointer (some ⟨D, 0, none⟩), .string x, .int .i64 a, .int .i64 m] W fun e W' => e = .returned (.int .i64 c) ∧ ∃ v', Pair2 w0 W' K D E v' u (addG s x a m) s ∧ Kp (Own D v) W W' :=
  (add_gen h.ra x a m hk hc).mono fun e W' ⟨e1, v', hl⟩ => ⟨e1, v', h.two.stepA hl, hl.kp⟩
theorem addB (h : Pair2 w0 W K D E v u (addG s x a m) s) (hi : Inv s) (hc : addE s x a m = c) : Calls Try.prog 11 #[.pointer (some ⟨E, 0, none⟩), .string x, .int .i64 a, .int .i64 m] W fun e W' => e = .returned (.int .i64 c) ∧ ∃ u', Pair w0 W' K D E v u' (addG s x a m) ∧ Kp (Own E u) W W' :=
  (R.add_gen h.rb x a m ((addF_eq hi.srt x a m).trans hc)).mono fun e W' ⟨e1, u', hl⟩ => ⟨e1, u', (h.stepB hl).one (addH_eq hi.srt x a m), hl.kp⟩
theorem remA (h : Pair w0 W K D E v u s) : Calls Try.prog 12 #[.pointer (some ⟨D, 0, none⟩), .string x, .int .i64 a, .int .i64 m] W fun e W' => ∃ us' c v', e = .returned (.int .i64 c) ∧ RemP s.us x a m us' c ∧ Pair2 w0 W' K D E v' u { s with us := us' } s ∧ Kp (Own D v) W W' :=
  (rem_gen h.ra x a m).mono fun e W' ⟨us', c, hp, e1, v', hl⟩ => ⟨us', c, v', e1, hp, h.two.stepA hl, hl.kp⟩
theorem remB {us' : List UR} (h : Pair2 w0 W K D E v u { s with us := us' } s) (hp : RemP s.us x a m us' c) : Calls Try.prog 13 #[.pointer (some ⟨E, 0, none⟩), .string x, .int .i64 a, .int .i64 m] W fun e W' => e = .returned (.int .i64 c) ∧ ∃ u', Pair w0 W' K D E v u' { s with us := us' } ∧ Kp (Own E u) W W' :=
  (R.rem_gen h.rb x a m).mono fun e W' ⟨us2, c2, hp2, e1, u', hl⟩ => by
    obtain ⟨rfl, rfl⟩ := hp.uniq hp2
    exact ⟨e1, u', (h.stepB hl).one rfl, hl.kp⟩
theorem forA (h : Pair w0 W K D E v u s) {c : Nat} (hc : forN s a = c) : Calls Try.prog 18 #[.pointer (some ⟨D, 0, none⟩), .int .i64 a] W fun e W' => e = .returned (.int .i64 (c : Int)) ∧ ∃ v', Pair2 w0 W' K D E v' u { s with us := s.us.drop c } s ∧ Kp (Own D v) W W' :=
  (forget_gen h.ra a hc).mono fun e W' ⟨e1, v', hl⟩ => ⟨e1, v', h.two.stepA hl, hl.kp⟩
theorem forB {c : Nat} (h : Pair2 w0 W K D E v u { s with us := s.us.drop c } s) (hi : Inv s) (hc : forN s a = c) : Calls Try.prog 19 #[.pointer (some ⟨E, 0, none⟩), .int .i64 a] W fun e W' => e = .returned (.int .i64 (c : Int)) ∧ ∃ u', Pair w0 W' K D E v u' { s with us := s.us.drop c } ∧ Kp (Own E u) W W' :=
  (R.forget_gen h.rb a ((forN_int hi.srt a).trans (by rw [hc]))).mono fun e W' ⟨e1, u', hl⟩ => ⟨e1, u', (h.stepB hl).one (by rw [forM_eq hi.srt a, hc]), hl.kp⟩
theorem cntA (h : Pair w0 W K D E v u s) (hc : ((wG s x a n).length : Int) = c) : Calls Try.prog 14 #[.pointer (some ⟨D, 0, none⟩), .string x, .int .i64 a, .int .i64 n] W fun e W' => e = .returned (.int .i64 c) ∧ Pair w0 W' K D E v u s ∧ Kp (Own D v) W W' :=
  (count_gen h.ra x a n hc).mono fun e W' ⟨e1, hl⟩ => ⟨e1, (h.two.stepA hl).one rfl, hl.kp⟩
theorem cntB (h : Pair w0 W K D E v u s)  (hc : ((wG s x a n).length : Int) = c) : Calls Try.prog 15 #[.pointer (some ⟨E, 0, none⟩), .string x, .int .i64 a, .int .i64 n] W fun e W' => e = .returned (.int .i64 c) ∧ Pair w0 W' K D E v u s ∧ Kp (Own E u) W W' :=
  (R.count_gen h.rb x a n hc).mono fun e W' ⟨e1, hl⟩ => ⟨e1, (h.two.stepB hl).one rfl, hl.kp⟩
theorem sumA (h : Pair w0 W K D E v u s) (hc : sumU (wG s x a n) = c) : Calls Try.prog 16 #[.pointer (some ⟨D, 0, none⟩), .string x, .int .i64 a, .int .i64 n] W fun e W' => e = .returned (.int .i64 c) ∧ Pair w0 W' K D E v u s ∧ Kp (Own D v) W W' :=
  (sum_gen h.ra x a n hc).mono fun e W' ⟨e1, hl⟩ => ⟨e1, (h.two.stepA hl).one rfl, hl.kp⟩
theorem sumB (h : Pair w0 W K D E v u s)  (hc : sumU (wG s x a n) = c) : Calls Try.prog 17 #[.pointer (some ⟨E, 0, none⟩), .string x, .int .i64 a, .int .i64 n] W fun e W' => e = .returned (.int .i64 c) ∧ Pair w0 W' K D E v u s ∧ Kp (Own E u) W W' :=
  (R.sum_gen h.rb x a n hc).mono fun e W' ⟨e1, hl⟩ => ⟨e1, (h.two.stepB hl).one rfl, hl.kp⟩
theorem lenA (h : Pair w0 W K D E v u s) (hc : (s.us.length : Int) = c) : Calls Try.prog 22 #[.pointer (some ⟨D, 0, none⟩)] W fun e W' => e = .returned (.int .i64 c) ∧ Pair w0 W' K D E v u s ∧ Kp (Own D v) W W' :=
  (len_any h.ra hc).mono fun e W' ⟨e1, hl⟩ => ⟨e1, (h.two.stepA hl).one rfl, hl.kp⟩
theorem lenB (h : Pair w0 W K D E v u s)  (hc : (s.us.length : Int) = c) : Calls Try.prog 23 #[.pointer (some ⟨E, 0, none⟩)] W fun e W' => e = .returned (.int .i64 c) ∧ Pair w0 W' K D E v u s ∧ Kp (Own E u) W W' :=
  (R.len_any h.rb hc).mono fun e W' ⟨e1, hl⟩ => ⟨e1, (h.two.stepB hl).one rfl, hl.kp⟩
theorem lastA (h : Pair w0 W K D E v u s) {b : Bool} (hc : lastS s.us x = (c, b)) : Calls Try.prog 20 #[.pointer (some ⟨D, 0, none⟩), .string x] W fun e W' => e = .returned (.tuple #[.int .i64 c, .bool b]) ∧ Pair w0 W' K D E v u s ∧ Kp (Own D v) W W' :=
  (last_gen h.ra x hc).mono fun e W' ⟨e1, hl⟩ => ⟨e1, (h.two.stepA hl).one rfl, hl.kp⟩
theorem lastB (h : Pair w0 W K D E v u s) (hi : Inv s) {b : Bool} (hc : lastS s.us x = (c, b)) : Calls Try.prog 21 #[.pointer (some ⟨E, 0, none⟩), .string x] W fun e W' => e = .returned (.tuple #[.int .i64 c, .bool b]) ∧ Pair w0 W' K D E v u s ∧ Kp (Own E u) W W' :=
  (R.last_gen h.rb x ((maxS_last hi.srt (fun y hy => (h.ra.ok y hy).2.1)).trans hc)).mono fun e W' ⟨e1, hl⟩ => ⟨e1, (h.two.stepB hl).one rfl, hl.kp⟩
end
end Go.Proofs.Ytkfiekpinojahab
