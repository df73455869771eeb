/-
  CONTRACTS of the check of Luhn over a text of digits, and of the card number's check.
-/
import Derived.Test.YtacdfhgamjinbabCard1
import Derived.Laws.RangeString
namespace Go.Proofs.Ytacdfhgamjinbab
open Go.RowKit
set_option linter.unusedVariables false
def luhnS (s : ByteArray) : Nat → Int
  | 0 => 0
  | k + 1 => luhnS s k + cnt (((s.data.toList.getD k 0).toNat : Int) - 48) (((s.size : Int) - (k : Int)) % 2 == 0)
theorem cnt_bd (d : Int) (b : Bool) (h0 : 0 ≤ d) (h1 : d ≤ 9) : 0 ≤ cnt d b ∧ cnt d b ≤ 9 := by unfold cnt; cases b <;> simp <;> split <;> omega
theorem get_eq (s : ByteArray) (k : Nat) (h : k < s.size) : s.data.toList.getD k 0 = s[k] := by
  rw [List.getD_eq_getElem?_getD, List.getElem?_eq_getElem (by simpa using h)]; rfl
theorem luhn_succ (s : ByteArray) (k : Nat) (h : k < s.size) : luhnS s (k + 1) = luhnS s k + cnt ((s[k].toNat : Int) - 48) (((s.size : Int) - (k : Int)) % 2 == 0) := by
  show luhnS s k + _ = _
  rw [get_eq s k h]
theorem val_int {a b : Int} (h : a = b) : Value.int .i64 a = Value.int .i64 b := by rw [h]
set_option maxHeartbeats 800000 in
theorem luhn_any (s : ByteArray) (hs : s.size ≤ 1000) (w : World) (hd : ∀ (k : Nat) (h : k < s.size), 48 ≤ (s[k].toNat : Int) ∧ (s[k].toNat : Int) ≤ 57) (hn : s.toList.isEmpty = false) (hn2 : (!s.toList.isEmpty) = true) {b : Bool} (HB : Hid (b = decide (luhnS s s.size % 10 = 0))) :
    Calls Try.prog 38 #[.string s] w fun e w' => e = .returned (.bool b) ∧ Below w.heap.size w w' := by
  have HD := Lib.hid hd
  clear hd
  go_enter Try.func38, Try.ntmps38
  go_wp2_with fail
  go_loopw [3] (fun sum wr => ∃ k : Nat, k ≤ s.size ∧ sum = .int .i64 (luhnS s k) ∧ wr = w.iter s k ∧ 0 ≤ luhnS s k ∧ luhnS s k ≤ 9 * k) (fun _ wr => s.size - (match wr.heap[w.heap.size]? with | some (.stringIter _ p) => p | _ => 0))
  case atStart => exact ⟨0, Nat.zero_le _, rfl, rfl, by simp [luhnS], by simp [luhnS]⟩
  case round =>
    obtain ⟨k, hk, rfl, rfl, b0, b1⟩ := hrel
    by_cases hlt : k < s.size
    · obtain ⟨d0, d1⟩ := HD.out k hlt
      have HS := Lib.hid (luhn_succ s k hlt)
      have cb := cnt_bd ((s[k].toNat : Int) - 48) (((s.size : Int) - (k : Int)) % 2 == 0) (by omega) (by omega)
      have hnx := fun ty => run_next_ascii (P := Try.prog) w s k ty hlt (by omega)
      go_wp2_with fail
      refine (counted_any _ _ (by omega) (by omega) _).mono ?_
      rintro e w' ⟨rfl, rfl⟩
      go_wp2_with fail
      exact ⟨⟨k + 1, hlt, val_int HS.out.symm, rfl, by rw [HS.out]; omega, by rw [HS.out]; omega⟩, by rw [World.iter_heap, World.iter_heap]; exact Nat.sub_lt_sub_left hlt (Nat.lt_succ_self k)⟩
    · obtain rfl : k = s.size := by omega
      have hnx := fun ty => run_next_end (P := Try.prog) w s s.size ty hlt
      go_wp2_with fail
      go_ret
      exact ⟨ret_bool (by rw [HB.out, Bool.eq_iff_iff]; simp), (Below.refl _ _).alloc (Nat.le_refl _) _⟩
/-- The sample of the statements. -/
abbrev sample : ByteArray := ⟨#[52, 49, 49, 49, 49, 49, 49, 49, 49, 49, 49, 49, 49, 49, 49, 49]⟩
theorem sample_digit : ∀ (k : Nat) (h : k < sample.size), 48 ≤ (sample[k].toNat : Int) ∧ (sample[k].toNat : Int) ≤ 57 := by decide
theorem pan_sample (w : World) : Calls Try.prog 24 #[.string sample] w fun e w' => e = .returned (.int .i64 0) ∧ Below w.heap.size w w' := by
  go_enter Try.func24, Try.ntmps24
  go_wp2_with (first | (go_at_call 37; refine (digits_walk sample (by decide) _ (b := true) (by show true = _; decide) (by decide +kernel) (by decide +kernel)).mono ?_; rintro e w1 ⟨rfl, rfl⟩) | (go_at_call 38; refine (luhn_any sample (by decide) _ sample_digit (by decide +kernel) (by decide +kernel) (b := true) (by show true = _; decide)).mono ?_; rintro e w1 ⟨rfl, hb⟩))
  go_ret
  exact ⟨rfl, by assumption⟩
end Go.Proofs.Ytacdfhgamjinbab
