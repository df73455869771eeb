/-
  CONTRACT of the statements' own test on a list of strings: at most 100 strings of at most 100 bytes.
-/
import Derived.Test.YtfchpobjepdpgaaDoorSum7
namespace Go.Proofs.YtfchpobjepdpgaaDoor
open Go.RowKit
set_option linter.unusedVariables false
def shortS (s : ByteArray) : Bool := decide (s.size ≤ 100)
def fewB (ss : List ByteArray) : Bool := (ss.take 101).all shortS && decide (ss.length ≤ 100)
theorem few_snoc {ss : List ByteArray} {k : Nat} {s : ByteArray} (h : (ss.take k).all shortS = true) (hs : ss[k]? = some s) (hl : s.size ≤ 100) : (ss.take (k + 1)).all shortS = true := by
  rw [List.take_add_one, hs, Option.toList_some, List.all_append, h]
  simp [shortS, hl]
theorem few_bad {ss : List ByteArray} {k : Nat} {s : ByteArray} (hs : ss[k]? = some s) (hk : k < 101) (hl : 100 < s.size) : fewB ss = false := by
  unfold fewB
  rw [Bool.and_eq_false_iff]
  refine .inl ?_
  rw [List.all_eq_false]
  refine ⟨s, ?_, by simp [shortS]; omega⟩
  have : (ss.take 101)[k]? = some s := by rw [List.getElem?_take, if_pos hk]; exact hs
  exact List.mem_of_getElem? this
theorem few_end {ss : List ByteArray} {n k : Nat} (h : (ss.take k).all shortS = true) (hn : ss.length = n) (hk : ¬ (k < n ∧ k < 101)) (hk2 : k ≤ n) (hk3 : k ≤ 101) : fewB ss = decide (n ≤ 100) := by
  unfold fewB
  by_cases e : k = 101
  · subst e
    rw [h, hn, Bool.true_and]
  · rw [List.take_of_length_le (by omega)]
    rw [List.take_of_length_le (by omega)] at h
    rw [h, hn, Bool.true_and]
theorem few_len {ss : List ByteArray} (h : fewB ss = true) : ss.length ≤ 100 := by
  unfold fewB at h
  rw [Bool.and_eq_true] at h
  simpa using h.2
theorem few_size {ss : List ByteArray} (h : fewB ss = true) : ∀ s ∈ ss, s.size ≤ 100 := by
  have hl := few_len h
  unfold fewB at h
  rw [Bool.and_eq_true, List.take_of_length_le (by omega), List.all_eq_true] at h
  exact fun s hs => by simpa [shortS] using h.1 s hs
theorem few_any (A : Option Addr) (n c : Nat) (ss : List ByteArray) (w : World) (hS : Strs w A n ss) (hn : n ≤ maxLen) (hl : ∀ s ∈ ss, s.size ≤ maxLen) {b : Bool} (HB : Hid (b = fewB ss)) :
    Calls Tryd.prog 16 #[.slice A n c] w fun e w' => e = .returned (.bool b) ∧ w = w' := by
  unfold maxLen at hn
  have HS := Lib.hid hS
  have HL := Lib.hid hl
  clear hS hl
  go_enter Tryd.func16, Tryd.ntmps16
  go_wp2_with fail
  go_loop [3] (fun i => ∃ k : Nat, k ≤ n ∧ k ≤ 101 ∧ i = .int .i64 k ∧ (ss.take k).all shortS = true) (fun i => n - (intOf i).toNat)
  case atStart => exact ⟨0, Nat.zero_le _, by omega, rfl, rfl⟩
  case round =>
    obtain ⟨k, hk, hk1, rfl, hall⟩ := hrel
    have HA := Lib.hid hall
    clear hall
    by_cases hlt : k < n ∧ k < 101
    · obtain ⟨h1, h2⟩ := hlt
      obtain ⟨ad, s, rfl, hb, hs, hc⟩ := HS.out.at h1
      have hz := HL.out s (List.mem_of_getElem? hs)
      unfold maxLen at hz
      have HG := Lib.hid hs
      clear hs
      by_cases hq : 100 < s.size
      · have HF := Lib.hid (few_bad HG.out h2 hq)
        go_wp2
        go_ret
        exact ⟨ret_boolv (by rw [HB.out, HF.out]), rfl⟩
      · have hq2 : s.size ≤ 100 := by omega
        clear hq
        have HF := Lib.hid (few_snoc HA.out HG.out hq2)
        go_wp2
        exact ⟨⟨k + 1, by omega, by omega, y5 k, HF.out⟩, by simp [intOf]; omega⟩
    · have HE := Lib.hid (few_end HA.out HS.out.len hlt hk hk1)
      have HN := Lib.hid hlt
      clear hlt
      by_cases h1 : k < n
      · have h2 : 101 ≤ k := by have := HN.out; omega
        go_wp2
        go_ret
        exact ⟨ret_boolv (by rw [HB.out, HE.out]; rw [Bool.eq_iff_iff]; simp; omega), rfl⟩
      · have h2 : n ≤ k := by omega
        clear h1
        go_wp2
        go_ret
        exact ⟨ret_boolv (by rw [HB.out, HE.out]; rw [Bool.eq_iff_iff]; simp; omega), rfl⟩
end Go.Proofs.YtfchpobjepdpgaaDoor
