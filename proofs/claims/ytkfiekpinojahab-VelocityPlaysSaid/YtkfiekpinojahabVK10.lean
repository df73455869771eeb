/-
  CONTRACTS of velocity: Add, Count, Sum, Forget at any arguments.
-/
import Derived.Test.YtkfiekpinojahabVK7
namespace Go.Proofs.Ytkfiekpinojahab
open Go.RowKit
set_option linter.unusedVariables false
set_option linter.unusedSimpArgs false
theorem ret_eq {c d : Int} (h : c = d) : Ending.returned (.int .i64 d) = Ending.returned (.int .i64 c) := by rw [h]
def tim (a : Int) : Prop := 0 ≤ a ∧ a ≤ 1099511627776
instance (a : Int) : Decidable (tim a) := by unfold tim; exact inferInstance
def addE (s : VS) (k : ByteArray) (a m : Int) : Int :=
  if k.size = 0 ∨ 40 < k.size then 5 else if ¬ tim a ∨ a < s.last then 14 else if m < 0 ∨ 999999999999 < m then 4 else if 1000 ≤ s.us.length - oldS s.us (a - s.hor) then 12 else 0
def addG (s : VS) (k : ByteArray) (a m : Int) : VS := if addE s k a m = 0 then addS s k a m else s
theorem addE_ok {s : VS} {k : ByteArray} {a m : Int} (h : addE s k a m = 0) : AddOk s k a m ∧ s.us.length - oldS s.us (a - s.hor) < 1000 := by
  unfold addE at h
  split at h
  · omega
  · split at h
    · omega
    · split at h
      · omega
      · split at h
        · omega
        · rename_i h1 h2 h3 h4
          have ht : tim a := by
            by_cases ht : tim a
            · exact ht
            · exact absurd (.inl ht) h2
          exact ⟨⟨by omega, by omega, ht.1, ht.2, by omega, by omega, by omega⟩, by omega⟩
set_option maxRecDepth 5000 in
theorem add_gen {K D : Nat} {v : Value} {s : VS} {w : World} (hr : Rep w K D v s) (k : ByteArray) (a m : Int) (hk100 : k.size ≤ 100) {c : Int} (hc : addE s k a m = c) : Calls Try.prog 10 #[.pointer (some ⟨D, 0, none⟩), .string k, .int .i64 a, .int .i64 m] w fun e w' => e = .returned (.int .i64 c) ∧ ∃ v', Left w w' K D v v' (addG s k a m) := by
  by_cases h0 : c = 0
  · subst h0
    obtain ⟨ok, hf⟩ := addE_ok hc
    have hg : addG s k a m = addS s k a m := by unfold addG; rw [if_pos hc]
    rw [hg]
    exact add_ok hr k a m ok hf
  have HG : Hid (addG s k a m = s) := Lib.hid (by unfold addG; rw [hc, if_neg h0])
  have HL := Lib.hid (Left.same hr (Below.refl _ _))
  have HE := Lib.hid hc
  have H0 := Lib.hid h0
  clear hc h0
  have hd := hr.win
  have hlt := hd.lt
  have d0 := hd.cell 0
  have d1 := hd.cell 1
  have d2 := hd.cell 2
  simp at d0 d1 d2
  by_cases hk0 : k.size = 0
  · have HX : Hid (c = 5) := Lib.hid (by rw [← HE.out]; unfold addE; rw [if_pos (.inl hk0)])
    obtain rfl : k = ⟨#[]⟩ := by
      apply ByteArray.ext
      exact Array.eq_empty_of_size_eq_zero hk0
    clear hk0 hk100
    clear hr hd d0 d2
    go_enter Try.func10, Try.ntmps10
    go_wp2_with fail
    go_ret
    exact ⟨ret_eq HX.out, v, by rw [HG.out]; exact HL.out⟩
  have k1 := str_eq0 (s := k) hk0
  by_cases hk40 : 40 < k.size
  · have HX : Hid (c = 5) := Lib.hid (by rw [← HE.out]; unfold addE; rw [if_pos (.inr hk40)])
    have a4 : decide ((40 : Int) < (k.size : Int)) = true := decide_eq_true (by omega)
    clear hk0 hk40 hk100
    clear hr hd d0 d2
    go_enter Try.func10, Try.ntmps10
    go_wp2_with fail
    go_ret
    exact ⟨ret_eq HX.out, v, by rw [HG.out]; exact HL.out⟩
  have a4 : decide ((40 : Int) < (k.size : Int)) = false := decide_eq_false (by omega)
  by_cases ht : tim a
  case neg =>
    have HX : Hid (c = 14) := Lib.hid (by rw [← HE.out]; unfold addE; rw [if_neg (by omega), if_pos (.inl ht)])
    have IT := Lib.hid (fun w => isTime_no a ht w)
    clear hk0 hk40 hk100 ht
    clear hr hd d0 d2
    go_enter Try.func10, Try.ntmps10
    go_wp2_with fail
    refine (IT.out _).mono ?_
    rintro e w1 ⟨rfl, rfl⟩
    go_wp2_with fail
    go_ret
    exact ⟨ret_eq HX.out, v, by rw [HG.out]; exact HL.out⟩
  have IT := Lib.hid (fun w => isTime_any a ht.1 ht.2 w)
  by_cases hla : a < s.last
  · have HX : Hid (c = 14) := Lib.hid (by rw [← HE.out]; unfold addE; rw [if_neg (by omega), if_pos (.inr hla)])
    have a1 : decide (a < s.last) = true := decide_eq_true hla
    clear hk0 hk40 hk100 ht hla
    clear hr hd d0 d2
    go_enter Try.func10, Try.ntmps10
    go_wp2_with fail
    refine (IT.out _).mono ?_
    rintro e w1 ⟨rfl, rfl⟩
    go_wp2_with fail
    go_ret
    exact ⟨ret_eq HX.out, v, by rw [HG.out]; exact HL.out⟩
  have a1 : decide (a < s.last) = false := decide_eq_false hla
  by_cases hm0 : m < 0
  · have HX : Hid (c = 4) := Lib.hid (by rw [← HE.out]; unfold addE; rw [if_neg (by omega), if_neg (by rintro (h | h); exact h ht; exact hla h), if_pos (.inl hm0)])
    have a2 : decide (m < 0) = true := decide_eq_true hm0
    clear hk0 hk40 hk100 ht hla hm0
    clear hr hd d0 d2
    go_enter Try.func10, Try.ntmps10
    go_wp2_with fail
    refine (IT.out _).mono ?_
    rintro e w1 ⟨rfl, rfl⟩
    go_wp2_with fail
    go_ret
    exact ⟨ret_eq HX.out, v, by rw [HG.out]; exact HL.out⟩
  have a2 : decide (m < 0) = false := decide_eq_false hm0
  by_cases hmM : 999999999999 < m
  · have HX : Hid (c = 4) := Lib.hid (by rw [← HE.out]; unfold addE; rw [if_neg (by omega), if_neg (by rintro (h | h); exact h ht; exact hla h), if_pos (.inr hmM)])
    have a3 : decide (999999999999 < m) = true := decide_eq_true hmM
    clear hk0 hk40 hk100 ht hla hm0 hmM
    clear hr hd d0 d2
    go_enter Try.func10, Try.ntmps10
    go_wp2_with fail
    refine (IT.out _).mono ?_
    rintro e w1 ⟨rfl, rfl⟩
    go_wp2_with fail
    go_ret
    exact ⟨ret_eq HX.out, v, by rw [HG.out]; exact HL.out⟩
  by_cases hfu : 1000 ≤ s.us.length - oldS s.us (a - s.hor)
  · have hX : c = 12 := by rw [← HE.out]; unfold addE; rw [if_neg (by omega), if_neg (by rintro (h | h); exact h ht; exact hla h), if_neg (by omega), if_pos hfu]
    rw [hX, HG.out]
    exact (add_full hr k a m ⟨by omega, by omega, ht.1, ht.2, by omega, by omega, by omega⟩ hfu).mono fun e w' h => ⟨h.1, v, h.2⟩
  · have hX : c = 0 := by rw [← HE.out]; unfold addE; rw [if_neg (by omega), if_neg (by rintro (h | h); exact h ht; exact hla h), if_neg (by omega), if_neg hfu]
    exfalso
    exact H0.out hX
end Go.Proofs.Ytkfiekpinojahab
