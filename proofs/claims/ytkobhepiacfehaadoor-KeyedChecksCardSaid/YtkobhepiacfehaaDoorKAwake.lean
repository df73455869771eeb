/-
  CONTRACT of the examples of the chapter on keyed digests, which every statement of the layer checks.
-/
import Derived.Test.YtkobhepiacfehaaDoorKNum
namespace Go.Proofs.YtkobhepiacfehaaDoor
open Go.RowKit
set_option linter.unusedVariables false
def Std (w : World) : Prop := Tab w ∧ Pow w
theorem Std.below {w w' : World} (h : Std w) (hb : Below w.heap.size w w') : Std w' := ⟨h.1.below hb h.1.1, h.2.below hb (Nat.lt_of_le_of_lt (Nat.zero_le _) h.1.1)⟩
theorem Std.pos {w : World} (h : Std w) : 0 < w.heap.size := Nat.lt_of_le_of_lt (Nat.zero_le _) h.1.1
abbrev sFF : ByteArray := ⟨#[48, 48, 48, 48, 48, 48, 48, 48, 48, 48, 48, 48, 48, 48, 102, 102]⟩
abbrev s345 : ByteArray := ⟨#[51, 52, 53]⟩
abbrev s0007 : ByteArray := ⟨#[48, 48, 48, 55]⟩
theorem ff_eq : hexS 255 16 = sFF := by decide +kernel
theorem d345 : decS 12345 3 = s345 := by decide +kernel
theorem d0007 : decS 7 4 = s0007 := by decide +kernel
theorem aw1 (w : World) (h : Std w) : Calls Tryd.prog 9 #[.int .u64 12345, .int .i64 3] w fun e w' => e = .returned (.tuple #[.string s345, .int .i64 0]) ∧ Below w.heap.size w w' := by
  have := code_ok 12345 (by omega) 3 (by omega) (by omega) w h.2
  rw [d345] at this
  exact this
theorem aw2 (w : World) (h : Std w) : Calls Tryd.prog 9 #[.int .u64 7, .int .i64 4] w fun e w' => e = .returned (.tuple #[.string s0007, .int .i64 0]) ∧ Below w.heap.size w w' := by
  have := code_ok 7 (by omega) 4 (by omega) (by omega) w h.2
  rw [d0007] at this
  exact this
theorem aw3 (w : World) : Calls Tryd.prog 9 #[.int .u64 5, .int .i64 13] w fun e w' => e = .returned (.tuple #[.string ByteArray.empty, .int .i64 4]) ∧ w = w' := code_bad 5 13 (by omega) w
theorem aw4 (w : World) : Calls Tryd.prog 16 #[.string sFF] w fun e w' => e = .returned (.tuple #[.int .u64 255, .int .i64 0]) ∧ Below w.heap.size w w' := by
  have := number_any 255 (by omega) w
  rw [ff_eq] at this
  exact this
theorem aw5 (w : World) (h : Std w) : Calls Tryd.prog 14 #[.int .u64 255] w fun e w' => e = .returned (.string sFF) ∧ Below w.heap.size w w' := by
  have := text_any 255 (by omega) w h.1
  rw [ff_eq] at this
  exact this
theorem aw6 (w : World) : Calls Tryd.prog 18 #[.int .u64 1, .string ⟨#[97]⟩, .string ⟨#[]⟩] w fun e w' => e = .returned (.bool false) ∧ Below w.heap.size w w' := verify_out 1 (by omega) ⟨#[97]⟩ ⟨#[]⟩ (by decide) (by decide) (by decide) w
theorem awake_any (w : World) (hT : Std w) :
    Calls Tryd.prog 7 #[] w fun e w' => e = .returned (.bool true) ∧ Below w.heap.size w w' := by
  have HT := Lib.hid hT
  clear hT
  go_enter Tryd.func7, Tryd.ntmps7
  go_wp2_with fail
  refine (aw1 _ HT.out).mono ?_
  rintro e w1 ⟨rfl, hb1⟩
  have HT1 := Lib.hid (HT.out.below hb1)
  go_wp2_with fail
  refine (aw2 _ HT1.out).mono ?_
  rintro e w2 ⟨rfl, hb2⟩
  have HT2 := Lib.hid (HT1.out.below hb2)
  have hc2 := hb1.trans (hb2.mono hb1.size)
  clear hb1 hb2 HT1
  go_wp2_with fail
  refine (aw3 _).mono ?_
  rintro e w3 ⟨rfl, rfl⟩
  go_wp2_with fail
  refine (aw4 _).mono ?_
  rintro e w4 ⟨rfl, hb4⟩
  have HT4 := Lib.hid (HT2.out.below hb4)
  have hc4 := hc2.trans (hb4.mono hc2.size)
  clear hb4 hc2 HT2
  go_wp2_with fail
  refine (aw5 _ HT4.out).mono ?_
  rintro e w5 ⟨rfl, hb5⟩
  have hc5 := hc4.trans (hb5.mono hc4.size)
  clear hb5 hc4 HT4
  go_wp2_with fail
  refine (aw6 _).mono ?_
  rintro e w6 ⟨rfl, hb6⟩
  have hc6 := hc5.trans (hb6.mono hc5.size)
  clear hb6 hc5
  go_wp2
  go_ret
  exact ⟨rfl, hc6⟩
end Go.Proofs.YtkobhepiacfehaaDoor
