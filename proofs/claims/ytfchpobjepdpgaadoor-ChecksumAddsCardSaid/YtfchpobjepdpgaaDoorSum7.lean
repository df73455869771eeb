/-
  CONTRACT of the examples of the chapter, which every statement of the layer checks.
-/
import Derived.Test.YtfchpobjepdpgaaDoorSum3
import Derived.Test.YtfchpobjepdpgaaDoorSum4
import Derived.Test.YtfchpobjepdpgaaDoorSum6
namespace Go.Proofs.YtfchpobjepdpgaaDoor
open Go.RowKit
set_option linter.unusedVariables false
abbrev sA : ByteArray := ⟨#[97]⟩
abbrev sOk : ByteArray := ⟨#[97, 101, 56, 98, 55, 98, 101, 52, 51]⟩
abbrev sBad : ByteArray := ⟨#[97, 101, 56, 98, 55, 98, 101, 52, 52]⟩
abbrev sShort : ByteArray := ⟨#[56, 98, 55, 98, 101, 52, 51]⟩
abbrev sNine : ByteArray := ⟨#[49, 50, 51, 52, 53, 54, 55, 56, 57]⟩
abbrev sT1 : ByteArray := ⟨#[52, 48, 48, 48, 48, 48, 48, 48, 48, 48, 48, 48, 48, 48, 55, 55]⟩
abbrev sT2 : ByteArray := ⟨#[57, 57, 120, 57, 57, 57, 57, 57, 57, 57]⟩
theorem ok_sealed : sealed sOk := by unfold sealed; decide +kernel
theorem bad_sealed : ¬ sealed sBad := by unfold sealed; decide +kernel
theorem inner_ok : sOk.extract 0 (sOk.size - 8) = sA := by decide +kernel
theorem crc_nine : (crcN sNine : Int) = 3421780262 := by decide +kernel
theorem hash_a : (hashN sA : Int) = 12638187200555641996 := by decide +kernel
theorem tot_two : (totL [sT1, sT2] : Int) = 10000076 := by decide +kernel
theorem seal_a : sA ++ hexS (crcN sA) 8 = sOk := by decide +kernel
theorem strs_two (w : World) (a b : ByteArray) (t : TypeId) : Strs (w.alloc (.cells #[.string a, .string b] t)) (some ⟨w.heap.size, 0, none⟩) 2 [a, b] := by
  have hc := (Blk.new w t #[Value.string a, Value.string b]).cell
  refine ⟨rfl, fun _ => ⟨_, rfl, by simp, fun j u hu => ?_⟩⟩
  match j, hu with
  | 0, hu => exact (hc 0).trans (by simpa using hu)
  | 1, hu => exact (hc 1).trans (by simpa using hu)
theorem awake_any (w : World) (hT : Tab w) :
    Calls Tryd.prog 9 #[] w fun e w' => e = .returned (.bool true) ∧ Below w.heap.size w w' := by
  have HT := Lib.hid hT
  clear hT
  go_enter Tryd.func9, Tryd.ntmps9
  go_wp2_with fail
  refine (open_ok sOk (by decide) (by decide) _ HT.out ok_sealed).mono ?_
  rintro e w1 ⟨rfl, hb1⟩
  have HT1 := Lib.hid (HT.out.below hb1 HT.out.1)
  rw [inner_ok]
  go_wp2_with fail
  refine (open_bad sBad (by decide) (by decide) _ HT1.out bad_sealed).mono ?_
  rintro e w2 ⟨rfl, hb2⟩
  have HT2 := Lib.hid (HT1.out.below hb2 HT1.out.1)
  go_wp2_with fail
  refine (open_short sShort (by decide) _).mono ?_
  rintro e w3 ⟨rfl, rfl⟩
  go_wp2_with fail
  refine (crc_any sNine (by decide) _).mono ?_
  rintro e w3 ⟨rfl, rfl⟩
  rw [crc_nine]
  go_wp2_with fail
  refine (hash_any sA (by decide) _).mono ?_
  rintro e w3 ⟨rfl, rfl⟩
  rw [hash_a]
  go_wp2_with fail
  refine (total_any _ 2 2 [sT1, sT2] _ (strs_two _ _ _ _) (by decide) (by decide)).mono ?_
  rintro e w3 ⟨rfl, rfl⟩
  rw [tot_two]
  have hb3 := (hb1.trans (hb2.mono hb1.size)).alloc (Nat.le_trans hb1.size hb2.size)
  go_wp2_with fail
  refine (seal2_any sA (by decide) _ (HT2.out.below ((Below.refl _ _).alloc (Nat.le_refl _) _) HT2.out.1)).mono ?_
  rintro e w3 ⟨rfl, hb4⟩
  rw [seal_a]
  go_wp2
  go_ret
  exact ⟨rfl, (hb3 _).trans (hb4.mono (by simp; have := hb1.size; have := hb2.size; omega))⟩
end Go.Proofs.YtfchpobjepdpgaaDoor
