/-
  CONTRACTS of wire: awake.
-/
import Derived.Test.YtjemljhfopgmiaaGreatDoorZ16
namespace Go.Proofs.YtjemljhfopgmiaaGreatDoor
open Go.RowKit
set_option linter.unusedVariables false
set_option linter.unusedSimpArgs false
theorem varR_ex {n : Nat} {c : Int} {t : ByteArray} (h : VarR ⟨#[48, 51, 97, 98, 99]⟩ 2 2 n c t) : c = 3 ∧ t = ByteArray.empty := by
  have hD : Dgs ((⟨#[48, 51, 97, 98, 99]⟩ : ByteArray).extract 0 2) := fun k hk => by
    have hk2 : k < 2 := hk
    rcases (show k = 0 ∨ k = 1 by omega) with rfl | rfl <;> exact ⟨by decide, by decide⟩
  obtain ⟨v, e, hN, h⟩ := h
  have hv : v = 3 ∧ e = 0 := by
    rcases hN with hN | hN | hN
    · exact absurd hN.1 (by decide)
    · exact absurd hD hN.2.1
    · exact ⟨hN.2.2.1.trans (by decide), hN.2.2.2⟩
  obtain ⟨rfl, rfl⟩ := hv
  rcases h with h | h | h | h
  · exact absurd rfl h.1
  · exact ⟨h.2.2.2.1, h.2.2.2.2⟩
  · exact absurd h.2.1 (by decide)
  · exact absurd h.2.1 (by decide)
theorem Pow.up {w w' : World} {B : Nat} (h : Pow w) (hb : Below B w w') (hB : 3 ≤ B) : Pow w' := h.later hb hB
set_option maxHeartbeats 3200000 in
set_option maxRecDepth 20000 in
theorem awake_any (w : World) (hT : Pow w) (hw : 3 ≤ w.heap.size) : Calls Tryz.prog 4 #[] w fun e w' => e = .returned (.bool true) ∧ Below w.heap.size w w' := by
  have hcat : ((⟨#[48, 48, 55]⟩ : ByteArray) ++ (⟨#[97, 98, 32, 32]⟩ : ByteArray) ++ (⟨#[48, 51, 120, 124, 121]⟩ : ByteArray)).toList = [48, 48, 55, 97, 98, 32, 32, 48, 51, 120, 124, 121] := by decide +kernel
  have hcat1 : (((⟨#[48, 48, 55]⟩ : ByteArray) ++ (⟨#[97, 98, 32, 32]⟩ : ByteArray) ++ (⟨#[48, 51, 120, 124, 121]⟩ : ByteArray)).toList == [48, 48, 55, 97, 98, 32, 32, 48, 51, 120, 124, 121]) = true := by rw [hcat]; rfl
  go_enter Tryz.func4, Tryz.ntmps4
  go_wp2_with fail
  go_at_call 21
  refine (a_num _ hT).mono ?_
  rintro e w1 ⟨rfl, hb1⟩
  go_wp2_with fail
  go_at_call 22
  refine (a_alpha _).mono ?_
  rintro e w2 ⟨rfl, hb2⟩
  have hB2 := hb1.trans (hb2.mono hb1.size)
  go_wp2_with fail
  go_at_call 23
  refine (a_var _ (hT.later hB2 hw)).mono ?_
  rintro e w3 ⟨rfl, hb3⟩
  have hB3 := hB2.trans (hb3.mono hB2.size)
  go_wp2_with fail
  go_at_call 24
  refine (a_hex _).mono ?_
  rintro e w4 ⟨rfl, hb4⟩
  have hB4 := hB3.trans (hb4.mono hB3.size)
  go_wp2_with fail
  go_at_call 5
  refine (newReader_any _ _).mono ?_
  rintro e w5 ⟨rfl, hr, hb5⟩
  have hB5 := hB4.trans (hb5.mono hB4.size)
  go_wp2_with fail
  go_at_call 9
  refine (rd_var_2 w4.heap.size _ 2 (by decide) (by decide) w.heap.size _ hr hB4.size).mono ?_
  rintro e w6 ⟨n, c, t, hV, rfl, hr6, hb6⟩
  obtain ⟨rfl, rfl⟩ := varR_ex hV
  rw [if_neg (by decide)] at hr6
  have hB6 := hB5.trans hb6
  clear hV
  go_wp2_with fail
  go_at_call 12
  refine (rd_err _ _ _ _ hr6).mono ?_
  rintro e w7 ⟨rfl, rfl⟩
  go_wp2_with fail
  go_at_call 11
  refine (rd_left _ _ _ (by decide) _ hr6).mono ?_
  rintro e w7 ⟨rfl, rfl⟩
  go_wp2
  go_ret
  exact ⟨rfl, hB6⟩
end Go.Proofs.YtjemljhfopgmiaaGreatDoor
