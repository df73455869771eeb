/-
  CONTRACTS of wire: the reader's Err, Left, End; Var of a reader, in a text of any length.
-/
import Derived.Test.YtjemljhfopgmiaaGreatDoorZ9
namespace Go.Proofs.YtjemljhfopgmiaaGreatDoor
open Go.RowKit
set_option linter.unusedVariables false
set_option linter.unusedSimpArgs false
theorem rd_err (b : Nat) (s : ByteArray) (c : Int) (w : World) (hb : Blk w b 42 #[.string s, .int .i64 c]) :
    Calls Tryz.prog 12 #[.pointer (some ⟨b, 0, none⟩)] w fun e w' => e = .returned (.int .i64 c) ∧ w = w' := by
  have b1 := hb.cell 1
  simp at b1
  go_enter Tryz.func12, Tryz.ntmps12
  go_wp2
  go_ret
  exact ⟨rfl, rfl⟩
theorem rd_left (b : Nat) (s : ByteArray) (c : Int) (hs : s.size ≤ 281474976710656) (w : World) (hb : Blk w b 42 #[.string s, .int .i64 c]) :
    Calls Tryz.prog 11 #[.pointer (some ⟨b, 0, none⟩)] w fun e w' => e = .returned (.int .i64 s.size) ∧ w = w' := by
  have b0 := hb.cell 0
  simp at b0
  go_enter Tryz.func11, Tryz.ntmps11
  go_wp2
  go_ret
  exact ⟨rfl, rfl⟩
/-- What End answers. -/
def endE (s : ByteArray) (c : Int) : Int := if c = 0 then (if s.size = 0 then 0 else 3) else c
set_option maxHeartbeats 800000 in
theorem rd_end (b : Nat) (s : ByteArray) (c : Int) (w : World) (hb : Blk w b 42 #[.string s, .int .i64 c]) :
    Calls Tryz.prog 13 #[.pointer (some ⟨b, 0, none⟩)] w fun e w' => e = .returned (.int .i64 (endE s c)) ∧ w = w' := by
  have b0 := hb.cell 0
  have b1 := hb.cell 1
  simp at b0 b1
  have C := Lib.hid (rd_err b s c w hb)
  by_cases hc : c = 0
  · subst hc
    by_cases h0 : s.size = 0
    · obtain rfl : s = ByteArray.empty := ByteArray.size_eq_zero_iff.1 h0
      go_enter Tryz.func13, Tryz.ntmps13
      go_wp2_with (go_at_call 12; refine C.out.mono ?_)
      rintro e w1 ⟨rfl, rfl⟩
      go_wp2
      go_ret
      exact ⟨rfl, rfl⟩
    · have hne : s.toList.isEmpty = false := nonempty_list (by omega)
      have hne1 : ¬ s.toList = [] := fun h => by rw [h] at hne; exact absurd hne (by decide)
      have hne2 : (!s.toList.isEmpty) = true := by rw [hne]; rfl
      have HE : Hid (endE s 0 = 3) := Lib.hid (by unfold endE; rw [if_pos rfl, if_neg h0])
      go_enter Tryz.func13, Tryz.ntmps13
      go_wp2_with (go_at_call 12; refine C.out.mono ?_)
      rintro e w1 ⟨rfl, rfl⟩
      go_wp2
      go_ret
      exact ⟨ret_int HE.out.symm, rfl⟩
  · have hcc : (c == 0) = false := by simpa using hc
    have hcc2 : (c != 0) = true := by simpa using hc
    have HE : Hid (endE s c = c) := Lib.hid (by unfold endE; rw [if_neg hc])
    go_enter Tryz.func13, Tryz.ntmps13
    go_wp2_with (go_at_call 12; refine C.out.mono ?_)
    rintro e w1 ⟨rfl, rfl⟩
    go_wp2
    go_ret
    exact ⟨ret_int HE.out.symm, rfl⟩
end Go.Proofs.YtjemljhfopgmiaaGreatDoor
