/-
  CONTRACTS of wire: the program's Num.
-/
import Derived.Test.YtjemljhfopgmiaaGreatDoorZ1
namespace Go.Proofs.YtjemljhfopgmiaaGreatDoor
open Go.RowKit Go.Lib
set_option linter.unusedVariables false
set_option linter.unusedSimpArgs false
/-- What Num answers, given that it answers no error. -/
def NumOk (n d : Int) : Prop := 1 ≤ d ∧ d ≤ 15 ∧ 0 ≤ n ∧ n.toNat < 10 ^ d.toNat
theorem ret_sc {a b : ByteArray} {c d : Int} (h : a = b) (h2 : c = d) : Ending.returned (.tuple #[.string a, .int .i64 c]) = .returned (.tuple #[.string b, .int .i64 d]) := by rw [h, h2]
set_option maxHeartbeats 800000 in
theorem num_ok (u d : Nat) (h : u ≤ 9223372036854775807) (d1 : 1 ≤ d) (d2 : d ≤ 15) (hlt : u < 10 ^ d) (w : World) (hT : Pow w) :
    Calls Tryz.prog 21 #[.int .i64 (u : Int), .int .i64 (d : Int)] w fun e w' => e = .returned (.tuple #[.string (decS u d), .int .i64 0]) ∧ Below w.heap.size w w' := by
  have hm : max (nDigits u) d = d := Nat.max_eq_right ((nd_iff u d d1).2 hlt)
  have C := padded_any u h d (by omega) w hT
  rw [hm] at C
  have C := Lib.hid C
  have hz := decS_size u d
  clear hlt hm
  go_enter Tryz.func21, Tryz.ntmps21
  go_wp2_with (go_at_call 38; refine C.out.mono ?_)
  rintro e w1 ⟨rfl, hb1⟩
  go_wp2
  go_ret2
  exact ⟨rfl, hb1⟩
set_option maxHeartbeats 800000 in
theorem num_big (u d : Nat) (h : u ≤ 9223372036854775807) (d1 : 1 ≤ d) (d2 : d ≤ 15) (hge : 10 ^ d ≤ u) (w : World) (hT : Pow w) :
    Calls Tryz.prog 21 #[.int .i64 (u : Int), .int .i64 (d : Int)] w fun e w' => e = .returned (.tuple #[.string ByteArray.empty, .int .i64 4]) ∧ Below w.heap.size w w' := by
  have hlt : d < nDigits u := by
    apply Classical.byContradiction
    intro hn
    have := (nd_iff u d d1).1 (by omega)
    omega
  have hn20 : nDigits u ≤ 19 := (nd_iff u 19 (by omega)).2 (by omega)
  have hm : max (nDigits u) d = nDigits u := Nat.max_eq_left (by omega)
  have C := padded_any u h d (by omega) w hT
  rw [hm] at C
  have C := Lib.hid C
  have hz := decS_size u (nDigits u)
  clear hge hm
  generalize nDigits u = m at *
  go_enter Tryz.func21, Tryz.ntmps21
  go_wp2_with (go_at_call 38; refine C.out.mono ?_)
  rintro e w1 ⟨rfl, hb1⟩
  go_wp2
  go_ret2
  exact ⟨rfl, hb1⟩
set_option maxHeartbeats 800000 in
theorem num_range (n d : Int) (hbad : d < 1 ∨ 15 < d ∨ n < 0) (w : World) :
    Calls Tryz.prog 21 #[.int .i64 n, .int .i64 d] w fun e w' => e = .returned (.tuple #[.string ByteArray.empty, .int .i64 4]) ∧ w = w' := by
  by_cases h1 : d < 1
  · go_enter Tryz.func21, Tryz.ntmps21
    go_wp2
    go_ret2
    exact ⟨rfl, rfl⟩
  · by_cases h2 : 15 < d
    · go_enter Tryz.func21, Tryz.ntmps21
      go_wp2
      go_ret2
      exact ⟨rfl, rfl⟩
    · have h3 : n < 0 := by omega
      go_enter Tryz.func21, Tryz.ntmps21
      go_wp2
      go_ret2
      exact ⟨rfl, rfl⟩
end Go.Proofs.YtjemljhfopgmiaaGreatDoor
