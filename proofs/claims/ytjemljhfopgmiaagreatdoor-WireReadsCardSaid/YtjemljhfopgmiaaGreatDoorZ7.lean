/-
  CONTRACTS of wire: Var, the program's and the specification's.
-/
import Derived.Test.YtjemljhfopgmiaaGreatDoorZ5
namespace Go.Proofs.YtjemljhfopgmiaaGreatDoor
open Go.RowKit
set_option linter.unusedVariables false
set_option linter.unusedSimpArgs false
/-- What Var answers. -/
def VarP (s : ByteArray) (d : Int) (t : ByteArray) (e : Int) : Prop :=
  (d ≠ 2 ∧ d ≠ 3 ∧ t = ByteArray.empty ∧ e = 4) ∨
  ((d = 2 ∨ d = 3) ∧ (255 < s.size ∨ (d = 2 ∧ 99 < s.size)) ∧ t = ByteArray.empty ∧ e = 3) ∨
  ((d = 2 ∨ d = 3) ∧ s.size ≤ 255 ∧ (d = 2 → s.size ≤ 99) ∧ t = decS s.size d.toNat ++ s ∧ e = 0)
theorem VarP.uniq {s : ByteArray} {d : Int} {t t' : ByteArray} {e e' : Int} (h : VarP s d t e) (h' : VarP s d t' e') : t = t' ∧ e = e' := by
  rcases h with ⟨a, b, rfl, rfl⟩ | ⟨a, b, rfl, rfl⟩ | ⟨a, b, c, rfl, rfl⟩ <;>
  rcases h' with ⟨a', b', rfl, rfl⟩ | ⟨a', b', rfl, rfl⟩ | ⟨a', b', c', rfl, rfl⟩ <;>
  first
    | exact ⟨rfl, rfl⟩
    | (exfalso; omega)
theorem VarP.ok {s : ByteArray} {d : Nat} (h : d = 2 ∨ d = 3) (h2 : s.size ≤ 255) (h3 : d = 2 → s.size ≤ 99) : VarP s (d : Int) (decS s.size d ++ s) 0 :=
  .inr (.inr ⟨by omega, h2, fun h => h3 (by omega), rfl, rfl⟩)
theorem pad_fit (u d : Nat) (hu : u ≤ 255) (d1 : 1 ≤ d) (d3 : d ≤ 3) (hlt : u < 10 ^ d) (w : World) (hT : Pow w) :
    Calls Tryz.prog 38 #[.int .i64 (u : Int), .int .i64 (d : Int)] w fun e w' => e = .returned (.string (decS u d)) ∧ Below w.heap.size w w' := by
  have := padded_any u (by omega) d (by omega) w hT
  rw [Nat.max_eq_right ((nd_iff u d d1).2 hlt)] at this
  exact this
set_option maxHeartbeats 1600000 in
theorem var_any (s : ByteArray) (d : Int) (hs : s.size ≤ 281474976710656) (w : World) (hT : Pow w) :
    Calls Tryz.prog 23 #[.string s, .int .i64 d] w fun e w' => (∃ t c, VarP s d t c ∧ e = .returned (.tuple #[.string t, .int .i64 c])) ∧ Below w.heap.size w w' := by
  by_cases h2 : d = 2
  · subst h2
    by_cases h3 : 255 < s.size
    · go_enter Tryz.func23, Tryz.ntmps23
      go_wp2
      go_ret2
      exact ⟨⟨_, _, .inr (.inl ⟨.inl rfl, .inl h3, rfl, rfl⟩), rfl⟩, Below.refl _ _⟩
    · by_cases h4 : 99 < s.size
      · go_enter Tryz.func23, Tryz.ntmps23
        go_wp2
        go_ret2
        exact ⟨⟨_, _, .inr (.inl ⟨.inl rfl, .inr ⟨rfl, h4⟩, rfl, rfl⟩), rfl⟩, Below.refl _ _⟩
      · have hz := decS_size s.size 2
        have C := Lib.hid (pad_fit s.size 2 (by omega) (by decide) (by decide) (by omega) w hT)
        have HA := Lib.hid (VarP.ok (s := s) (d := 2) (.inl rfl) (by omega) (fun _ => by omega))
        go_enter Tryz.func23, Tryz.ntmps23
        go_wp2_with (go_at_call 38; refine C.out.mono ?_)
        rintro e w1 ⟨rfl, hb1⟩
        generalize decS s.size 2 = q at *
        go_wp2
        go_ret2
        exact ⟨⟨_, _, HA.out, rfl⟩, hb1⟩
  · by_cases h3 : d = 3
    · subst h3
      by_cases h3 : 255 < s.size
      · go_enter Tryz.func23, Tryz.ntmps23
        go_wp2
        go_ret2
        exact ⟨⟨_, _, .inr (.inl ⟨.inr rfl, .inl h3, rfl, rfl⟩), rfl⟩, Below.refl _ _⟩
      · have hz := decS_size s.size 3
        have C := Lib.hid (pad_fit s.size 3 (by omega) (by decide) (by decide) (by omega) w hT)
        have HA := Lib.hid (VarP.ok (s := s) (d := 3) (.inr rfl) (by omega) (fun h => absurd h (by decide)))
        go_enter Tryz.func23, Tryz.ntmps23
        go_wp2_with (go_at_call 38; refine C.out.mono ?_)
        rintro e w1 ⟨rfl, hb1⟩
        generalize decS s.size 3 = q at *
        go_wp2
        go_ret2
        exact ⟨⟨_, _, HA.out, rfl⟩, hb1⟩
    · have e2 : (d != 2) = true := by simpa using h2
      have e3 : (d != 3) = true := by simpa using h3
      go_enter Tryz.func23, Tryz.ntmps23
      go_wp2
      go_ret2
      exact ⟨⟨_, _, .inl ⟨h2, h3, rfl, rfl⟩, rfl⟩, Below.refl _ _⟩
end Go.Proofs.YtjemljhfopgmiaaGreatDoor
