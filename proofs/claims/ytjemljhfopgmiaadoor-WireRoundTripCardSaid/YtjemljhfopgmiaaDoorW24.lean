/-
  CONTRACTS of wire: Num of any arguments, the program's and the specification's.
-/
import Derived.Test.YtjemljhfopgmiaaDoorW23
namespace Go.Proofs.YtjemljhfopgmiaaDoor
open Go.RowKit
set_option linter.unusedVariables false
set_option linter.unusedSimpArgs false
/-- What Num answers. -/
def NumA (n d : Int) (t : ByteArray) (e : Int) : Prop :=
  (¬ (1 ≤ d ∧ d ≤ 15 ∧ 0 ≤ n ∧ n.toNat < 10 ^ d.toNat) ∧ t = ByteArray.empty ∧ e = 4) ∨
  ((1 ≤ d ∧ d ≤ 15 ∧ 0 ≤ n ∧ n.toNat < 10 ^ d.toNat) ∧ t = decS n.toNat d.toNat ∧ e = 0)
theorem NumA.uniq {n d : Int} {t t' : ByteArray} {e e' : Int} (h : NumA n d t e) (h' : NumA n d t' e') : t = t' ∧ e = e' := by
  rcases h with ⟨a, rfl, rfl⟩ | ⟨a, rfl, rfl⟩ <;> rcases h' with ⟨a', rfl, rfl⟩ | ⟨a', rfl, rfl⟩
  · exact ⟨rfl, rfl⟩
  · exact absurd a' a
  · exact absurd a a'
  · exact ⟨rfl, rfl⟩
theorem rnum_range (n d : Int) (hbad : d < 1 ∨ 15 < d ∨ n < 0) (w : World) :
    Calls Tryd.prog 8 #[.int .i64 n, .int .i64 d] w fun e w' => e = .returned (.tuple #[.string ByteArray.empty, .int .i64 4]) ∧ w = w' := by
  by_cases h1 : d < 1
  · go_enter Tryd.func8, Tryd.ntmps8
    go_wp2
    go_ret2
    exact ⟨rfl, rfl⟩
  · by_cases h2 : 15 < d
    · go_enter Tryd.func8, Tryd.ntmps8
      go_wp2
      go_ret2
      exact ⟨rfl, rfl⟩
    · have h3 : n < 0 := by omega
      go_enter Tryd.func8, Tryd.ntmps8
      go_wp2
      go_ret2
      exact ⟨rfl, rfl⟩
theorem num_any (n d : Int) (n1 : n ≤ 9223372036854775807) (w : World) (hT : Pow w) :
    Calls Tryd.prog 7 #[.int .i64 n, .int .i64 d] w fun e w' => (∃ t c, NumA n d t c ∧ e = .returned (.tuple #[.string t, .int .i64 c])) ∧ Below w.heap.size w w' := by
  by_cases hbad : d < 1 ∨ 15 < d ∨ n < 0
  · refine (num_range n d hbad w).mono ?_
    rintro e w' ⟨rfl, rfl⟩
    exact ⟨⟨_, _, .inl ⟨by omega, rfl, rfl⟩, rfl⟩, Below.refl _ _⟩
  · obtain ⟨u, rfl⟩ := Int.eq_ofNat_of_zero_le (show 0 ≤ n by omega)
    obtain ⟨k, rfl⟩ := Int.eq_ofNat_of_zero_le (show 0 ≤ d by omega)
    by_cases hlt : u < 10 ^ k
    · refine (num_ok u k (by omega) (by omega) (by omega) hlt w hT).mono ?_
      rintro e w' ⟨rfl, hb⟩
      exact ⟨⟨_, _, .inr ⟨⟨by omega, by omega, by omega, hlt⟩, rfl, rfl⟩, rfl⟩, hb⟩
    · refine (num_big u k (by omega) (by omega) (by omega) (by omega) w hT).mono ?_
      rintro e w' ⟨rfl, hb⟩
      exact ⟨⟨_, _, .inl ⟨fun h => hlt h.2.2.2, rfl, rfl⟩, rfl⟩, hb⟩
theorem rnum_any (n d : Int) (n1 : n ≤ 9223372036854775807) (w : World) :
    Calls Tryd.prog 8 #[.int .i64 n, .int .i64 d] w fun e w' => (∃ t c, NumA n d t c ∧ e = .returned (.tuple #[.string t, .int .i64 c])) ∧ Below w.heap.size w w' := by
  by_cases hbad : d < 1 ∨ 15 < d ∨ n < 0
  · refine (rnum_range n d hbad w).mono ?_
    rintro e w' ⟨rfl, rfl⟩
    exact ⟨⟨_, _, .inl ⟨by omega, rfl, rfl⟩, rfl⟩, Below.refl _ _⟩
  · obtain ⟨u, rfl⟩ := Int.eq_ofNat_of_zero_le (show 0 ≤ n by omega)
    obtain ⟨k, rfl⟩ := Int.eq_ofNat_of_zero_le (show 0 ≤ d by omega)
    refine (rnum_all u k (by omega) (by omega) (by omega) w).mono ?_
    rintro e w' ⟨⟨hlt, rfl⟩ | ⟨hge, rfl⟩, hb⟩
    · exact ⟨⟨_, _, .inr ⟨⟨by omega, by omega, by omega, hlt⟩, rfl, rfl⟩, rfl⟩, hb⟩
    · exact ⟨⟨_, _, .inl ⟨fun h => absurd h.2.2.2 (Nat.not_lt.2 hge), rfl, rfl⟩, rfl⟩, hb⟩
theorem ralpha_bel (s : ByteArray) (d : Int) (hs : s.size ≤ 281474976710656) (w : World) :
    Calls Tryd.prog 10 #[.string s, .int .i64 d] w fun e w' => (∃ t c, AlphaP s d t c ∧ e = .returned (.tuple #[.string t, .int .i64 c])) ∧ Below w.heap.size w w' := by
  refine (ralpha_any s d hs w).mono ?_
  rintro e w' ⟨h, rfl⟩
  exact ⟨h, Below.refl _ _⟩
end Go.Proofs.YtjemljhfopgmiaaDoor
