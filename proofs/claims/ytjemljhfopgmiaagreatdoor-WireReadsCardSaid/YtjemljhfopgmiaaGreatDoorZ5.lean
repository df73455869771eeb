/-
  CONTRACTS of wire: blank ends, the program's Alpha.
-/
import Derived.Test.YtjemljhfopgmiaaGreatDoorZ4
namespace Go.Proofs.YtjemljhfopgmiaaGreatDoor
open Go.RowKit
set_option linter.unusedVariables false
set_option linter.unusedSimpArgs false
/-- The text ends with a space. -/
def Blank (s : ByteArray) : Prop := 0 < s.size ∧ byt s (s.size - 1) = 32
theorem blank_iff (s : ByteArray) : Lib.hasSuffix s.data.toList [32] = true ↔ Blank s := by
  unfold Lib.hasSuffix Blank byt
  rw [List.isSuffixOf_iff_suffix]
  have hz : s.size = s.data.toList.length := rfl
  rw [hz]
  generalize s.data.toList = l
  constructor
  · rintro ⟨t, rfl⟩
    simp
  · rintro ⟨h0, h1⟩
    have hne : l ≠ [] := by intro h; subst h; simp at h0
    refine ⟨l.dropLast, ?_⟩
    have hg : l.getLast hne = 32 := by
      rw [List.getLast_eq_getElem]
      rw [List.getD_eq_getElem?_getD, List.getElem?_eq_getElem (by omega)] at h1
      simp at h1
      exact UInt8.toNat_inj.1 (Int.ofNat_inj.1 h1)
    rw [← hg]
    exact List.dropLast_concat_getLast hne
/-- k spaces. -/
def sps (k : Nat) : ByteArray := ⟨(List.replicate k (32 : UInt8)).toArray⟩
theorem sps_size (k : Nat) : (sps k).size = k := by show (List.replicate k (32 : UInt8)).toArray.size = k; simp
theorem sps_rep (k : Nat) : (⟨(Lib.repeatL (⟨#[32]⟩ : ByteArray).data.toList k).toArray⟩ : ByteArray) = sps k := by
  have := Lib.repeatL_replicate 32 1 k
  rw [Nat.mul_one] at this
  unfold sps
  rw [← this]
  rfl
theorem rep_any (k : Nat) (h : k ≤ 255) (w : World) : Calls Tryz.prog 40 #[.string ⟨#[32]⟩, .int .i64 (k : Int)] w fun e w' => e = .returned (.string (sps k)) ∧ Below w.heap.size w w' := by
  have := Tryz.strings_Repeat ⟨#[32]⟩ k w (by omega) (by show 1 * k ≤ _; omega)
  rw [sps_rep] at this
  exact this
theorem suf_any (s : ByteArray) (hs : s.size ≤ 9223372036854775807) (w : World) : Calls Tryz.prog 39 #[.string s, .string ⟨#[32]⟩] w fun e w' => ((Blank s ∧ e = .returned (.bool true)) ∨ (¬ Blank s ∧ e = .returned (.bool false))) ∧ w' = w := by
  refine (Tryz.strings_HasSuffix s ⟨#[32]⟩ w hs).mono ?_
  rintro e w' ⟨rfl, rfl⟩
  refine ⟨?_, rfl⟩
  by_cases h : Blank s
  · exact .inl ⟨h, by rw [show (⟨#[32]⟩ : ByteArray).data.toList = [32] from rfl, (blank_iff s).2 h]⟩
  · refine .inr ⟨h, ?_⟩
    cases hv : Lib.hasSuffix s.data.toList (⟨#[32]⟩ : ByteArray).data.toList
    · rfl
    · exact absurd ((blank_iff s).1 hv) h
/-- What Alpha answers. -/
def AlphaP (s : ByteArray) (d : Int) (t : ByteArray) (e : Int) : Prop :=
  ((d < 1 ∨ 255 < d) ∧ t = ByteArray.empty ∧ e = 4) ∨
  (1 ≤ d ∧ d ≤ 255 ∧ d < s.size ∧ t = ByteArray.empty ∧ e = 3) ∨
  (1 ≤ d ∧ d ≤ 255 ∧ s.size ≤ d ∧ (¬ Prs s ∨ Blank s) ∧ t = ByteArray.empty ∧ e = 2) ∨
  (1 ≤ d ∧ d ≤ 255 ∧ s.size ≤ d ∧ Prs s ∧ ¬ Blank s ∧ t = s ++ sps (d.toNat - s.size) ∧ e = 0)
theorem AlphaP.uniq {s : ByteArray} {d : Int} {t t' : ByteArray} {e e' : Int} (h : AlphaP s d t e) (h' : AlphaP s d t' e') : t = t' ∧ e = e' := by
  rcases h with ⟨a, rfl, rfl⟩ | ⟨a, b, c, rfl, rfl⟩ | ⟨a, b, c, f, rfl, rfl⟩ | ⟨a, b, c, f, g, rfl, rfl⟩ <;>
  rcases h' with ⟨a', rfl, rfl⟩ | ⟨a', b', c', rfl, rfl⟩ | ⟨a', b', c', f', rfl, rfl⟩ | ⟨a', b', c', f', g', rfl, rfl⟩ <;>
  first
    | exact ⟨rfl, rfl⟩
    | (exfalso; omega)
    | (exfalso; rcases f with f | f <;> contradiction)
    | (exfalso; rcases f' with f' | f' <;> contradiction)
set_option maxHeartbeats 1600000 in
theorem alpha_any (s : ByteArray) (d : Int) (hs : s.size ≤ 281474976710656) (w : World) :
    Calls Tryz.prog 22 #[.string s, .int .i64 d] w fun e w' => (∃ t c, AlphaP s d t c ∧ e = .returned (.tuple #[.string t, .int .i64 c])) ∧ Below w.heap.size w w' := by
  by_cases h1 : d < 1
  · go_enter Tryz.func22, Tryz.ntmps22
    go_wp2
    go_ret2
    exact ⟨⟨_, _, .inl ⟨.inl h1, rfl, rfl⟩, rfl⟩, Below.refl _ _⟩
  by_cases h2 : 255 < d
  · go_enter Tryz.func22, Tryz.ntmps22
    go_wp2
    go_ret2
    exact ⟨⟨_, _, .inl ⟨.inr h2, rfl, rfl⟩, rfl⟩, Below.refl _ _⟩
  by_cases h3 : d < s.size
  · go_enter Tryz.func22, Tryz.ntmps22
    go_wp2
    go_ret2
    exact ⟨⟨_, _, .inr (.inl ⟨by omega, by omega, h3, rfl, rfl⟩), rfl⟩, Below.refl _ _⟩
  have hz := sps_size (d.toNat - s.size)
  go_enter Tryz.func22, Tryz.ntmps22
  go_wp2_with fail
  go_at_call 29
  refine (pr_any s hs _).mono ?_
  rintro e w1 ⟨he, rfl⟩
  rcases he with ⟨hp, rfl⟩ | ⟨hp, rfl⟩
  · have HP := Lib.hid hp
    clear hp
    go_wp2_with fail
    go_at_call 39
    refine (suf_any s (by omega) _).mono ?_
    rintro e w1 ⟨he, rfl⟩
    rcases he with ⟨hb, rfl⟩ | ⟨hb, rfl⟩
    · have HB := Lib.hid hb
      clear hb
      go_wp2
      go_ret2
      exact ⟨⟨_, _, .inr (.inr (.inl ⟨by omega, by omega, by omega, .inr HB.out, rfl, rfl⟩)), rfl⟩, Below.refl _ _⟩
    · have HB := Lib.hid hb
      clear hb
      obtain ⟨k, rfl⟩ := Int.eq_ofNat_of_zero_le (show 0 ≤ d by omega)
      have hk : (k : Int) - (s.size : Int) = ((k - s.size : Nat) : Int) := by omega
      have hz2 := sps_size (k - s.size)
      have HA : Hid (AlphaP s (k : Int) (s ++ sps (k - s.size)) 0) := Lib.hid (.inr (.inr (.inr ⟨by omega, by omega, by omega, HP.out, HB.out, rfl, rfl⟩)))
      go_wp2_with fail
      refine (rep_any _ (by omega) _).mono ?_
      rintro e w2 ⟨rfl, hb2⟩
      generalize sps (k - s.size) = q at *
      go_wp2
      go_ret2
      exact ⟨⟨_, _, HA.out, rfl⟩, hb2⟩
  · have HP := Lib.hid hp
    clear hp
    go_wp2
    go_ret2
    exact ⟨⟨_, _, .inr (.inr (.inl ⟨by omega, by omega, by omega, .inl HP.out, rfl, rfl⟩)), rfl⟩, Below.refl _ _⟩
end Go.Proofs.YtjemljhfopgmiaaGreatDoor
