/-
  CONTRACTS of rates: Cut at a slash.
-/
import Derived.Test.YtobnkfgikafanaaDoorR16
namespace Go.Proofs.YtobnkfgikafanaaDoor
open Go.RowKit Go.Lib
set_option linter.unusedVariables false
set_option linter.unusedSimpArgs false
/-- The first slash of a text. -/
structure Cut1 (s : ByteArray) (i : Nat) : Prop where
  lt : i < s.size
  hit : byt s i = 47
  miss : ∀ j, j < i → byt s j ≠ 47
theorem idx_list : ∀ l : List UInt8, (∃ i, i < l.length ∧ l.getD i 0 = 47 ∧ (∀ j, j < i → l.getD j 0 ≠ 47) ∧ indexByte l 47 = (i : Int)) ∨ ((∀ j, j < l.length → l.getD j 0 ≠ 47) ∧ indexByte l 47 = -1)
  | [] => .inr ⟨fun j hj => absurd hj (by simp), rfl⟩
  | b :: l => by
    by_cases hb : b = 47
    · subst hb
      exact .inl ⟨0, by simp, rfl, fun j hj => absurd hj (by omega), by simp [indexByte]⟩
    · have hb2 : (b == 47) = false := by simp [hb]
      rcases idx_list l with ⟨i, h1, h2, h3, h4⟩ | ⟨h1, h2⟩
      · refine .inl ⟨i + 1, by simpa using h1, by simpa using h2, fun j hj => ?_, ?_⟩
        · rcases j with _ | j
          · simpa using hb
          · simpa using h3 j (by omega)
        · have hne : ((i : Int) == -1) = false := by simp <;> omega
          simp only [indexByte, hb2, h4, hne]
          simp
      · refine .inr ⟨fun j hj => ?_, ?_⟩
        · rcases j with _ | j
          · simpa using hb
          · simpa using h1 j (by simpa using hj)
        · simp [indexByte, hb2, h2]
theorem u47 {b : UInt8} : ((b.toNat : Int) = 47) ↔ b = 47 := by
  constructor
  · intro h
    exact UInt8.toNat_inj.1 (by have : (47 : UInt8).toNat = 47 := rfl; omega)
  · intro h; subst h; rfl
theorem idx_cases (s : ByteArray) : (∃ i, Cut1 s i ∧ indexByte s.data.toList 47 = (i : Int)) ∨ ((∀ j, j < s.size → byt s j ≠ 47) ∧ indexByte s.data.toList 47 = -1) := by
  rcases idx_list s.data.toList with ⟨i, h1, h2, h3, h4⟩ | ⟨h1, h2⟩
  · exact .inl ⟨i, ⟨h1, u47.2 h2, fun j hj => fun h => h3 j hj (u47.1 h)⟩, h4⟩
  · exact .inr ⟨fun j hj => fun h => h1 j hj (u47.1 h), h2⟩
theorem cut1_idx {s : ByteArray} {i : Nat} (h : Cut1 s i) : indexByte s.data.toList 47 = (i : Int) := by
  rcases idx_cases s with ⟨k, hk, hi⟩ | ⟨hn, _⟩
  · rcases Nat.lt_trichotomy k i with hl | he | hl
    · exact absurd hk.hit (h.miss k hl)
    · rw [hi, he]
    · exact absurd h.hit (hk.miss i hl)
  · exact absurd h.hit (hn i h.lt)
set_option maxHeartbeats 800000 in
theorem lcut_yes (s : ByteArray) (hs : s.size ≤ 1000) (i : Nat) (h : Cut1 s i) (w : World) : Calls Tryd.prog 57 #[.string s, .string ⟨#[47]⟩] w fun e w' => e = .returned (.tuple #[.string (s.extract 0 i), .string (s.extract (i + 1) s.size), .bool true]) ∧ Pushed w w' := by
  have hi := h.lt
  have IX : Hid (∀ w, Calls Tryd.prog 64 #[.string s, .string ⟨#[47]⟩] w fun e w' => e = .returned (.int .i64 (i : Int)) ∧ w = w') := Lib.hid fun w => (Tryd.stringslite_Index_one s 47 w).mono fun e w' h' => by
    obtain ⟨rfl, rfl⟩ := h'
    exact ⟨by rw [cut1_idx h], rfl⟩
  have s1 := fun w => sl_h s i (by omega) (j := (i : Int)) rfl w
  have s2 := fun w => sl_l s (i + 1) (by omega) (i := (i : Int) + 1) (by omega) w
  have s3 := fun w => sl_l s (i + 1) (by omega) (i := IntKind.i64.wrap ((i : Int) + 1)) (by rw [IntWalk.i64_in _ (by omega)]; omega) w
  have z0 : (⟨#[47]⟩ : ByteArray).size = 1 := rfl
  clear h
  generalize s.extract 0 i = a at *
  generalize s.extract (i + 1) s.size = b at *
  go_enter Tryd.func57, Tryd.ntmps57
  go_wp2_with fail
  refine (IX.out _).mono ?_
  rintro e w' ⟨rfl, rfl⟩
  go_wp2_with fail
  go_quiet (fail)
  go_wp2
  go_ret3
  exact ⟨rfl, (by repeat (first | with_reducible exact Pushed.refl _ | with_reducible assumption | with_reducible refine Pushed.push ?_ _ | with_reducible refine Pushed.alloc ?_ _ | with_reducible refine Pushed.drewN ?_ _ | with_reducible refine Pushed.drew ?_))⟩
theorem lcut_no (s : ByteArray) (hs : s.size ≤ 1000) (h : indexByte s.data.toList 47 = -1) (w : World) : Calls Tryd.prog 57 #[.string s, .string ⟨#[47]⟩] w fun e w' => e = .returned (.tuple #[.string s, .string ⟨#[]⟩, .bool false]) ∧ Pushed w w' := by
  have IX : Hid (∀ w, Calls Tryd.prog 64 #[.string s, .string ⟨#[47]⟩] w fun e w' => e = .returned (.int .i64 (-1)) ∧ w = w') := Lib.hid fun w => (Tryd.stringslite_Index_one s 47 w).mono fun e w' h' => by
    obtain ⟨rfl, rfl⟩ := h'
    exact ⟨by rw [h], rfl⟩
  clear h
  go_enter Tryd.func57, Tryd.ntmps57
  go_wp2_with fail
  refine (IX.out _).mono ?_
  rintro e w' ⟨rfl, rfl⟩
  go_wp2
  go_ret3
  exact ⟨rfl, (by repeat (first | with_reducible exact Pushed.refl _ | with_reducible assumption | with_reducible refine Pushed.push ?_ _ | with_reducible refine Pushed.alloc ?_ _ | with_reducible refine Pushed.drewN ?_ _ | with_reducible refine Pushed.drew ?_))⟩
theorem cut_yes (s : ByteArray) (hs : s.size ≤ 1000) (i : Nat) (h : Cut1 s i) (w : World) : Calls Tryd.prog 42 #[.string s, .string ⟨#[47]⟩] w fun e w' => e = .returned (.tuple #[.string (s.extract 0 i), .string (s.extract (i + 1) s.size), .bool true]) ∧ Pushed w w' := by
  have L := Lib.hid (fun w => lcut_yes s hs i h w)
  generalize s.extract 0 i = a at *
  generalize s.extract (i + 1) s.size = b at *
  go_enter Tryd.func42, Tryd.ntmps42
  go_wp2_with fail
  refine (L.out _).mono ?_
  rintro e w1 ⟨rfl, l1, n1, rfl⟩
  go_wp2
  go_ret3
  exact ⟨rfl, (by repeat (first | with_reducible exact Pushed.refl _ | with_reducible assumption | with_reducible refine Pushed.push ?_ _ | with_reducible refine Pushed.alloc ?_ _ | with_reducible refine Pushed.drewN ?_ _ | with_reducible refine Pushed.drew ?_))⟩
theorem cut_no (s : ByteArray) (hs : s.size ≤ 1000) (h : indexByte s.data.toList 47 = -1) (w : World) : Calls Tryd.prog 42 #[.string s, .string ⟨#[47]⟩] w fun e w' => e = .returned (.tuple #[.string s, .string ⟨#[]⟩, .bool false]) ∧ Pushed w w' := by
  have L := Lib.hid (fun w => lcut_no s hs h w)
  go_enter Tryd.func42, Tryd.ntmps42
  go_wp2_with fail
  refine (L.out _).mono ?_
  rintro e w1 ⟨rfl, l1, n1, rfl⟩
  go_wp2
  go_ret3
  exact ⟨rfl, (by repeat (first | with_reducible exact Pushed.refl _ | with_reducible assumption | with_reducible refine Pushed.push ?_ _ | with_reducible refine Pushed.alloc ?_ _ | with_reducible refine Pushed.drewN ?_ _ | with_reducible refine Pushed.drew ?_))⟩
end Go.Proofs.YtobnkfgikafanaaDoor
