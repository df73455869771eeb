/-
  CONTRACTS of wire: a reader's methods, for any reader and any arguments: as the specification's relations.
-/
import Derived.Test.YtjemljhfopgmiaaGreatDoorZ21
namespace Go.Proofs.YtjemljhfopgmiaaGreatDoor
open Go.RowKit
set_option linter.unusedVariables false
set_option linter.unusedSimpArgs false
theorem restS_no (s : ByteArray) (n : Nat) {c : Int} (h : c ≠ 0) : restS s n c = s := by unfold restS; rw [if_neg h]
theorem restS_ok (s : ByteArray) (n : Nat) : restS s n 0 = s.extract n s.size := by unfold restS; rw [if_pos rfl]
theorem restS_size (s : ByteArray) (n : Nat) (c : Int) : (restS s n c).size ≤ s.size := by
  unfold restS
  split
  · rw [ByteArray.size_extract]; omega
  · exact Nat.le_refl _
def NumZ (s : ByteArray) (c0 : Int) (d : Int) (v : Int) (n : Nat) (c : Int) : Prop := (c0 ≠ 0 ∧ v = 0 ∧ n = 0 ∧ c = c0) ∨ (c0 = 0 ∧ NumQ s d v n c)
theorem NumZ.uniq {s : ByteArray} {c0 d : Int} {v v' : Int} {n n' : Nat} {c c' : Int} (h : NumZ s c0 d v n c) (h' : NumZ s c0 d v' n' c') : v = v' ∧ n = n' ∧ c = c' := by
  rcases h with ⟨a, rfl, rfl, rfl⟩ | ⟨a, b⟩ <;> rcases h' with ⟨a', rfl, rfl, rfl⟩ | ⟨a', b'⟩
  · exact ⟨rfl, rfl, rfl⟩
  · exact absurd a' a
  · exact absurd a a'
  · exact b.uniq b'
theorem pnum (d : Int) (b : Nat) (s : ByteArray) (c0 : Int) (hs : s.size ≤ 281474976710656) (w : World) (hb : Blk w b RDT #[.string s, .int .i64 c0]) :
    Calls Tryz.prog 7 #[.pointer (some ⟨b, 0, none⟩), .int .i64 d] w fun e w' => ∃ v n c, NumZ s c0 d v n c ∧ e = .returned (.int .i64 v) ∧ Blk w' b RDT #[.string (restS s n c), .int .i64 c] ∧ Bes b w.heap.size w w' := by
  by_cases h0 : c0 = 0
  case neg =>
    refine (num_no d b s c0 h0 w hb).mono ?_
    rintro e w' ⟨rfl, hw⟩
    exact ⟨_, 0, c0, .inl ⟨h0, rfl, rfl, rfl⟩, rfl, by rw [restS_no s 0 h0]; exact hb.below hw hb.lt, Bes.of hw⟩
  subst h0
  by_cases hd : 1 ≤ d ∧ d ≤ 15
  · obtain ⟨k, rfl⟩ := Int.eq_ofNat_of_zero_le (show 0 ≤ d by omega)
    refine (num_ok1 k (by omega) (by omega) b s hs w hb).mono ?_
    rintro e w' ⟨v, n, c, hR, rfl, h1, h2⟩
    exact ⟨v, n, c, .inr ⟨rfl, .inr ⟨hd, hR.1, hR.2⟩⟩, rfl, h1, h2⟩
  · refine (num_ok0 d hd b s hs w hb).mono ?_
    rintro e w' ⟨rfl, h1, h2⟩
    exact ⟨_, 0, 4, .inr ⟨rfl, .inl ⟨hd, rfl, rfl, rfl⟩⟩, rfl, by rw [restS_no s 0 (by decide)]; exact h1, h2⟩
def AlZ (s : ByteArray) (c0 : Int) (d : Int) (v : ByteArray) (n : Nat) (c : Int) : Prop := (c0 ≠ 0 ∧ v = ByteArray.empty ∧ n = 0 ∧ c = c0) ∨ (c0 = 0 ∧ AlQ s d v n c)
theorem AlZ.uniq {s : ByteArray} {c0 d : Int} {v v' : ByteArray} {n n' : Nat} {c c' : Int} (h : AlZ s c0 d v n c) (h' : AlZ s c0 d v' n' c') : v = v' ∧ n = n' ∧ c = c' := by
  rcases h with ⟨a, rfl, rfl, rfl⟩ | ⟨a, b⟩ <;> rcases h' with ⟨a', rfl, rfl, rfl⟩ | ⟨a', b'⟩
  · exact ⟨rfl, rfl, rfl⟩
  · exact absurd a' a
  · exact absurd a a'
  · exact b.uniq b'
theorem palpha (d : Int) (b : Nat) (s : ByteArray) (c0 : Int) (hs : s.size ≤ 281474976710656) (w : World) (hb : Blk w b RDT #[.string s, .int .i64 c0]) :
    Calls Tryz.prog 8 #[.pointer (some ⟨b, 0, none⟩), .int .i64 d] w fun e w' => ∃ v n c, AlZ s c0 d v n c ∧ e = .returned (.string v) ∧ Blk w' b RDT #[.string (restS s n c), .int .i64 c] ∧ Bes b w.heap.size w w' := by
  by_cases h0 : c0 = 0
  case neg =>
    refine (alpha_no d b s c0 h0 w hb).mono ?_
    rintro e w' ⟨rfl, hw⟩
    exact ⟨_, 0, c0, .inl ⟨h0, rfl, rfl, rfl⟩, rfl, by rw [restS_no s 0 h0]; exact hb.below hw hb.lt, Bes.of hw⟩
  subst h0
  by_cases hd : 1 ≤ d ∧ d ≤ 255
  · obtain ⟨k, rfl⟩ := Int.eq_ofNat_of_zero_le (show 0 ≤ d by omega)
    refine (alpha_ok1 k (by omega) (by omega) b s hs w hb).mono ?_
    rintro e w' ⟨v, n, c, hR, rfl, h1, h2⟩
    exact ⟨v, n, c, .inr ⟨rfl, .inr ⟨hd, hR⟩⟩, rfl, h1, h2⟩
  · refine (alpha_ok0 d hd b s hs w hb).mono ?_
    rintro e w' ⟨rfl, h1, h2⟩
    exact ⟨_, 0, 4, .inr ⟨rfl, .inl ⟨hd, rfl, rfl, rfl⟩⟩, rfl, by rw [restS_no s 0 (by decide)]; exact h1, h2⟩
def TkZ (s : ByteArray) (c0 : Int) (d : Int) (v : ByteArray) (n : Nat) (c : Int) : Prop := (c0 ≠ 0 ∧ v = ByteArray.empty ∧ n = 0 ∧ c = c0) ∨ (c0 = 0 ∧ TkQ s d v n c)
theorem TkZ.uniq {s : ByteArray} {c0 d : Int} {v v' : ByteArray} {n n' : Nat} {c c' : Int} (h : TkZ s c0 d v n c) (h' : TkZ s c0 d v' n' c') : v = v' ∧ n = n' ∧ c = c' := by
  rcases h with ⟨a, rfl, rfl, rfl⟩ | ⟨a, b⟩ <;> rcases h' with ⟨a', rfl, rfl, rfl⟩ | ⟨a', b'⟩
  · exact ⟨rfl, rfl, rfl⟩
  · exact absurd a' a
  · exact absurd a a'
  · exact b.uniq b'
theorem ptake (d : Int) (d1 : d ≤ 9223372036854775807) (b : Nat) (s : ByteArray) (c0 : Int) (hs : s.size ≤ 281474976710656) (w : World) (hb : Blk w b RDT #[.string s, .int .i64 c0]) :
    Calls Tryz.prog 10 #[.pointer (some ⟨b, 0, none⟩), .int .i64 d] w fun e w' => ∃ v n c, TkZ s c0 d v n c ∧ e = .returned (.string v) ∧ Blk w' b RDT #[.string (restS s n c), .int .i64 c] ∧ Bes b w.heap.size w w' := by
  by_cases h0 : c0 = 0
  case neg =>
    refine (take_no d b s c0 h0 w hb).mono ?_
    rintro e w' ⟨rfl, hw⟩
    exact ⟨_, 0, c0, .inl ⟨h0, rfl, rfl, rfl⟩, rfl, by rw [restS_no s 0 h0]; exact hb.below hw hb.lt, Bes.of hw⟩
  subst h0
  by_cases hd : 0 ≤ d
  · obtain ⟨k, rfl⟩ := Int.eq_ofNat_of_zero_le (show 0 ≤ d by omega)
    refine (take_ok1 k (by omega) b s hs w hb).mono ?_
    rintro e w' ⟨v, n, c, hR, rfl, h1, h2⟩
    exact ⟨v, n, c, .inr ⟨rfl, .inr ⟨hd, hR⟩⟩, rfl, h1, h2⟩
  · refine (take_ok0 d hd b s hs w hb).mono ?_
    rintro e w' ⟨rfl, h1, h2⟩
    exact ⟨_, 0, 4, .inr ⟨rfl, .inl ⟨by omega, rfl, rfl, rfl⟩⟩, rfl, by rw [restS_no s 0 (by decide)]; exact h1, h2⟩
def VaZ (s : ByteArray) (c0 : Int) (d m : Int) (v : ByteArray) (n : Nat) (c : Int) : Prop := (c0 ≠ 0 ∧ v = ByteArray.empty ∧ n = 0 ∧ c = c0) ∨ (c0 = 0 ∧ VaQ s d m v n c)
theorem VaZ.uniq {s : ByteArray} {c0 d m : Int} {v v' : ByteArray} {n n' : Nat} {c c' : Int} (h : VaZ s c0 d m v n c) (h' : VaZ s c0 d m v' n' c') : v = v' ∧ n = n' ∧ c = c' := by
  rcases h with ⟨a, rfl, rfl, rfl⟩ | ⟨a, b⟩ <;> rcases h' with ⟨a', rfl, rfl, rfl⟩ | ⟨a', b'⟩
  · exact ⟨rfl, rfl, rfl⟩
  · exact absurd a' a
  · exact absurd a a'
  · exact b.uniq b'
theorem pvar (d m : Int) (b : Nat) (s : ByteArray) (c0 : Int) (hs : s.size ≤ 281474976710656) (w : World) (hb : Blk w b RDT #[.string s, .int .i64 c0]) :
    Calls Tryz.prog 9 #[.pointer (some ⟨b, 0, none⟩), .int .i64 d, .int .i64 m] w fun e w' => ∃ v n c, VaZ s c0 d m v n c ∧ e = .returned (.string v) ∧ Blk w' b RDT #[.string (restS s n c), .int .i64 c] ∧ Bes b w.heap.size w w' := by
  by_cases h0 : c0 = 0
  case neg =>
    refine (var_no d m b s c0 h0 w hb).mono ?_
    rintro e w' ⟨rfl, hw⟩
    exact ⟨_, 0, c0, .inl ⟨h0, rfl, rfl, rfl⟩, rfl, by rw [restS_no s 0 h0]; exact hb.below hw hb.lt, Bes.of hw⟩
  subst h0
  by_cases hd : (d = 2 ∨ d = 3) ∧ 0 ≤ m
  · obtain ⟨hd2, hm⟩ := hd
    rcases hd2 with rfl | rfl
    · refine (var_ok2 m hm b s hs w hb).mono ?_
      rintro e w' ⟨v, n, c, hR, rfl, h1, h2⟩
      exact ⟨v, n, c, .inr ⟨rfl, .inr ⟨⟨.inl rfl, hm⟩, hR⟩⟩, rfl, h1, h2⟩
    · refine (var_ok3 m hm b s hs w hb).mono ?_
      rintro e w' ⟨v, n, c, hR, rfl, h1, h2⟩
      exact ⟨v, n, c, .inr ⟨rfl, .inr ⟨⟨.inr rfl, hm⟩, hR⟩⟩, rfl, h1, h2⟩
  · refine (var_ok0 d m hd b s hs w hb).mono ?_
    rintro e w' ⟨rfl, h1, h2⟩
    exact ⟨_, 0, 4, .inr ⟨rfl, .inl ⟨hd, rfl, rfl, rfl⟩⟩, rfl, by rw [restS_no s 0 (by decide)]; exact h1, h2⟩
end Go.Proofs.YtjemljhfopgmiaaGreatDoor
