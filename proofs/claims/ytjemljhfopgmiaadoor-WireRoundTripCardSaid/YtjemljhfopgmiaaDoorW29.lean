/-
  CONTRACTS of wire: a written field is read back.
-/
import Derived.Test.YtjemljhfopgmiaaDoorW28
namespace Go.Proofs.YtjemljhfopgmiaaDoor
open Go.RowKit
set_option linter.unusedVariables false
set_option linter.unusedSimpArgs false
theorem VarR.sz {s : ByteArray} {d : Nat} {m : Int} {n : Nat} {c : Int} {t : ByteArray} (h : VarR s d m n c t) : t.size ≤ 255 := by
  obtain ⟨v, e, hN, h⟩ := h
  rcases h with h | h | h | h
  · rw [h.2.2.2]; exact Nat.zero_le _
  · rw [h.2.2.2.2]; exact Nat.zero_le _
  · rw [h.2.2.2.2.2.2]; exact Nat.zero_le _
  · obtain ⟨_, _, h255, hf, _, _, rfl⟩ := h
    rw [ByteArray.size_extract]
    omega
theorem back_num {n d : Int} {t u : ByteArray} (h : NumA n d t 0) (b : Nat) (w : World) (hz : u.size ≤ 100000) (hb : Blk w b 59 #[.string (t ++ u), .int .i64 0]) :
    Calls Tryd.prog 19 #[.pointer (some ⟨b, 0, none⟩), .int .i64 d] w fun e w' => e = .returned (.int .i64 n) ∧ Blk w' b 59 #[.string u, .int .i64 0] ∧ Bes b w.heap.size w w' := by
  rcases h with h | ⟨⟨h1, h2, h3, h4⟩, rfl, _⟩
  · exact absurd h.2.2 (by decide)
  obtain ⟨m, rfl⟩ := Int.eq_ofNat_of_zero_le h3
  obtain ⟨k, rfl⟩ := Int.eq_ofNat_of_zero_le (show 0 ≤ d by omega)
  rw [Int.toNat_natCast, Int.toNat_natCast] at *
  have hs := decS_size m k
  refine (rdb_num b _ k (by omega) (by omega) (by rw [ByteArray.size_append]; omega) w hb).mono ?_
  rintro e w' ⟨v, c, hN, rfl, hb', hw'⟩
  obtain ⟨rfl, rfl⟩ := numbP_dec h4 hN
  rw [if_pos rfl, app_post _ _ hs] at hb'
  exact ⟨rfl, hb', hw'⟩
theorem back_alpha {s : ByteArray} {d : Int} {t u : ByteArray} (h : AlphaP s d t 0) (b : Nat) (w : World) (hz : u.size ≤ 100000) (hb : Blk w b 59 #[.string (t ++ u), .int .i64 0]) :
    Calls Tryd.prog 20 #[.pointer (some ⟨b, 0, none⟩), .int .i64 d] w fun e w' => e = .returned (.string s) ∧ Blk w' b 59 #[.string u, .int .i64 0] ∧ Bes b w.heap.size w w' := by
  have hd : 1 ≤ d ∧ d ≤ 255 := by
    rcases h with h | h | h | h
    · exact absurd h.2.2 (by decide)
    · exact absurd h.2.2.2.2 (by decide)
    · exact absurd h.2.2.2.2.2 (by decide)
    · exact ⟨h.1, h.2.1⟩
  have hz2 := h.sz.1
  obtain ⟨k, rfl⟩ := Int.eq_ofNat_of_zero_le (show 0 ≤ d by omega)
  refine (rdb_alpha b _ k (by omega) (by omega) (by rw [ByteArray.size_append]; omega) w hb).mono ?_
  rintro e w' ⟨n, c, q, hR, rfl, hb', hw'⟩
  obtain ⟨rfl, rfl, rfl⟩ := alR_back h hR
  rw [if_pos rfl, app_post _ _ rfl] at hb'
  exact ⟨rfl, hb', hw'⟩
theorem back_var {s : ByteArray} {d : Int} {t u : ByteArray} (h : VarP s d t 0) (b : Nat) (w : World) (hz : u.size ≤ 100000) (hb : Blk w b 59 #[.string (t ++ u), .int .i64 0]) :
    Calls Tryd.prog 21 #[.pointer (some ⟨b, 0, none⟩), .int .i64 d, .int .i64 255] w fun e w' => e = .returned (.string s) ∧ Blk w' b 59 #[.string u, .int .i64 0] ∧ Bes b w.heap.size w w' := by
  have hd : d = 2 ∨ d = 3 := by
    rcases h with h | h | h
    · exact absurd h.2.2.2 (by decide)
    · exact absurd h.2.2.2 (by decide)
    · exact h.1
  have hz2 := h.sz.1
  have hz3 : (t ++ u).size ≤ 281474976710656 := by rw [ByteArray.size_append]; omega
  rcases hd with rfl | rfl
  · refine (rdb_var_2 b _ 255 (by decide) hz3 w hb).mono ?_
    rintro e w' ⟨n, c, q, hR, rfl, hb', hw'⟩
    obtain ⟨rfl, rfl, rfl⟩ := varR_back (d := 2) (.inl rfl) h hR
    rw [if_pos rfl, app_post _ _ rfl] at hb'
    exact ⟨rfl, hb', hw'⟩
  · refine (rdb_var_3 b _ 255 (by decide) hz3 w hb).mono ?_
    rintro e w' ⟨n, c, q, hR, rfl, hb', hw'⟩
    obtain ⟨rfl, rfl, rfl⟩ := varR_back (d := 3) (.inr rfl) h hR
    rw [if_pos rfl, app_post _ _ rfl] at hb'
    exact ⟨rfl, hb', hw'⟩
end Go.Proofs.YtjemljhfopgmiaaDoor
