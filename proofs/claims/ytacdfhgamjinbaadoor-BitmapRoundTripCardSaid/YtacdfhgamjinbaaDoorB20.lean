/-
  CONTRACTS of bitmaps: Decode of any text, and of an encoding with something behind it.
-/
import Derived.Test.YtacdfhgamjinbaaDoorB19
namespace Go.Proofs.YtacdfhgamjinbaaDoor
open Go.RowKit
set_option linter.unusedVariables false
def DecP (s : ByteArray) (A B : Nat) (m e : Int) : Prop :=
  (¬ e = 0 ∧ A = 0 ∧ B = 0 ∧ m = 0) ∨ (e = 0 ∧ A < 18446744073709551616 ∧ B < 18446744073709551616 ∧ ∃ k : Nat, m = k ∧ 16 ≤ k ∧ k ≤ s.size ∧ encS A B = s.extract 0 k)
def DecC (s : ByteArray) (A B : Nat) (m e : Int) : Prop :=
  ∀ w, Errs w → Calls Tryd.prog 27 #[.string s] w fun e' w' => e' = .returned (.tuple #[bmV A B, .int .i64 m, .int .i64 e]) ∧ Below w.heap.size w w'
def DecR (s : ByteArray) (A B : Nat) (m e : Int) : Prop :=
  ∀ w, Calls Tryd.prog 28 #[.string s] w fun e' w' => e' = .returned (.tuple #[bmV A B, .int .i64 m, .int .i64 e]) ∧ Below w.heap.size w w'
theorem or_top {n : Nat} (hn : n < 18446744073709551616) (h : 9223372036854775808 ≤ n) : clrN (n - 9223372036854775808) ||| 9223372036854775808 = n := by
  rw [clr_id _ (by omega), Nat.or_comm, nat_join 63 _ _ (by decide) (by show _ < 9223372036854775808; omega)]
  omega
theorem enc_one {n : Nat} (hn : n < 9223372036854775808) : encS n 0 = hexS n 16 := by rw [encS, if_pos rfl, clr_id _ hn]
theorem enc_two {n m : Nat} (hn : n < 18446744073709551616) (h : 9223372036854775808 ≤ n) (hm : 0 < m) : encS (n - 9223372036854775808) m = hexS n 16 ++ hexS m 16 := by
  rw [encS, if_neg (by omega), or_top hn h]
theorem ext_join (s : ByteArray) (h : 32 ≤ s.size) : s.extract 0 16 ++ s.extract 16 32 = s.extract 0 32 := by
  rw [ByteArray.extract_append_extract]
  rfl
theorem sixteen (t : ByteArray) (hz : t.size = 16) : Bad t ∨ ∃ n, n < 18446744073709551616 ∧ t = hexS n 16 := by
  by_cases h : ∀ (k : Nat) (h : k < t.size), lowN t[k].toNat
  · exact .inr ⟨numN t, numN_lt t, (low_hex hz h).symm⟩
  · exact .inl h
theorem dec_total (s : ByteArray) (hs : s.size ≤ 1000) : ∃ (A B : Nat) (m e : Int), DecP s A B m e ∧ DecC s A B m e ∧ DecR s A B m e := by
  by_cases h : s.size < 16
  · exact ⟨0, 0, 0, 1, .inl ⟨by decide, rfl, rfl, rfl⟩, fun w hE => dec_short s h w hE, fun w => rdec_short s h w⟩
  have h16 : 16 ≤ s.size := by omega
  rcases sixteen (s.extract 0 16) (by rw [ByteArray.size_extract]; omega) with hb | ⟨n, hn, h1⟩
  · exact ⟨0, 0, 0, 2, .inl ⟨by decide, rfl, rfl, rfl⟩, fun w hE => dec_form s hs h16 hb w hE, fun w => rdec_form s hs h16 hb w⟩
  by_cases hlo : n < 9223372036854775808
  · exact ⟨n, 0, 16, 0, .inr ⟨rfl, hn, by decide, 16, rfl, Nat.le_refl _, h16, by rw [enc_one hlo, h1]⟩, fun w hE => dec_one s hs h16 n hlo h1 w hE, fun w => rdec_one s hs h16 n hlo h1 w⟩
  have hn2 : 9223372036854775808 ≤ n := by omega
  by_cases h32 : s.size < 32
  · exact ⟨0, 0, 0, 1, .inl ⟨by decide, rfl, rfl, rfl⟩, fun w hE => dec_short2 s hs h16 n hn hn2 h1 h32 w hE, fun w => rdec_short2 s hs h16 n hn hn2 h1 h32 w⟩
  have h32' : 32 ≤ s.size := by omega
  rcases sixteen (s.extract 16 32) (by rw [ByteArray.size_extract]; omega) with hb | ⟨m, hm, h2⟩
  · exact ⟨0, 0, 0, 2, .inl ⟨by decide, rfl, rfl, rfl⟩, fun w hE => dec_form2 s hs h32' n hn hn2 h1 hb w hE, fun w => rdec_form2 s hs h32' n hn hn2 h1 hb w⟩
  by_cases hm0 : m = 0
  · subst hm0
    exact ⟨0, 0, 0, 2, .inl ⟨by decide, rfl, rfl, rfl⟩, fun w hE => dec_zero s hs h32' n hn hn2 h1 h2 w hE, fun w => rdec_zero s hs h32' n hn hn2 h1 h2 w⟩
  have hm1 : 0 < m := by omega
  exact ⟨n - 9223372036854775808, m, 32, 0, .inr ⟨rfl, by omega, hm, 32, rfl, by decide, h32', by rw [enc_two hn hn2 hm1, ← h1, ← h2, ext_join s h32']⟩, fun w hE => dec_two s hs h32' n m hn hn2 h1 hm hm1 h2 w hE, fun w => rdec_two s hs h32' n m hn hn2 h1 hm hm1 h2 w⟩
theorem encS_size (a b : Nat) : (encS a b).size = if b = 0 then 16 else 32 := by
  unfold encS
  split
  · rw [hexS_size]
  · rw [ByteArray.size_append, hexS_size, hexS_size]
theorem dec_enc (a b : Nat) (ha : a < 18446744073709551616) (hb : b < 18446744073709551616) (s : ByteArray) (hs : s.size ≤ 900) : DecC (encS a b ++ s) (clrN a) b ((encS a b).size : Int) 0 := by
  intro w hE
  have hcl := clrN_lt a
  have hsz := encS_size a b
  by_cases h0 : b = 0
  · subst h0
    have he : encS a 0 = hexS (clrN a) 16 := by rw [encS, if_pos rfl]
    rw [if_pos rfl] at hsz
    rw [hsz, he]
    exact dec_one _ (by rw [ByteArray.size_append, hexS_size]; omega) (by rw [ByteArray.size_append, hexS_size]; omega) (clrN a) hcl (by rw [ByteArray.extract_append_eq_left (by rw [hexS_size])]) w hE
  · rw [if_neg h0] at hsz
    obtain ⟨u, hu⟩ : ∃ u, u = clrN a ||| 9223372036854775808 := ⟨_, rfl⟩
    have hua : u = clrN a + 9223372036854775808 := by
      rw [hu, Nat.or_comm, nat_join 63 _ _ (by decide) (by exact hcl)]
      omega
    have he : encS a b = hexS u 16 ++ hexS b 16 := by rw [encS, if_neg h0, hu]
    have h := dec_two (encS a b ++ s) (by rw [ByteArray.size_append]; omega) (by rw [ByteArray.size_append]; omega) u b (by omega) (by omega) (by rw [he, ByteArray.append_assoc, ByteArray.extract_append_eq_left (by rw [hexS_size])]) hb (by omega) (by
      rw [he, ByteArray.extract_append, ByteArray.size_append, hexS_size, hexS_size, ByteArray.extract_append_eq_right (by rw [hexS_size]) (by rw [hexS_size, hexS_size])]
      simp) w hE
    rw [show u - 9223372036854775808 = clrN a by omega] at h
    rw [hsz]
    exact h
end Go.Proofs.YtacdfhgamjinbaaDoor
