/-
  CONTRACTS of a card under limits: what a use and a look at the uses of a day do, said of the day's sum and number.
-/
import Derived.Test.YtacdfhgamjinbabCard7
namespace Go.Proofs.Ytacdfhgamjinbab
open Go.RowKit
set_option linter.unusedVariables false
theorem amt {n : Int} (h : 0 ≤ n ∧ n ≤ 999999999999) : okAmt n = true := by unfold okAmt; simp; omega
theorem dat {n : Int} (h : 0 ≤ n ∧ n ≤ 99999) : okDate n = true := by unfold okDate; simp; omega
/-- The card's block says: sum and number of the uses of this day. -/
def Lim (w : World) (g : Nat) (lim cnt day sum n : Int) : Prop := ∃ d s c : Int, Blk w g 57 #[.string sample, .int .i64 1000, .int .i64 2, .int .i64 0, .int .i64 lim, .int .i64 cnt, .int .i64 d, .int .i64 s, .int .i64 c] ∧ (0 ≤ s ∧ s ≤ 255 ∧ 0 ≤ c ∧ c ≤ 15 ∧ -1 ≤ d) ∧ ((d = day ∧ s = sum ∧ c = n) ∨ (d < day ∧ sum = 0 ∧ n = 0))
theorem Lim.later {w : World} {g : Nat} {lim cnt day sum n day' : Int} (h : Lim w g lim cnt day sum n) (hd : day < day') : Lim w g lim cnt day' 0 0 := by
  obtain ⟨d, s, c, hb, hr, h1⟩ := h
  exact ⟨d, s, c, hb, hr, .inr ⟨by omega, rfl, rfl⟩⟩
theorem use_ok (g : Nat) (w : World) (lim cnt day sum n x : Int) (hl : 0 ≤ lim ∧ lim ≤ 255) (hcn : 0 ≤ cnt ∧ cnt ≤ 15) (hday : 0 ≤ day ∧ day ≤ 200) (hx : 0 ≤ x ∧ x ≤ 255) (hs : 0 ≤ sum ∧ sum ≤ 255) (hn : 0 ≤ n ∧ n ≤ 15) (h1 : sum + x ≤ lim) (h2 : n + 1 ≤ cnt) (h : Lim w g lim cnt day sum n) :
    Calls Try.prog 21 #[.pointer (some ⟨g, 0, none⟩), .int .i64 day, .int .i64 x] w fun e w' => e = .returned (.int .i64 0) ∧ Lim w' g lim cnt day (sum + x) (n + 1) ∧ Near w g w' := by
  obtain ⟨d, s, c, hb, hr, ⟨rfl, rfl, rfl⟩ | ⟨hd, rfl, rfl⟩⟩ := h
  · exact (use_same g w sample 1000 2 0 lim cnt d s c d x (by decide) (dat (by omega)) (by omega) (amt (by omega)) (by omega) (by omega) (by omega) (by simp) (by omega) (by omega) (by omega) hb).mono fun e w' ⟨he, hb', hn'⟩ => ⟨he, ⟨_, _, _, hb', by omega, .inl ⟨rfl, rfl, rfl⟩⟩, hn'⟩
  · exact (use_new g w sample 1000 2 0 lim cnt d s c day x (by decide) (dat (by omega)) (by omega) (amt (by omega)) (by omega) (by omega) (by omega) (by simp; omega) (by omega) (by omega) (by omega) hb).mono fun e w' ⟨he, hb', hn'⟩ => ⟨he, ⟨_, _, _, hb', by omega, .inl ⟨rfl, by omega, by omega⟩⟩, hn'⟩
theorem use_bad (g : Nat) (w : World) (lim cnt day sum n x : Int) (hl : 0 ≤ lim ∧ lim ≤ 255) (hcn : 0 ≤ cnt ∧ cnt ≤ 15) (hday : 0 ≤ day ∧ day ≤ 200) (hx : 0 ≤ x ∧ x ≤ 255) (hs : 0 ≤ sum ∧ sum ≤ 255) (hn : 0 ≤ n ∧ n ≤ 15) (h1 : lim < sum + x ∨ cnt < n + 1) (h : Lim w g lim cnt day sum n) :
    Calls Try.prog 21 #[.pointer (some ⟨g, 0, none⟩), .int .i64 day, .int .i64 x] w fun e w' => e = .returned (.int .i64 10) ∧ Lim w' g lim cnt day sum n ∧ Near w g w' := by
  obtain ⟨d, s, c, hb, hr, ⟨rfl, rfl, rfl⟩ | ⟨hd, rfl, rfl⟩⟩ := h
  · by_cases g1 : lim < s + x
    · exact (use_sum_same g w sample 1000 2 0 lim cnt d s c d x (by decide) (dat (by omega)) (by omega) (amt (by omega)) (by omega) (by omega) (by omega) (by simp) (by omega) g1 hb).mono fun e w' ⟨he, hb', hn'⟩ => ⟨he, ⟨_, _, _, hb', hr, .inl ⟨rfl, rfl, rfl⟩⟩, hn'⟩
    · exact (use_count g w sample 1000 2 0 lim cnt d s c d x (by decide) (dat (by omega)) (by omega) (amt (by omega)) (by omega) (by omega) (by omega) (by simp) (by omega) (by omega) (by omega) hb).mono fun e w' ⟨he, hb', hn'⟩ => ⟨he, ⟨_, _, _, hb', hr, .inl ⟨rfl, rfl, rfl⟩⟩, hn'⟩
  · by_cases g1 : lim < x
    · exact (use_sum_new g w sample 1000 2 0 lim cnt d s c day x (by decide) (dat (by omega)) (by omega) (amt (by omega)) (by omega) (by omega) (by omega) (by simp; omega) (by omega) g1 hb).mono fun e w' ⟨he, hb', hn'⟩ => ⟨he, ⟨_, _, _, hb', hr, .inr ⟨hd, rfl, rfl⟩⟩, hn'⟩
    · exact (use_count_new g w sample 1000 2 0 lim cnt d s c day x (by decide) (dat (by omega)) (by omega) (amt (by omega)) (by omega) (by omega) (by omega) (by simp; omega) (by omega) (by omega) (by omega) hb).mono fun e w' ⟨he, hb', hn'⟩ => ⟨he, ⟨_, _, _, hb', hr, .inr ⟨hd, rfl, rfl⟩⟩, hn'⟩
theorem used_lim (g : Nat) (w : World) (lim cnt day sum n : Int) (h : Lim w g lim cnt day sum n) :
    Calls Try.prog 22 #[.pointer (some ⟨g, 0, none⟩), .int .i64 day] w fun e w' => e = .returned (.tuple #[.int .i64 sum, .int .i64 n]) ∧ Lim w' g lim cnt day sum n ∧ Near w g w' := by
  obtain ⟨d, s, c, hb, hr, ⟨rfl, rfl, rfl⟩ | ⟨hd, rfl, rfl⟩⟩ := h
  · exact (used_same g w sample 1000 2 0 lim cnt d s c d (by simp) hb).mono fun e w' ⟨he, hb', hn'⟩ => ⟨he, ⟨_, _, _, hb', hr, .inl ⟨rfl, rfl, rfl⟩⟩, hn'⟩
  · exact (used_new g w sample 1000 2 0 lim cnt d s c day (by simp; omega) hb).mono fun e w' ⟨he, hb', hn'⟩ => ⟨he, ⟨_, _, _, hb', hr, .inr ⟨hd, rfl, rfl⟩⟩, hn'⟩
end Go.Proofs.Ytacdfhgamjinbab
