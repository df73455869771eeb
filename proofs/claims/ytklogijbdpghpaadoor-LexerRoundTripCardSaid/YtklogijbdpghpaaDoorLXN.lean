/-
  MATHEMATICS of the lexer: numbers, printable texts.
-/
import Derived.Test.YtklogijbdpghpaaDoorLXM
import Derived.Lib.ParseIntBCases
import Derived.Lib.ParseIntBTie
import Derived.Lib.IndexLaws
namespace Go.Proofs.YtklogijbdpghpaaDoor
open Go.Lib
set_option linter.unusedVariables false
def vL (acc : Nat) (l : List UInt8) : Nat := l.foldl (fun a c => a * 10 + (c.toNat - 48)) acc
theorem vL_ge : ∀ (l : List UInt8) (acc : Nat), acc ≤ vL acc l
  | [], acc => Nat.le_refl _
  | c :: r, acc => by
    have := vL_ge r (acc * 10 + (c.toNat - 48))
    unfold vL at *
    rw [List.foldl_cons]
    omega
theorem parse_dgs : ∀ (l : List UInt8) (acc : Nat), (∀ c ∈ l, 48 ≤ c.toNat ∧ c.toNat ≤ 57) → acc ≤ 18446744073709551615 → parseUintM 18446744073709551615 acc l = if vL acc l ≤ 18446744073709551615 then .ok (vL acc l) else .range
  | [], acc, h, ha => by rw [parseUintM, show vL acc [] = acc from rfl, if_pos ha]
  | c :: r, acc, h, ha => by
    have hc := h c (List.mem_cons_self)
    have hv : vL acc (c :: r) = vL (acc * 10 + (c.toNat - 48)) r := rfl
    have hg := vL_ge r (acc * 10 + (c.toNat - 48))
    rw [parseUintM, if_pos hc, hv]
    by_cases h1 : 1844674407370955162 ≤ acc
    · rw [if_pos h1, if_neg (by omega)]
    · rw [if_neg h1]
      by_cases h2 : 18446744073709551615 < acc * 10 + (c.toNat - 48)
      · rw [if_pos h2, if_neg (by omega)]
      · rw [if_neg h2]
        exact parse_dgs r _ (fun d hd => h d (List.mem_cons_of_mem _ hd)) (by omega)
theorem parse_int (l : List UInt8) (hl : l ≠ []) (h : ∀ c ∈ l, 48 ≤ c.toNat ∧ c.toNat ≤ 57) : parseIntB 64 l = if vL 0 l < 9223372036854775808 then .ok (vL 0 l : Int) else .range := by
  match l, hl with
  | c :: r, _ =>
    have hc := h c (List.mem_cons_self)
    rw [parseIntB_plain 64 c r (by omega) (by omega), parseUintB, if_neg (by simp), show 2 ^ 64 - 1 = 18446744073709551615 from rfl, parse_dgs _ 0 h (by omega), show 2 ^ (64 - 1) = 9223372036854775808 from rfl]
    by_cases h1 : vL 0 (c :: r) ≤ 18446744073709551615
    · rw [if_pos h1, signlessC]
      by_cases h2 : 9223372036854775808 ≤ vL 0 (c :: r)
      · rw [if_pos h2, if_neg (by omega)]
      · rw [if_neg h2, if_pos (by omega)]
    · rw [if_neg h1, signlessC, if_neg (by omega)]
theorem valF_vL (s : ByteArray) (h : ∀ k, k < s.size → digitB (byt s k) = true) : ∀ k, k ≤ s.size → valF s k = vL 0 (s.data.toList.take k)
  | 0, _ => rfl
  | k + 1, hk => by
    have hlen : k < s.data.toList.length := by simpa using Nat.lt_of_succ_le hk
    rw [valF, valF_vL s h k (by omega), List.take_succ_eq_append_getElem hlen, vL, vL, List.foldl_append]
    have hb : byt s k = (s.data.toList[k].toNat : Int) := by
      rw [byt, List.getD_eq_getElem?_getD, List.getElem?_eq_getElem hlen]; rfl
    have hd := h k (by omega)
    unfold digitB at hd
    have hd := of_decide_eq_true hd
    rw [hb] at hd ⊢
    simp only [List.foldl_cons, List.foldl_nil]
    omega
theorem valF_all (s : ByteArray) (h : ∀ k, k < s.size → digitB (byt s k) = true) : valF s s.size = vL 0 s.data.toList := by
  rw [valF_vL s h _ (Nat.le_refl _), List.take_of_length_le (by simp)]
theorem dgs_mem (s : ByteArray) (h : ∀ k, k < s.size → digitB (byt s k) = true) : ∀ c ∈ s.data.toList, 48 ≤ c.toNat ∧ c.toNat ≤ 57 := by
  intro c hc
  obtain ⟨k, hk, rfl⟩ := List.getElem_of_mem hc
  have hb : byt s k = (s.data.toList[k].toNat : Int) := by
    rw [byt, List.getD_eq_getElem?_getD, List.getElem?_eq_getElem hk]; rfl
  have hd := h k (by simpa using hk)
  unfold digitB at hd
  have hd := of_decide_eq_true hd
  rw [hb] at hd
  omega
theorem valF_mono (s : ByteArray) (k : Nat) : valF s k ≤ valF s (k + 1) := by rw [valF]; omega
theorem valF_le (s : ByteArray) {j k : Nat} (h : j ≤ k) : valF s j ≤ valF s k := by
  induction h with
  | refl => exact Nat.le_refl _
  | step _ ih => exact Nat.le_trans ih (valF_mono s _)
theorem dgsB_iff (s : ByteArray) : dgsB s = true ↔ ∀ k, k < s.size → digitB (byt s k) = true := by
  unfold dgsB
  rw [List.all_eq_true]
  simp
theorem numE_digit {s : ByteArray} {k : Nat} (h : k < s.size) (hd : digitB (byt s k) = false) : numE s = 2 := by
  have : dgsB s = false := by
    rw [Bool.eq_false_iff]
    intro hh
    have := (dgsB_iff s).1 hh k h
    rw [hd] at this
    cases this
  unfold numE
  rw [this]
  rfl
theorem numE_zero {s : ByteArray} (h1 : 1 < s.size) (h0 : byt s 0 = 48) : numE s = 2 := by
  unfold numE
  rw [if_pos (by rw [h0]; simp [h1])]
theorem numE_ok {s : ByteArray} (hd : dgsB s = true) (h0 : ¬ (1 < s.size ∧ byt s 0 = 48)) : numE s = if 9007199254740992 < valF s s.size then 4 else 0 := by
  unfold numE
  rw [if_neg]
  rw [hd]
  simp
  intro h1 h2
  exact h0 ⟨h1, h2⟩
theorem numN_bad {s : ByteArray} (h : numE s ≠ 0) : numN s = 0 := by unfold numN; rw [if_neg h]
theorem numN_ok {s : ByteArray} (h : numE s = 0) : numN s = (valF s s.size : Int) := by unfold numN; rw [if_pos h]
theorem numE_cases (s : ByteArray) : numE s = 0 ∨ numE s = 2 ∨ numE s = 4 := by
  unfold numE
  split
  · omega
  · split <;> omega
theorem prB_iff (s : ByteArray) (a b : Nat) : prB s a b = true ↔ ∀ k, a ≤ k → k < b → 32 ≤ byt s k ∧ byt s k ≤ 126 := by
  unfold prB
  rw [List.all_eq_true]
  constructor
  · intro h k h1 h2
    have := h (k - a) (by simp; omega)
    rw [show a + (k - a) = k by omega] at this
    exact of_decide_eq_true this
  · intro h k hk
    exact decide_eq_true (h (a + k) (by omega) (by have := List.mem_range.1 hk; omega))
theorem prB_bad {s : ByteArray} {a b k : Nat} (h1 : a ≤ k) (h2 : k < b) (h : ¬ (32 ≤ byt s k ∧ byt s k ≤ 126)) : prB s a b = false := by
  rw [Bool.eq_false_iff]
  intro hh
  exact h ((prB_iff s a b).1 hh k h1 h2)
theorem prB_off (s : ByteArray) (i a b : Nat) : prB (off s i) a b = prB s (i + a) (i + b) := by
  unfold prB
  rw [show i + b - (i + a) = b - a by omega]
  congr 1
  funext k
  rw [off_byt, Nat.add_assoc]
theorem quF_spec (s : ByteArray) : ∀ f i, i + f = s.size → (quF s f i < s.size → byt s (quF s f i) = 34) ∧ ∀ k, i ≤ k → k < quF s f i → byt s k ≠ 34
  | 0, i, h => ⟨fun h2 => by rw [quF] at h2; omega, fun k h1 h2 => by rw [quF] at h2; omega⟩
  | f + 1, i, h => by
    rw [quF]
    split
    · rename_i h3
      exact ⟨fun _ => by simpa using h3, fun k h1 h2 => by omega⟩
    · rename_i h3
      have := quF_spec s f (i + 1) (by omega)
      refine ⟨this.1, fun k h1 h2 => ?_⟩
      rcases Nat.lt_or_ge i k with h4 | h4
      · exact this.2 k h4 h2
      · obtain rfl : k = i := by omega
        simpa using h3
theorem quP_spec (s : ByteArray) (i : Nat) (h : i ≤ s.size) : (quP s i < s.size → byt s (quP s i) = 34) ∧ ∀ k, i ≤ k → k < quP s i → byt s k ≠ 34 := quF_spec s _ _ (by omega)
theorem quP_uniq {s : ByteArray} {i q : Nat} (h1 : i ≤ q) (h2 : q ≤ s.size) (h3 : q < s.size → byt s q = 34) (h4 : ∀ k, i ≤ k → k < q → byt s k ≠ 34) : quP s i = q := by
  have hl := quP_le s i (by omega)
  have hs := quP_spec s i (by omega)
  rcases Nat.lt_trichotomy (quP s i) q with h | h | h
  · exact absurd (hs.1 (by omega)) (h4 _ hl.1 h)
  · exact h
  · exact absurd (h3 (by omega)) (hs.2 q h1 h)
theorem byt_list {s : ByteArray} {k : Nat} {c : UInt8} : s.data.toList[k]? = some c ↔ k < s.size ∧ byt s k = (c.toNat : Int) := by
  constructor
  · intro h
    have hk := (List.getElem?_eq_some_iff.1 h).1
    refine ⟨by simpa using hk, ?_⟩
    rw [byt, List.getD_eq_getElem?_getD, h]
    rfl
  · rintro ⟨hk, h⟩
    have hk2 : k < s.data.toList.length := by simpa using hk
    rw [List.getElem?_eq_getElem hk2]
    rw [byt, List.getD_eq_getElem?_getD, List.getElem?_eq_getElem hk2] at h
    simp only [Option.getD_some] at h
    exact congrArg some (UInt8.toNat_inj.1 (by omega))
/-- The library's look for a quotation mark. -/
theorem index_quote (s : ByteArray) : (quP s 0 < s.size → indexByte s.data.toList 34 = (quP s 0 : Int)) ∧ (¬ quP s 0 < s.size → indexByte s.data.toList 34 = -1) := by
  have hl := quP_le s 0 (Nat.zero_le _)
  have hs := quP_spec s 0 (Nat.zero_le _)
  have hge := indexByte_ge s.data.toList 34
  by_cases hm : indexByte s.data.toList 34 = -1
  · have hn := indexByte_none hm
    refine ⟨fun h => ?_, fun _ => hm⟩
    exact absurd ((byt_list (c := 34)).2 ⟨h, hs.1 h⟩) (hn _)
  · obtain ⟨o, ho⟩ : ∃ o : Nat, indexByte s.data.toList 34 = (o : Int) := ⟨(indexByte s.data.toList 34).toNat, by omega⟩
    obtain ⟨h1, h2⟩ := indexByte_some ho
    obtain ⟨ho1, ho2⟩ := byt_list.1 h1
    have hq : quP s 0 = o := quP_uniq (Nat.zero_le _) (by omega) (fun _ => ho2) fun k _ hk hb => h2 k hk (byt_list.2 ⟨by omega, hb⟩)
    rw [hq]
    exact ⟨fun _ => ho, fun h => absurd ho1 h⟩
end Go.Proofs.YtklogijbdpghpaaDoor
