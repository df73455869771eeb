/-
  MATHEMATICS of the lexer: numbers and marks that stand in a text.
-/
import Derived.Test.YtklogijbdpghpaaDoorLXR
import Derived.Lib.ItoaNum
namespace Go.Proofs.YtklogijbdpghpaaDoor
set_option linter.unusedVariables false
/-- A number without zeros ahead. -/
structure NumX (w : ByteArray) : Prop where
  pos : 0 < w.size
  all : ∀ k, k < w.size → digitB (byt w k) = true
  lead : ¬ (1 < w.size ∧ byt w 0 = 48)
  le : valF w w.size ≤ 9007199254740992
theorem NumX.e {w : ByteArray} (h : NumX w) : numE w = 0 ∧ numN w = (valF w w.size : Int) := by
  have h1 : numE w = 0 := by rw [numE_ok ((dgsB_iff w).2 h.all) h.lead, if_neg (by have := h.le; omega)]
  exact ⟨h1, numN_ok h1⟩
theorem num_of_e {w : ByteArray} (h0 : 0 < w.size) (he : numE w = 0) : NumX w := by
  have hd : dgsB w = true := by
    cases hd : dgsB w with
    | true => rfl
    | false => unfold numE at he; rw [hd] at he; simp at he
  have hl : ¬ (1 < w.size ∧ byt w 0 = 48) := fun h => by rw [numE_zero h.1 h.2] at he; exact absurd he (by decide)
  rw [numE_ok hd hl] at he
  refine ⟨h0, (dgsB_iff w).1 hd, hl, ?_⟩
  split at he
  · exact absurd he (by decide)
  · omega
theorem lex_num {t w : ByteArray} {i : Nat} (hw : NumX w) (hA : At t i w) (hS : Sep t (i + w.size)) : lexE t i = 0 ∧ lexN t i = i + w.size ∧ lexX t i = ⟨2, ⟨#[]⟩, (valF w w.size : Int), i⟩ := by
  have hp := hw.pos
  have h0 : byt t i = byt w 0 := hA.2 0 hp
  have hd : digitB (byt t i) = true := by rw [h0]; exact hw.all 0 hp
  have hl : letterB (byt t i) = false := by
    unfold digitB at hd
    have := of_decide_eq_true hd
    unfold letterB
    exact decide_eq_false (by omega)
  have hq : wdP t i = i + w.size := wdP_uniq (by omega) hA.1 (fun h => by rw [hS h]; exact isW_32) fun k h1 h2 => by
    have := hA.2 (k - i) (by omega)
    rw [show i + (k - i) = k by omega] at this
    rw [this]
    unfold isW
    rw [hw.all (k - i) (by omega)]
    simp
  refine ⟨?_, ?_, ?_⟩
  · unfold lexE
    rw [hl, hd, hq, hA.sub]
    simp only [Bool.false_eq_true, if_false, if_true]
    exact hw.e.1
  · unfold lexN
    rw [hl, hd, hq]
    rfl
  · unfold lexX
    rw [hl, hd, hq, hA.sub, hw.e.2]
    rfl
theorem valF_div {w : ByteArray} {m : Nat} (h : ∀ k, k < m → digitB (byt w k) = true) : ∀ n k, n ≤ m → k ≤ n → valF w n / 10 ^ (n - k) = valF w k
  | 0, k, hm, hk => by
    obtain rfl : k = 0 := by omega
    rw [Nat.sub_self, Nat.pow_zero, Nat.div_one]
  | n + 1, k, hm, hk => by
    rcases Nat.lt_or_ge n k with h1 | h1
    · obtain rfl : k = n + 1 := by omega
      rw [Nat.sub_self, Nat.pow_zero, Nat.div_one]
    · have hd := h n (by omega)
      unfold digitB at hd
      have hd := of_decide_eq_true hd
      rw [show n + 1 - k = (n - k) + 1 by omega, Nat.pow_succ, Nat.mul_comm, ← Nat.div_div_eq_div_mul, valF, show (10 * valF w n + (byt w n - 48).toNat) / 10 = valF w n by omega]
      exact valF_div h n k (by omega) h1
theorem valF_lt {w : ByteArray} {m : Nat} (h : ∀ k, k < m → digitB (byt w k) = true) : ∀ n, n ≤ m → valF w n < 10 ^ n
  | 0, _ => by rw [valF]; exact Nat.one_pos
  | n + 1, hm => by
    have h1 := valF_lt h n (by omega)
    have hd := h n (by omega)
    unfold digitB at hd
    have hd := of_decide_eq_true hd
    rw [valF, Nat.pow_succ]
    omega
theorem valF_ge {w : ByteArray} {m : Nat} (h : ∀ k, k < m → digitB (byt w k) = true) (h0 : byt w 0 ≠ 48) : ∀ n, n + 1 ≤ m → 10 ^ n ≤ valF w (n + 1)
  | 0, hm => by
    have hd := h 0 (by omega)
    unfold digitB at hd
    have hd := of_decide_eq_true hd
    rw [valF, valF]
    omega
  | n + 1, hm => by
    have h1 := valF_ge h h0 n (by omega)
    rw [valF, Nat.pow_succ]
    omega
theorem NumX.digits {w : ByteArray} (h : NumX w) : Lib.nDigits (valF w w.size) = w.size := by
  obtain ⟨n, hn⟩ : ∃ n, w.size = n + 1 := ⟨w.size - 1, by have := h.pos; omega⟩
  rcases Nat.eq_zero_or_pos n with h0 | h0
  · subst h0
    have hlt := valF_lt h.all w.size (Nat.le_refl _)
    rw [hn] at hlt ⊢
    exact Lib.nDigits_small (by omega)
  · have h48 : byt w 0 ≠ 48 := fun hh => h.lead ⟨by omega, hh⟩
    have h1 := valF_ge h.all h48 n (by omega)
    have h2 := valF_lt h.all w.size (Nat.le_refl _)
    rw [hn] at h2 ⊢
    exact Lib.nDigits_unique n _ h1 h2
/-- A number is printed as it stood. -/
theorem fmt_num {w : ByteArray} (h : NumX w) : fmtB (valF w w.size : Int) = w := by
  have hi : Lib.itoa (valF w w.size : Int) = Lib.decDigits (valF w w.size) := by
    unfold Lib.itoa
    rw [if_neg (by omega), Int.toNat_natCast]
  have hsz : (fmtB (valF w w.size : Int)).size = w.size := by
    unfold fmtB
    show (Lib.itoa _).toArray.size = _
    rw [hi, List.size_toArray, Lib.decDigits_length, h.digits]
  apply byt_ext hsz
  intro k hk
  rw [hsz] at hk
  have hb : byt (fmtB (valF w w.size : Int)) k = ((Lib.dg (valF w w.size) (w.size - 1 - k)).toNat : Int) := by
    unfold fmtB byt
    rw [hi, Lib.decDigits_eq, h.digits, List.getD_eq_getElem?_getD]
    simp [hk]
  have hd := h.all k hk
  unfold digitB at hd
  have hd := of_decide_eq_true hd
  rw [hb]
  unfold Lib.dg
  rw [show w.size - 1 - k = w.size - (k + 1) by omega, valF_div h.all w.size (k + 1) (Nat.le_refl _) (by omega), valF]
  rw [UInt8.toNat_ofNat']
  omega
/-- A mark. -/
structure MarkX (w : ByteArray) : Prop where
  or : (w.size = 2 ∧ byt w 1 = 61 ∧ (byt w 0 = 33 ∨ byt w 0 = 60)) ∨ (w.size = 1 ∧ isMk (byt w 0) = true)
theorem mk_kind {c : Int} (h : isMk c = true ∨ c = 33) : letterB c = false ∧ digitB c = false ∧ (c == 34) = false := by
  have hc : c = 33 ∨ c = 40 ∨ c = 41 ∨ c = 123 ∨ c = 125 ∨ c = 44 ∨ c = 59 ∨ c = 58 ∨ c = 61 ∨ c = 60 ∨ c = 62 ∨ c = 43 ∨ c = 45 ∨ c = 42 ∨ c = 37 ∨ c = 46 := by
    rcases h with h | h
    · unfold isMk at h
      simp only [Bool.or_eq_true, beq_iff_eq] at h
      omega
    · exact .inl h
  rcases hc with h | h | h | h | h | h | h | h | h | h | h | h | h | h | h | h <;> (subst h; exact ⟨rfl, rfl, rfl⟩)
theorem lex_markX {t w : ByteArray} {i : Nat} (hw : MarkX w) (hA : At t i w) (hS : Sep t (i + w.size)) : lexE t i = 0 ∧ lexN t i = i + w.size ∧ lexX t i = ⟨4, w, 0, i⟩ := by
  rcases hw.or with ⟨h2, h61, h3⟩ | ⟨h1, hm⟩
  · have e0 : byt t i = byt w 0 := hA.2 0 (by omega)
    have e1 : byt t (i + 1) = 61 := by rw [hA.2 1 (by omega)]; exact h61
    have hlt : i + 1 < t.size := by have := hA.1; omega
    have hmk : mk2 t i = true := by
      unfold mk2
      rw [e1, e0]
      rcases h3 with h | h <;> simp [h, hlt]
    obtain ⟨hl, hd, h34⟩ := mk_kind (c := byt t i) (by rw [e0]; rcases h3 with h | h; exact .inr h; exact .inl (by rw [h]; rfl))
    have hN : lexN t i = i + w.size := by
      unfold lexN
      rw [hl, hd, h34, hmk, h2]
      rfl
    refine ⟨?_, hN, ?_⟩
    · unfold lexE; rw [hl, hd, h34, hmk]; rfl
    · unfold lexX; rw [hl, hd, h34, hN, hA.sub]; rfl
  · have e0 : byt t i = byt w 0 := hA.2 0 (by omega)
    have hmk : mk2 t i = false := by
      unfold mk2
      by_cases hlt : i + 1 < t.size
      · have := hS (by rw [h1]; exact hlt)
        rw [h1] at this
        rw [this]
        simp
      · simp [hlt]
    obtain ⟨hl, hd, h34⟩ := mk_kind (c := byt t i) (by rw [e0]; exact .inl hm)
    have hN : lexN t i = i + w.size := by
      unfold lexN
      rw [hl, hd, h34, hmk, h1]
      rfl
    refine ⟨?_, hN, ?_⟩
    · unfold lexE; rw [hl, hd, h34, hmk, e0, hm]; rfl
    · unfold lexX; rw [hl, hd, h34, hN, hA.sub]; rfl
end Go.Proofs.YtklogijbdpghpaaDoor
