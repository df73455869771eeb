/-
  CONTRACTS of card numbers: the program's Index.
-/
import Derived.Test.YtddnfjaogekmjaaDoorP13
import Derived.Lib.AtoiErrMem
namespace Go.Proofs.YtddnfjaogekmjaaDoor
open Go.RowKit Go.Lib
set_option linter.unusedVariables false
set_option linter.unusedSimpArgs false
def OkX (p s : ByteArray) : Prop := chkE s = 0 ∧ 1 ≤ p.size ∧ p.size ≤ 10 ∧ Lib.hasPrefix s.data.toList p.data.toList = true
/-- The number of a card number behind its prefix. -/
def idxN (p s : ByteArray) : Int := numOf s p.size (s.size - 1 - p.size)
theorem chk_ok {s : ByteArray} (h : chkE s = 0) : 12 ≤ s.size ∧ s.size ≤ 19 ∧ Dgs s ∧ luhnP s := by
  unfold chkE at h
  split at h
  · omega
  · split at h
    · omega
    · split at h
      · omega
      · rename_i h3
        split at h
        · omega
        · rename_i h4
          exact ⟨by omega, by omega, Classical.not_not.1 h3, Classical.not_not.1 h4⟩
theorem isPre_ext : ∀ {l m : List UInt8}, m.isPrefixOf l = true → ∃ r, l = m ++ r := fun h => by
  obtain ⟨r, hr⟩ := List.isPrefixOf_iff_prefix.1 h
  exact ⟨r, hr.symm⟩
theorem pre_bytes {s p : ByteArray} (h : Lib.hasPrefix s.data.toList p.data.toList = true) : p.size ≤ s.size ∧ s.extract 0 p.size = p := by
  obtain ⟨r, hr⟩ := isPre_ext h
  have hz : p.size ≤ s.size := by
    have := congrArg List.length hr
    simp only [List.length_append] at this
    show p.data.toList.length ≤ s.data.toList.length
    omega
  refine ⟨hz, byt_ext (by rw [size_extract' _ _ _ hz]; omega) fun k hk => ?_⟩
  rw [size_extract' _ _ _ hz] at hk
  rw [byt_extract _ _ _ _ hz hk, Nat.zero_add, byt, byt, hr, List.getD_eq_getElem?_getD, List.getD_eq_getElem?_getD, List.getElem?_append_left (by show k < p.size; omega)]
theorem bytes_pre {s p : ByteArray} (hz : p.size ≤ s.size) (h : s.extract 0 p.size = p) : Lib.hasPrefix s.data.toList p.data.toList = true := by
  have h2 : p.data.toList = s.data.toList.take p.size := by
    have := congrArg (fun b : ByteArray => b.data.toList) h
    simp only [ByteArray.data_extract, Array.toList_extract] at this
    rw [← this]
    simp [List.extract]
  unfold Lib.hasPrefix
  rw [h2]
  exact List.isPrefixOf_iff_prefix.2 (List.take_prefix _ _)
def stepD (a : Nat) (c : UInt8) : Nat := a * 10 + (c.toNat - 48)
theorem parse_dg : ∀ (l : List UInt8) (acc m : Nat), (∀ c ∈ l, 48 ≤ c.toNat ∧ c.toNat ≤ 57) → acc < 10 ^ m → m + l.length ≤ 18 → parseUint10 acc l = .ok (l.foldl stepD acc)
  | [], _, _, _, _, _ => rfl
  | c :: r, acc, m, h, ha, hl => by
    have hc := h c (List.mem_cons_self ..)
    rw [List.length_cons] at hl
    have h17 := Nat.pow_le_pow_right (show 0 < 10 by decide) (show m ≤ 17 by omega)
    rw [parseUint10, if_pos hc, if_neg (by omega), if_neg (by omega), List.foldl_cons]
    exact parse_dg r _ (m + 1) (fun d hd => h d (List.mem_cons_of_mem _ hd)) (by rw [Nat.pow_succ]; omega) (by omega)
theorem fold_num (t : ByteArray) : ∀ k, k ≤ t.size → (∀ j, j < k → dgAt t j) → (((t.data.toList.take k).foldl stepD 0 : Nat) : Int) = numOf t 0 k
  | 0, _, _ => rfl
  | k + 1, hk, h => by
    have ih := fold_num t k (by omega) (fun j hj => h j (by omega))
    have h2 := h k (by omega)
    unfold dgAt at h2
    have hg : t.data.toList[k]? = some t.data.toList[k] := List.getElem?_eq_getElem (by show k < t.size; omega)
    have hb : byt t k = ((t.data.toList[k]'(by show k < t.size; omega)).toNat : Int) := by rw [byt, List.getD_eq_getElem?_getD, hg]; rfl
    rw [List.take_add_one, hg, List.foldl_append, numOf, ← ih, Nat.zero_add, hb]
    rw [hb] at h2
    simp only [Option.toList_some, List.foldl_cons, List.foldl_nil, stepD]
    omega
theorem atoi_dg (t : ByteArray) (h0 : 0 < t.size) (h1 : t.size ≤ 18) (hd : Dgs t) : atoiAll t.data.toList = .ok (numOf t 0 t.size) := by
  have hall : ∀ c ∈ t.data.toList, 48 ≤ c.toNat ∧ c.toNat ≤ 57 := by
    intro c hc
    obtain ⟨k, hk, rfl⟩ := List.getElem_of_mem hc
    have := hd k hk
    unfold dgAt at this
    rw [byt, List.getD_eq_getElem?_getD, List.getElem?_eq_getElem hk] at this
    simp only [Option.getD_some] at this
    omega
  have hf := fold_num t t.size (Nat.le_refl _) hd
  rw [show t.data.toList.take t.size = t.data.toList from List.take_of_length_le (Nat.le_refl _)] at hf
  have hp := parse_dg t.data.toList 0 0 hall (by decide) (by show 0 + t.size ≤ 18; omega)
  have hbd := numOf_bd t 0 t.size (fun j hj => by rw [Nat.zero_add]; exact hd j hj)
  have h18 := Nat.pow_le_pow_right (show 0 < 10 by decide) h1
  have hbd2 : numOf t 0 t.size < 1000000000000000000 := by
    have : ((10 : Int) ^ t.size) = ((10 ^ t.size : Nat) : Int) := by simp
    omega
  generalize hl : t.data.toList = l at *
  cases l with
  | nil => exfalso; have : t.data.toList.length = 0 := by rw [hl]; rfl
           have h2 : t.data.toList.length = t.size := rfl
           omega
  | cons c r =>
    have hc := hall c (List.mem_cons_self ..)
    unfold atoiAll
    simp only
    rw [if_neg (by omega), parseMag, if_neg (by simp), hp]
    simp only
    rw [if_neg (by omega), if_neg (by omega), if_neg (by omega), hf]
end Go.Proofs.YtddnfjaogekmjaaDoor
