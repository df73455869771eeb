/-
  CONTRACTS of wire: a written field (the statements' own function).
-/
import Derived.Test.YtjemljhfopgmiaaDoorW26
namespace Go.Proofs.YtjemljhfopgmiaaDoor
open Go.RowKit
set_option linter.unusedVariables false
set_option linter.unusedSimpArgs false
/-- What writing a field answers. -/
def WrP (f : FR) (t : ByteArray) (c : Int) : Prop :=
  if f.o % 3 = 0 then NumA f.n f.d t c else if f.o % 3 = 1 then AlphaP f.t f.d t c else VarP f.t f.d t c
theorem WrP.uniq {f : FR} {t t' : ByteArray} {c c' : Int} (h : WrP f t c) (h' : WrP f t' c') : t = t' ∧ c = c' := by
  unfold WrP at h h'
  split at h
  · rw [if_pos (by assumption)] at h'; exact h.uniq h'
  · rw [if_neg (by assumption)] at h'
    split at h
    · rw [if_pos (by assumption)] at h'; exact h.uniq h'
    · rw [if_neg (by assumption)] at h'; exact h.uniq h'
theorem NumA.sz {n d : Int} {t : ByteArray} {e : Int} (h : NumA n d t e) : t.size ≤ 15 ∧ (e ≠ 0 → t = ByteArray.empty) := by
  rcases h with ⟨_, rfl, rfl⟩ | ⟨⟨h1, h2, _⟩, rfl, rfl⟩
  · exact ⟨Nat.zero_le _, fun _ => rfl⟩
  · exact ⟨by rw [decS_size]; omega, fun h => absurd rfl h⟩
theorem AlphaP.sz {s : ByteArray} {d : Int} {t : ByteArray} {e : Int} (h : AlphaP s d t e) : t.size ≤ 255 ∧ (e ≠ 0 → t = ByteArray.empty) := by
  rcases h with ⟨_, rfl, rfl⟩ | ⟨_, _, _, rfl, rfl⟩ | ⟨_, _, _, _, rfl, rfl⟩ | ⟨_, _, _, _, _, rfl, rfl⟩
  · exact ⟨Nat.zero_le _, fun _ => rfl⟩
  · exact ⟨Nat.zero_le _, fun _ => rfl⟩
  · exact ⟨Nat.zero_le _, fun _ => rfl⟩
  · exact ⟨by rw [ByteArray.size_append, sps_size]; omega, fun h => absurd rfl h⟩
theorem VarP.sz {s : ByteArray} {d : Int} {t : ByteArray} {e : Int} (h : VarP s d t e) : t.size ≤ 258 ∧ (e ≠ 0 → t = ByteArray.empty) := by
  rcases h with ⟨_, _, rfl, rfl⟩ | ⟨_, _, rfl, rfl⟩ | ⟨_, _, _, rfl, rfl⟩
  · exact ⟨Nat.zero_le _, fun _ => rfl⟩
  · exact ⟨Nat.zero_le _, fun _ => rfl⟩
  · exact ⟨by rw [ByteArray.size_append, decS_size]; omega, fun h => absurd rfl h⟩
theorem WrP.sz {f : FR} {t : ByteArray} {c : Int} (h : WrP f t c) : t.size ≤ 258 ∧ (c ≠ 0 → t = ByteArray.empty) := by
  unfold WrP at h
  split at h
  · exact ⟨by have := h.sz.1; omega, h.sz.2⟩
  · split at h
    · exact ⟨by have := h.sz.1; omega, h.sz.2⟩
    · exact h.sz
abbrev agF (f : FR) : Value := .agg #[.int .u8 f.o, .int .i64 f.n, .string f.t, .int .i64 f.d]
theorem i64_in {x : Int} (h : (Lit.int .i64 x).wf = true) : -9223372036854775808 ≤ x ∧ x ≤ 9223372036854775807 := by
  simp [Lit.wf, IntKind.min, IntKind.max, IntKind.signed, IntKind.bits] at h
  exact ⟨by omega, by omega⟩
theorem u8_in {x : Int} (h : (Lit.int .u8 x).wf = true) : 0 ≤ x ∧ x ≤ 255 := by
  simp [Lit.wf, IntKind.min, IntKind.max, IntKind.signed, IntKind.bits] at h
  exact ⟨by omega, by omega⟩
theorem NumA.code {n d : Int} {t : ByteArray} {e : Int} (h : NumA n d t e) : 0 ≤ e ∧ e ≤ 4 := by
  rcases h with ⟨_, _, rfl⟩ | ⟨_, _, rfl⟩ <;> decide
set_option maxHeartbeats 1600000 in
set_option maxRecDepth 5000 in
theorem write_any (f : FR) (hf : okF f) (hs3 : f.t.size ≤ 300) (w : World) (hT : Pow w) (hw : 1 ≤ w.heap.size) :
    Calls Tryd.prog 17 #[agF f] w fun e w' => (∃ t c, WrP f t c ∧ e = .returned (.tuple #[.string t, .int .i64 c])) ∧ Below w.heap.size w w' := by
  obtain ⟨o, n, s, d⟩ := f
  obtain ⟨w0, w1, w2, w3⟩ := hf
  simp only [agF] at *
  obtain ⟨o0, o1⟩ := u8_in w0
  obtain ⟨n0, n1⟩ := i64_in w1
  have hP := Lib.hid fun w' (hb : Below w.heap.size w w') => hT.later hb hw
  clear hT w0 w1 w3
  by_cases h0 : o % 3 = 0
  · have HW : Hid (∀ t c, NumA n d t c → WrP ⟨o, n, s, d⟩ t c) := Lib.hid fun t c h => by unfold WrP; rw [if_pos h0]; exact h
    go_enter Tryd.func17, Tryd.ntmps17
    go_wp2_with fail
    refine (num_any n d n1 _ (hP.out _ ((Below.refl _ _).alloc (Nat.le_refl _) _))).mono ?_
    rintro e w1 ⟨⟨t, c, hN, rfl⟩, hb1⟩
    have HN := Lib.hid (HW.out _ _ hN)
    clear hN
    go_wp2
    go_ret2
    exact ⟨⟨_, _, HN.out, rfl⟩, ((Below.refl _ _).alloc (Nat.le_refl _) _).trans (hb1.mono (by simp))⟩
  · by_cases h1 : o % 3 = 1
    · have HW : Hid (∀ t c, AlphaP s d t c → WrP ⟨o, n, s, d⟩ t c) := Lib.hid fun t c h => by unfold WrP; rw [if_neg h0, if_pos h1]; exact h
      go_enter Tryd.func17, Tryd.ntmps17
      go_wp2_with fail
      refine (alpha_any s d (by omega) _).mono ?_
      rintro e w1 ⟨⟨t, c, hN, rfl⟩, hb1⟩
      have HN := Lib.hid (HW.out _ _ hN)
      clear hN
      go_wp2
      go_ret2
      exact ⟨⟨_, _, HN.out, rfl⟩, ((Below.refl _ _).alloc (Nat.le_refl _) _).trans (hb1.mono (by simp))⟩
    · have HW : Hid (∀ t c, VarP s d t c → WrP ⟨o, n, s, d⟩ t c) := Lib.hid fun t c h => by unfold WrP; rw [if_neg h0, if_neg h1]; exact h
      have z0 : (o % 3 == 0) = false := by simpa using h0
      have z1 : (o % 3 == 1) = false := by simpa using h1
      go_enter Tryd.func17, Tryd.ntmps17
      go_wp2_with fail
      refine (var_any s d (by omega) _ (hP.out _ ((Below.refl _ _).alloc (Nat.le_refl _) _))).mono ?_
      rintro e w1 ⟨⟨t, c, hN, rfl⟩, hb1⟩
      have HN := Lib.hid (HW.out _ _ hN)
      clear hN
      go_wp2
      go_ret2
      exact ⟨⟨_, _, HN.out, rfl⟩, ((Below.refl _ _).alloc (Nat.le_refl _) _).trans (hb1.mono (by simp))⟩
noncomputable def wr (f : FR) : ByteArray × Int := Classical.epsilon fun p => WrP f p.1 p.2
theorem wr_eq {f : FR} {t : ByteArray} {c : Int} (h : WrP f t c) : wr f = (t, c) := by
  have := Classical.epsilon_spec (p := fun p : ByteArray × Int => WrP f p.1 p.2) ⟨(t, c), h⟩
  obtain ⟨h1, h2⟩ := h.uniq this
  exact (Prod.ext h1 h2).symm
/-- All written fields, one after the other. -/
noncomputable def joinF : List FR → ByteArray
  | [] => ByteArray.empty
  | f :: r => (wr f).1 ++ joinF r
theorem joinF_app : ∀ (a b : List FR), joinF (a ++ b) = joinF a ++ joinF b
  | [], b => by rw [List.nil_append]; show _ = ByteArray.empty ++ _; rw [ByteArray.empty_append]
  | f :: r, b => by rw [List.cons_append, joinF, joinF, joinF_app r b, ByteArray.append_assoc]
theorem joinF_take {L : List FR} {k : Nat} {f : FR} (h : L[k]? = some f) : joinF (L.take (k + 1)) = joinF (L.take k) ++ (wr f).1 := by
  rw [List.take_add_one, h, joinF_app]
  congr 1
  show (wr f).1 ++ ByteArray.empty = _
  rw [ByteArray.append_empty]
theorem joinF_drop {L : List FR} {k : Nat} {f : FR} (h : L[k]? = some f) : joinF (L.drop k) = (wr f).1 ++ joinF (L.drop (k + 1)) := by
  obtain ⟨hk, rfl⟩ := List.getElem?_eq_some_iff.1 h
  rw [List.drop_eq_getElem_cons hk, joinF]
theorem fr_mem {L : List FR} {k : Nat} {f : FR} (h : L[k]? = some f) : f ∈ L := List.mem_of_getElem? h
end Go.Proofs.YtjemljhfopgmiaaDoor
