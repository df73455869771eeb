/-
  CONTRACTS of wire: the program's number (digits of a width).
-/
import Derived.Test.YtjemljhfopgmiaaGreatDoorZ7
import Derived.Lib.AtoiErrMem
import Derived.Lib.ParseIntBTie
namespace Go.Proofs.YtjemljhfopgmiaaGreatDoor
open Go.RowKit
set_option linter.unusedVariables false
set_option linter.unusedSimpArgs false
section
open Go.Lib
def stepD (a : Nat) (c : UInt8) : Nat := a * 10 + (c.toNat - 48)
theorem parse_dg : ∀ (l : List UInt8) (acc m : Nat), (∀ c ∈ l, 48 ≤ c.toNat ∧ c.toNat ≤ 57) → acc < 10 ^ m → m + l.length ≤ 18 → parseUint10 acc l = .ok (l.foldl stepD acc)
  | [], _, _, _, _, _ => rfl
  | c :: r, acc, m, h, ha, hl => by
    have hc := h c (List.mem_cons_self ..)
    rw [List.length_cons] at hl
    have h17 := Nat.pow_le_pow_right (show 0 < 10 by decide) (show m ≤ 17 by omega)
    rw [parseUint10, if_pos hc, if_neg (by omega), if_neg (by omega), List.foldl_cons]
    exact parse_dg r _ (m + 1) (fun d hd => h d (List.mem_cons_of_mem _ hd)) (by rw [Nat.pow_succ]; omega) (by omega)
theorem fold_num (t : ByteArray) : ∀ k, k ≤ t.size → (∀ j, j < k → dgAt t j) → (((t.data.toList.take k).foldl stepD 0 : Nat) : Int) = numOf t 0 k
  | 0, _, _ => rfl
  | k + 1, hk, h => by
    have ih := fold_num t k (by omega) (fun j hj => h j (by omega))
    have h2 := h k (by omega)
    unfold dgAt at h2
    have hg : t.data.toList[k]? = some t.data.toList[k] := List.getElem?_eq_getElem (by show k < t.size; omega)
    have hb : byt t k = ((t.data.toList[k]'(by show k < t.size; omega)).toNat : Int) := by rw [byt, List.getD_eq_getElem?_getD, hg]; rfl
    rw [List.take_add_one, hg, List.foldl_append, numOf, ← ih, Nat.zero_add, hb]
    rw [hb] at h2
    simp only [Option.toList_some, List.foldl_cons, List.foldl_nil, stepD]
    omega
theorem atoi_dg (t : ByteArray) (h0 : 0 < t.size) (h1 : t.size ≤ 18) (hd : Dgs t) : atoiAll t.data.toList = .ok (numOf t 0 t.size) := by
  have hall : ∀ c ∈ t.data.toList, 48 ≤ c.toNat ∧ c.toNat ≤ 57 := by
    intro c hc
    obtain ⟨k, hk, rfl⟩ := List.getElem_of_mem hc
    have := hd k hk
    unfold dgAt at this
    rw [byt, List.getD_eq_getElem?_getD, List.getElem?_eq_getElem hk] at this
    simp only [Option.getD_some] at this
    omega
  have hf := fold_num t t.size (Nat.le_refl _) hd
  rw [show t.data.toList.take t.size = t.data.toList from List.take_of_length_le (Nat.le_refl _)] at hf
  have hp := parse_dg t.data.toList 0 0 hall (by decide) (by show 0 + t.size ≤ 18; omega)
  have hbd := numOf_bd t 0 t.size (fun j hj => by rw [Nat.zero_add]; exact hd j hj)
  have h18 := Nat.pow_le_pow_right (show 0 < 10 by decide) h1
  have hbd2 : numOf t 0 t.size < 1000000000000000000 := by
    have : ((10 : Int) ^ t.size) = ((10 ^ t.size : Nat) : Int) := by simp
    omega
  generalize hl : t.data.toList = l at *
  cases l with
  | nil => exfalso; have : t.data.toList.length = 0 := by rw [hl]; rfl
           have h2 : t.data.toList.length = t.size := rfl
           omega
  | cons c r =>
    have hc := hall c (List.mem_cons_self ..)
    unfold atoiAll
    simp only
    rw [if_neg (by omega), parseMag, if_neg (by simp), hp]
    simp only
    rw [if_neg (by omega), if_neg (by omega), if_neg (by omega), hf]

theorem sl_h (s : ByteArray) (b : Nat) (h2 : b ≤ s.size) {j : Int} (hj : j = b) (w : World) : (Instr.slice 9 (.string s) none (some (.int .i64 j)) none).run Tryz.prog w = .ok (.string (s.extract 0 b)) w := by
  subst hj
  rw [run_slice_string_h w 9 s Tryz.underlying9 .i64 (b : Int) (by omega) (by omega)]
  rfl
theorem sl_l (s : ByteArray) (a : Nat) (h2 : a ≤ s.size) {i : Int} (hi : i = a) (w : World) : (Instr.slice 9 (.string s) (some (.int .i64 i)) none none).run Tryz.prog w = .ok (.string (s.extract a s.size)) w := by
  subst hi
  rw [run_slice_string_l w 9 s Tryz.underlying9 .i64 (a : Int) (by omega) (by omega)]
  rfl
theorem parse_any (t : ByteArray) (h0 : 0 < t.size) (h1 : t.size ≤ 18) (hd : Dgs t) (w : World) :
    Calls Tryz.prog 44 #[.string t, .int .i64 10, .int .i64 64] w fun e w' => e = .returned (.tuple #[.int .i64 (numOf t 0 t.size), .nilIface]) ∧ Below w.heap.size w w' := by
  refine (Tryz.strconv_ParseInt_10_at64_ok t (by omega) _ (by rw [parseIntB_64]; exact atoi_dg t h0 h1 hd) w).mono ?_
  rintro e w' ⟨rfl, rfl | ⟨q, rfl⟩⟩
  · exact ⟨rfl, Below.refl _ _⟩
  · exact ⟨rfl, bytesWorld_below _ _ _⟩
end
/-- What the digits of a width denote. -/
def NumbP (s : ByteArray) (k : Nat) (v e : Int) : Prop :=
  (s.size < k ∧ v = 0 ∧ e = 1) ∨
  (k ≤ s.size ∧ ¬ Dgs (s.extract 0 k) ∧ v = 0 ∧ e = 2) ∨
  (k ≤ s.size ∧ Dgs (s.extract 0 k) ∧ v = numOf (s.extract 0 k) 0 k ∧ e = 0)
set_option maxHeartbeats 1600000 in
theorem number_any (s : ByteArray) (k : Nat) (k1 : 1 ≤ k) (k2 : k ≤ 15) (hs : s.size ≤ 281474976710656) (w : World) :
    Calls Tryz.prog 27 #[.string s, .int .i64 (k : Int)] w fun e w' => (∃ v c, NumbP s k v c ∧ e = .returned (.tuple #[.int .i64 v, .int .i64 c])) ∧ Below w.heap.size w w' := by
  by_cases h1 : s.size < k
  · go_enter Tryz.func27, Tryz.ntmps27
    go_wp2
    go_ret2
    exact ⟨⟨_, _, .inl ⟨h1, rfl, rfl⟩, rfl⟩, Below.refl _ _⟩
  have hz : (s.extract 0 k).size = k := by rw [size_extract' _ _ _ (by omega)]; omega
  have hsl := fun w => sl_h s k (by omega) (j := (k : Int)) rfl w
  by_cases h2 : Dgs (s.extract 0 k)
  · have C1 := Lib.hid (fun w => digits_yes (s.extract 0 k) (by omega) (by omega) h2 w)
    have C2 := Lib.hid (fun w => parse_any (s.extract 0 k) (by omega) (by omega) h2 w)
    rw [hz] at C2
    have HA : Hid (NumbP s k (numOf (s.extract 0 k) 0 k) 0) := Lib.hid (.inr (.inr ⟨by omega, h2, rfl, rfl⟩))
    clear h2
    generalize numOf (s.extract 0 k) 0 k = v at *
    generalize s.extract 0 k = t at *
    go_enter Tryz.func27, Tryz.ntmps27
    go_wp2_with (go_at_call 43; refine (C1.out _).mono ?_)
    rintro e w1 ⟨rfl, rfl⟩
    go_wp2_with (go_at_call 44; refine (C2.out _).mono ?_)
    rintro e w1 ⟨rfl, hb1⟩
    go_wp2
    go_ret2
    exact ⟨⟨_, _, HA.out, rfl⟩, hb1⟩
  · have C1 := Lib.hid (fun w => digits_no (s.extract 0 k) (by omega) h2 w)
    have HA : Hid (NumbP s k 0 2) := Lib.hid (.inr (.inl ⟨by omega, h2, rfl, rfl⟩))
    clear h2
    generalize s.extract 0 k = t at *
    go_enter Tryz.func27, Tryz.ntmps27
    go_wp2_with (go_at_call 43; refine (C1.out _).mono ?_)
    rintro e w1 ⟨rfl, rfl⟩
    go_wp2
    go_ret2
    exact ⟨⟨_, _, HA.out, rfl⟩, Below.refl _ _⟩
end Go.Proofs.YtjemljhfopgmiaaGreatDoor
