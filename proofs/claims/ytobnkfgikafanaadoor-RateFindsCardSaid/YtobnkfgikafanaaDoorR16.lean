/-
  CONTRACTS of rates: numbers in texts.
-/
import Derived.Test.YtobnkfgikafanaaDoorR13
import Derived.Lib.AtoiErrMem
import Derived.Lib.ParseIntBTie
namespace Go.Proofs.YtobnkfgikafanaaDoor
open Go.RowKit Go.Lib
set_option linter.unusedVariables false
set_option linter.unusedSimpArgs false
def stepD (a : Nat) (c : UInt8) : Nat := a * 10 + (c.toNat - 48)
theorem parse_dg : ∀ (l : List UInt8) (acc m : Nat), (∀ c ∈ l, 48 ≤ c.toNat ∧ c.toNat ≤ 57) → acc < 10 ^ m → m + l.length ≤ 18 → parseUint10 acc l = .ok (l.foldl stepD acc)
  | [], _, _, _, _, _ => rfl
  | c :: r, acc, m, h, ha, hl => by
    have hc := h c (List.mem_cons_self ..)
    rw [List.length_cons] at hl
    have h17 := Nat.pow_le_pow_right (show 0 < 10 by decide) (show m ≤ 17 by omega)
    rw [parseUint10, if_pos hc, if_neg (by omega), if_neg (by omega), List.foldl_cons]
    exact parse_dg r _ (m + 1) (fun d hd => h d (List.mem_cons_of_mem _ hd)) (by rw [Nat.pow_succ]; omega) (by omega)
theorem fold_num (t : ByteArray) : ∀ k, k ≤ t.size → (∀ j, j < k → dgAt t j) → (((t.data.toList.take k).foldl stepD 0 : Nat) : Int) = numOf t 0 k
  | 0, _, _ => rfl
  | k + 1, hk, h => by
    have ih := fold_num t k (by omega) (fun j hj => h j (by omega))
    have h2 := h k (by omega)
    unfold dgAt at h2
    have hg : t.data.toList[k]? = some t.data.toList[k] := List.getElem?_eq_getElem (by show k < t.size; omega)
    have hb : byt t k = ((t.data.toList[k]'(by show k < t.size; omega)).toNat : Int) := by rw [byt, List.getD_eq_getElem?_getD, hg]; rfl
    rw [List.take_add_one, hg, List.foldl_append, numOf, ← ih, Nat.zero_add, hb]
    rw [hb] at h2
    simp only [Option.toList_some, List.foldl_cons, List.foldl_nil, stepD]
    omega
theorem atoi_dg (t : ByteArray) (h0 : 0 < t.size) (h1 : t.size ≤ 18) (hd : Dgs t) : atoiAll t.data.toList = .ok (numOf t 0 t.size) := by
  have hall : ∀ c ∈ t.data.toList, 48 ≤ c.toNat ∧ c.toNat ≤ 57 := by
    intro c hc
    obtain ⟨k, hk, rfl⟩ := List.getElem_of_mem hc
    have := hd k hk
    unfold dgAt at this
    rw [byt, List.getD_eq_getElem?_getD, List.getElem?_eq_getElem hk] at this
    simp only [Option.getD_some] at this
    omega
  have hf := fold_num t t.size (Nat.le_refl _) hd
  rw [show t.data.toList.take t.size = t.data.toList from List.take_of_length_le (Nat.le_refl _)] at hf
  have hp := parse_dg t.data.toList 0 0 hall (by decide) (by show 0 + t.size ≤ 18; omega)
  have hbd := numOf_bd t 0 t.size (fun j hj => by rw [Nat.zero_add]; exact hd j hj)
  have h18 := Nat.pow_le_pow_right (show 0 < 10 by decide) h1
  have hbd2 : numOf t 0 t.size < 1000000000000000000 := by
    have : ((10 : Int) ^ t.size) = ((10 ^ t.size : Nat) : Int) := by simp
    omega
  generalize hl : t.data.toList = l at *
  cases l with
  | nil => exfalso; have : t.data.toList.length = 0 := by rw [hl]; rfl
           have h2 : t.data.toList.length = t.size := rfl
           omega
  | cons c r =>
    have hc := hall c (List.mem_cons_self ..)
    unfold atoiAll
    simp only
    rw [if_neg (by omega), parseMag, if_neg (by simp), hp]
    simp only
    rw [if_neg (by omega), if_neg (by omega), if_neg (by omega), hf]

def evOk (ev : Value) : Prop := ev = .nilIface ∨ ∃ te pe, ev = .iface te pe
structure Errs (w : World) : Prop where
  syn : ∃ ev, w.cell? ⟨4, 0, none⟩ = some ev ∧ evOk ev
  ran : ∃ ev, w.cell? ⟨5, 0, none⟩ = some ev ∧ evOk ev
theorem Errs.later {w w' : World} {B : Nat} (h : Errs w) (hb : Below B w w') (hB : 8 ≤ B) : Errs w' := by
  obtain ⟨e1, h1, k1⟩ := h.syn
  obtain ⟨e2, h2, k2⟩ := h.ran
  exact ⟨⟨e1, (hb.cell (p := ⟨4, 0, none⟩) (by show 4 < B; omega)).trans h1, k1⟩, ⟨e2, (hb.cell (p := ⟨5, 0, none⟩) (by show 5 < B; omega)).trans h2, k2⟩⟩
def itS (v : Int) : ByteArray := ⟨(itoa v).toArray⟩
theorem fmt_int (v : Int) (h0 : -9223372036854775808 ≤ v) (h1 : v ≤ 9223372036854775807) (w : World) (hT : Pow w) : Calls Tryd.prog 33 #[.int .i64 v, .int .i64 10] w fun e w' => e = .returned (.string (itS v)) ∧ Pushed w w' := by
  refine (Tryd.strconv_FormatInt_10 v h0 h1 w hT).mono ?_
  rintro e w' ⟨rfl, k, os, rfl⟩
  exact ⟨rfl, pushed_grow w k os⟩
/-- What Number returns. -/
def NumP (s : ByteArray) (v : Int) (b : Bool) : Prop := ∀ w, Pow w → Errs w → 8 ≤ w.heap.size → Calls Tryd.prog 43 #[.string s] w fun e w' => e = .returned (.tuple #[.int .i64 v, .bool b]) ∧ Below w.heap.size w w'
theorem num_ok (s : ByteArray) (hs : s.size ≤ 1000) (v : Int) (h : parseIntB 64 s.data.toList = .ok v) : NumP s (if itS v = s then v else 0) (decide (itS v = s)) := by
  intro w hT hE hw
  have hb := parseIntB_bounds h
  have P1 : Hid (∀ w, Calls Tryd.prog 58 #[.string s, .int .i64 10, .int .i64 64] w fun e w' => e = .returned (.tuple #[.int .i64 v, .nilIface]) ∧ Below w.heap.size w w') := Lib.hid fun w => (Tryd.strconv_ParseInt_10_at64_ok s (by omega) v h w).mono fun e w' h' => by
    obtain ⟨rfl, h2⟩ := h'
    refine ⟨rfl, ?_⟩
    rcases h2 with rfl | ⟨t, rfl⟩
    · exact Below.refl _ _
    · exact bytesWorld_below _ _ _
  have F1 : Hid (∀ w', Below w.heap.size w w' → Calls Tryd.prog 33 #[.int .i64 v, .int .i64 10] w' fun e w'' => e = .returned (.string (itS v)) ∧ Below w.heap.size w w'') := Lib.hid fun w' hb' => (fmt_int v (by omega) (by omega) w' (hT.later hb' hw)).mono fun e w'' h' => ⟨h'.1, hb'.trans (h'.2.below.mono hb'.size)⟩
  clear hb h
  by_cases he : itS v = s
  · rw [if_pos he, decide_eq_true he]
    rw [he] at F1
    clear he
    go_enter Tryd.func43, Tryd.ntmps43
    go_wp2_with fail
    refine (P1.out _).mono ?_
    rintro x w1 ⟨rfl, hb1⟩
    go_wp2_with fail
    refine (F1.out _ hb1).mono ?_
    rintro x w2 ⟨rfl, hb2⟩
    go_wp2
    go_ret2
    exact ⟨rfl, hb2⟩
  · rw [if_neg he, decide_eq_false he]
    have hne := str_ne he
    have hn2 : ((itS v).toList != s.toList) = true := by simpa [bne] using hne
    generalize itS v = z at *
    clear he
    go_enter Tryd.func43, Tryd.ntmps43
    go_wp2_with fail
    refine (P1.out _).mono ?_
    rintro x w1 ⟨rfl, hb1⟩
    go_wp2_with fail
    refine (F1.out _ hb1).mono ?_
    rintro x w2 ⟨rfl, hb2⟩
    go_wp2
    go_ret2
    exact ⟨rfl, hb2⟩
theorem num_err (s : ByteArray) (hs : s.size ≤ 1000) (h : parseIntB 64 s.data.toList = .«syntax» ∨ parseIntB 64 s.data.toList = .range) : NumP s 0 false := by
  intro w hT hE hw
  obtain ⟨e1, h1, k1⟩ := hE.syn
  obtain ⟨e2, h2, k2⟩ := hE.ran
  have P1 : Hid (Calls Tryd.prog 58 #[.string s, .int .i64 10, .int .i64 64] w fun e w' => (∃ n N, e = .returned (.tuple #[.int .i64 n, .iface 104 (.pointer (some ⟨N, 0, none⟩))])) ∧ Below w.heap.size w w') := by
    rcases h with h | h
    · exact Lib.hid ((Tryd.strconv_ParseInt_10_at64_syntax s (by omega) h e1 w h1 k1).mono fun e w' h' => by
        obtain ⟨N, rfl, _, _, hb⟩ := h'
        exact ⟨⟨_, N, rfl⟩, hb⟩)
    · exact Lib.hid ((Tryd.strconv_ParseInt_10_at64_range s (by omega) h e2 w h2 k2).mono fun e w' h' => by
        obtain ⟨N, rfl, _, _, hb⟩ := h'
        exact ⟨⟨_, N, rfl⟩, hb⟩)
  clear h h1 h2 k1 k2 hE hT
  go_enter Tryd.func43, Tryd.ntmps43
  go_wp2_with fail
  refine P1.out.mono ?_
  rintro x w1 ⟨⟨n, N, rfl⟩, hb1⟩
  go_wp2
  go_ret2
  exact ⟨rfl, hb1⟩
theorem num_tot (s : ByteArray) (hs : s.size ≤ 1000) : ∃ v b, NumP s v b ∧ (b = true → s = itS v) := by
  cases h : parseIntB 64 s.data.toList with
  | ok v =>
    refine ⟨_, _, num_ok s hs v h, fun hb => ?_⟩
    have he := of_decide_eq_true hb
    rw [if_pos he, he]
  | «syntax» => exact ⟨_, _, num_err s hs (.inl h), fun hb => by cases hb⟩
  | range => exact ⟨_, _, num_err s hs (.inr h), fun hb => by cases hb⟩
theorem itS_nat (u : Nat) : itS (u : Int) = decS u (nDigits u) := by unfold itS; rw [itoa_nonneg, decS_all]
theorem num_dec (u : Nat) (hu : u ≤ 1099511627776) : NumP (decS u (nDigits u)) u true := by
  have hp : numOf (decS u (nDigits u)) 0 (nDigits u) = (u : Int) := by
    rw [numOf_decS _ _ _ (Nat.le_refl _), Nat.sub_self, Nat.pow_zero, Nat.div_one, Nat.mod_eq_of_lt (nd_bd u).1]
  have h13 := nd_13 hu
  have hpos := nDigits_pos u
  have hz := decS_size u (nDigits u)
  have h := atoi_dg (decS u (nDigits u)) (by omega) (by omega) (dgs_decS _ _)
  rw [hz, hp] at h
  have := num_ok (decS u (nDigits u)) (by omega) (u : Int) (by rw [parseIntB_64]; exact h)
  rw [itS_nat] at this
  simpa using this
end Go.Proofs.YtobnkfgikafanaaDoor
