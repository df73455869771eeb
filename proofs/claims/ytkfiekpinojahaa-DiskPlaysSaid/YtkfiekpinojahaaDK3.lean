/-
  CONTRACTS of disk: what Read returns: the block after all pending writes.
-/
import Derived.Test.YtkfiekpinojahaaDK2
namespace Go.Proofs.Ytkfiekpinojahaa
open Go.RowKit
set_option linter.unusedVariables false
set_option linter.unusedSimpArgs false
/-- The blocks after writes. -/
def appl (l : List ByteArray) (pe : List (Nat × ByteArray)) : List ByteArray := pe.foldl (fun l x => l.set x.1 x.2) l
theorem appl_len (l : List ByteArray) (pe : List (Nat × ByteArray)) : (appl l pe).length = l.length := by
  induction pe generalizing l with
  | nil => rfl
  | cons x pe ih => exact (ih _).trans (by simp)
theorem appl_snoc (l : List ByteArray) (pe : List (Nat × ByteArray)) (x : Nat × ByteArray) : appl l (pe ++ [x]) = (appl l pe).set x.1 x.2 := by
  unfold appl
  rw [List.foldl_append]
  rfl
theorem appl_take (l : List ByteArray) (pe : List (Nat × ByteArray)) {k : Nat} {x : Nat × ByteArray} (h : pe[k]? = some x) : appl l (pe.take (k + 1)) = (appl l (pe.take k)).set x.1 x.2 := by
  rw [List.take_add_one, h]
  exact appl_snoc _ _ _
/-- No write from k on is to n. -/
def NoW (pe : List (Nat × ByteArray)) (n k : Nat) : Prop := ∀ j x, k ≤ j → pe[j]? = some x → x.1 ≠ n
theorem now_get (l : List ByteArray) (pe : List (Nat × ByteArray)) {n : Nat} (d : Nat) {k : Nat} (hd : k + d = pe.length) (h : NoW pe n k) : (appl l pe)[n]? = (appl l (pe.take k))[n]? := by
  induction d generalizing k with
  | zero => rw [List.take_of_length_le (by omega)]
  | succ d ih =>
    rw [ih (k := k + 1) (by omega) (fun j x hj hx => h j x (by omega) hx)]
    have hk : k < pe.length := by omega
    rw [appl_take l pe (List.getElem?_eq_getElem hk), List.getElem?_set_ne (h k _ (Nat.le_refl _) (List.getElem?_eq_getElem hk))]
theorem now_step {pe : List (Nat × ByteArray)} {n k : Nat} {x : Nat × ByteArray} (hx : pe[k]? = some x) (hn : x.1 ≠ n) (h : NoW pe n (k + 1)) : NoW pe n k := fun j y hj hy => by
  rcases Nat.lt_or_ge k j with hl | hl
  · exact h j y hl hy
  · obtain rfl : j = k := by omega
    rw [hx] at hy
    cases hy
    exact hn
theorem now_hit (l : List ByteArray) {pe : List (Nat × ByteArray)} {n k : Nat} {x : Nat × ByteArray} (hx : pe[k]? = some x) (hn : x.1 = n) (hl : n < l.length) (h : NoW pe n (k + 1)) : (appl l pe)[n]? = some x.2 := by
  have hk : k < pe.length := (List.getElem?_eq_some_iff.1 hx).1
  rw [now_get l pe (pe.length - (k + 1)) (by omega) h, appl_take l pe hx, hn, List.getElem?_set_self (by rw [appl_len]; exact hl)]
theorem now_get_zero {l : List ByteArray} {pe : List (Nat × ByteArray)} {n : Nat} (h : NoW pe n 0) : (appl l pe)[n]? = l[n]? := now_get l pe pe.length (by omega) h
/-- What Read returns. -/
def curS (s : DSt) : List ByteArray := appl s.bl s.pe
def readT (s : DSt) (n : Int) : ByteArray := if chkS s n = 0 then ((curS s)[n.toNat]?).getD ⟨#[]⟩ else ⟨#[]⟩
theorem chk_zero {s : DSt} {n : Int} (h : chkS s n = 0) : s.down = false ∧ 0 ≤ n ∧ n < s.bl.length := by
  unfold chkS at h
  split at h
  · omega
  · split at h
    · omega
    · refine ⟨by simp_all, by omega, by omega⟩
theorem strs_get (l : List ByteArray) (i : Nat) : (strs l)[i]? = l[i]?.map Value.string := by
  simp [strs]
set_option maxHeartbeats 1600000 in
theorem read_any (K D B : Nat) (v : Value) (s : DSt) (w : World) (hr : Rep w K D B v s) (n : Int) {t : ByteArray} {c : Int} (HT : Hid (readT s n = t)) (HC : Hid (chkS s n = c)) : Calls Try.prog 23 #[.pointer (some ⟨D, 0, none⟩), .int .i64 n] w fun e w' => e = .returned (.tuple #[.string t, .int .i64 c]) ∧ w = w' := by
  have CK := Lib.hid (check_any K D B v s w hr n)
  rw [HC.out] at CK
  by_cases hc : c = 0
  case neg =>
    have hcc : (c != 0) = true := by simpa using hc
    have HX : Hid (t = ⟨#[]⟩) := Lib.hid (by rw [← HT.out, readT, HC.out, if_neg hc])
    clear hr
    go_enter Try.func23, Try.ntmps23
    go_wp2_with fail
    refine CK.out.mono ?_
    rintro e w1 ⟨rfl, rfl⟩
    go_wp2
    go_ret2
    rw [HX.out]
    exact ⟨rfl, rfl⟩
  subst hc
  obtain ⟨-, n0, nl⟩ := chk_zero HC.out
  obtain ⟨n, rfl⟩ : ∃ m : Nat, n = (m : Int) := ⟨n.toNat, by omega⟩
  have nl' : n < s.bl.length := by omega
  have hcur : (curS s)[n]? = some t := by
    have h1 := HT.out
    rw [readT, HC.out, if_pos rfl] at h1
    have h2 : n < (curS s).length := by rw [curS, appl_len]; exact nl'
    rw [show ((n : Int)).toNat = n by omega, List.getElem?_eq_getElem h2] at h1
    rw [List.getElem?_eq_getElem h2]
    exact congrArg some h1
  have hd := hr.disk
  have hlt := hd.lt
  have d0 := hd.cell 0
  have d1 := hd.cell 1
  simp at d0 d1
  have hB := hr.blocks
  have hrow := hr.row
  have lb := hr.lb
  have lp := hr.lp
  have Hc := Lib.hid hcur
  obtain ⟨A, cap, rfl⟩ := row_form hrow
  obtain ⟨bl, pe, down, steps, mask⟩ := s
  simp only at *
  clear hr hd HT HC hcur
  have HB := Lib.hid hB
  have HR := Lib.hid hrow
  have NL := Lib.hid nl'
  clear hB hrow nl'
  go_enter Try.func23, Try.ntmps23
  go_wp2_with fail
  refine CK.out.mono ?_
  rintro e w1 ⟨rfl, rfl⟩
  go_wp2
  have LP : Hid (pe.length = pe.length) := Lib.hid rfl
  generalize hP : pe.length = P at LP lp d1
  have HP := Lib.hid hP
  clear hP LP
  go_loop [7] (fun i => ∃ j : Nat, j ≤ P ∧ i = .int .i64 ((j : Int) - 1) ∧ NoW pe n j) (fun i => (intOf i + 1).toNat)
  case atStart => exact ⟨P, Nat.le_refl _, rfl, fun j x hj hx => by have := (List.getElem?_eq_some_iff.1 hx).1; have := HP.out; omega⟩
  case round =>
    obtain ⟨j, hj, rfl, hno⟩ := hrel
    have HN := Lib.hid hno
    clear hno
    cases j with
    | zero =>
      have hz : w.cell? ⟨B, n, none⟩ = some (.string t) := by
        rw [HB.out.cell n, strs_get, ← now_get_zero HN.out, show appl bl pe = curS ⟨bl, pe, down, steps, mask⟩ from rfl, Hc.out]
        rfl
      have NLL := NL.out
      go_wp2
      go_ret2
      exact ⟨rfl, rfl⟩
    | succ m =>
      have hm : m < pe.length := by rw [HP.out]; omega
      obtain ⟨g, cap', e, -, hgl, hcell⟩ := row_cells HR.out (by omega)
      injection e with e1 e2 e3
      subst e1 e3
      have hx := List.getElem?_eq_getElem hm
      generalize pe[m] = x at hx
      have HX := Lib.hid hx
      have p0 : w.cell? ⟨g, m * 2, none⟩ = some (.int .i64 (x.1 : Int)) := (hcell _ (by omega)).trans (wcells_at pe HX.out).1
      have p1 : w.cell? ⟨g, m * 2 + 1, none⟩ = some (.string x.2) := (hcell _ (by omega)).trans (wcells_at pe HX.out).2
      clear hcell hx hm
      have ii : ((m + 1 : Nat) : Int) - 1 = (m : Int) := by omega
      rw [ii]
      by_cases hn : x.1 = n
      · have hq : ((x.1 : Int) == (n : Int)) = true := by simp [hn]
        have HF : Hid (x.2 = t) := Lib.hid (by have := (now_hit bl HX.out hn NL.out HN.out).symm.trans Hc.out; exact Option.some.inj this)
        go_wp2
        go_ret2
        rw [← HF.out]
        exact ⟨rfl, rfl⟩
      · have hq : ((x.1 : Int) == (n : Int)) = false := beq_false_of_ne (by omega)
        go_wp2
        go_round
        case rel => exact ⟨m, by omega, by go_num, now_step HX.out hn HN.out⟩
        case measure => first | (simp [intOf]; done) | (simp [intOf]; omega)
end Go.Proofs.Ytkfiekpinojahaa
