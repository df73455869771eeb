/-
  CONTRACTS of amounts: Parse, of the text of an amount, and of any text.
-/
import Derived.Test.YtompkkanckejjaaDoorMF2
namespace Go.Proofs.YtompkkanckejjaaDoor
open Go.RowKit
set_option linter.unusedVariables false
set_option linter.unusedSimpArgs false
/-- What Parse answers. -/
def ParseIs (s : ByteArray) (y : Int) (u : ByteArray) (e : Int) : Prop := ∀ w, ExpT w → 6 ≤ w.heap.size → Calls Tryd.prog 28 #[.string s] w fun x w' => x = .returned (.tuple #[.agg #[.int .i64 y, .string u], .int .i64 e]) ∧ Pushed w w'
theorem empty_list {s : ByteArray} (h : s.size = 0) : s.toList.isEmpty = true := by
  rw [size0 h, ByteArray.toList_eq]
  rfl
/-- Of a text T, a space and a currency C: Parse, where the number stands for u, with its sign. -/
theorem parse_ok (S T C B : ByteArray) (neg : Bool) (hS : S.size = T.size + 4) (hT : T.size ≤ 900) (b1 : byt S T.size = 32) (b2 : S.extract (T.size + 1) S.size = C) (b3 : S.extract 0 T.size = T) (hC : curP C) (hN : neg = true ∧ T = one 45 ++ B ∨ neg = false ∧ B = T ∧ ¬ (0 < B.size ∧ byt B 0 = 45)) (D : ByteArray) (hz : D.size ≤ 1000) (hD : Dgs D) (UDC : ∀ w, Calls Tryd.prog 50 #[.string B, .int .i64 (expN C : Int)] w fun x w' => x = .returned (.tuple #[.string D, .bool true]) ∧ Pushed w w')
    (y : Int) (u : ByteArray) (e : Int) (hv : (numOf D 0 D.size = 0 ∧ neg = true ∧ y = 0 ∧ u = ⟨#[]⟩ ∧ e = 2) ∨ (¬ (numOf D 0 D.size = 0 ∧ neg = true) ∧ ∀ v, Sat D v → ∀ w, Calls Tryd.prog 30 #[.int .i64 (if neg then -v else v), .string C] w fun x w' => x = .returned (.tuple #[.agg #[.int .i64 y, .string u], .int .i64 e]) ∧ Pushed w w')) : ParseIs S y u e := by
  intro w hE hw
  have EX : Hid (∀ w', Below w.heap.size w w' → Calls Tryd.prog 47 #[.string C] w' fun x w'' => x = .returned (.tuple #[.int .i64 (expN C : Int), .bool true]) ∧ Pushed w' w'') := Lib.hid fun w' hb => exp_any C hC w' (hE.later hb hw)
  have CP : Hid (∀ w, Calls Tryd.prog 49 #[.string T, .string ⟨#[45]⟩] w fun x w' => x = .returned (.tuple #[.string B, .bool neg]) ∧ w' = w) := Lib.hid fun w => by
    have h := Tryd.strings_CutPrefix T ⟨#[45]⟩ w
    rcases hN with ⟨rfl, rfl⟩ | ⟨rfl, rfl, hb⟩
    · rw [(cut_first B).1, (cut_first B).2] at h
      exact h
    · rw [(cut_none hb).1, (cut_none hb).2] at h
      exact h
  have UDH := Lib.hid UDC
  have SA := Lib.hid (fun w => sat_any D hz hD w)
  have HV := Lib.hid hv
  have k1 : (S.size : Int) - 4 = (T.size : Int) := by omega
  have k2 : (S.size : Int) - 3 = ((T.size + 1 : Nat) : Int) := by omega
  have k3 : ¬ (S.size : Int) < 4 := by omega
  have ksz : (S.size : Int) ≤ 1000 := by omega
  have ksz0 : 0 ≤ (S.size : Int) := by omega
  have ne : S.toList.isEmpty = false := nonempty_list (by omega)
  have ne2 : (!S.toList.isEmpty) = true := by rw [ne]; rfl
  have i1 : ∀ w, (Instr.index 9 (.string S) (.int .i64 (T.size : Int))).run Tryd.prog w = .ok (.int .u8 32) w := fun w => by
    have h := ix_at S T.size (by omega) rfl w
    rw [b1] at h
    exact h
  have s1 : ∀ w, (Instr.slice 9 (.string S) (some (.int .i64 ((T.size + 1 : Nat) : Int))) none none).run Tryd.prog w = .ok (.string C) w := fun w => by
    have h := sl_l S (T.size + 1) (by omega) rfl w
    rw [b2] at h
    exact h
  have s2 : ∀ w, (Instr.slice 9 (.string S) none (some (.int .i64 (T.size : Int))) none).run Tryd.prog w = .ok (.string T) w := fun w => by
    have h := sl_h S T.size (by omega) rfl w
    rw [b3] at h
    exact h
  have HDG := Lib.hid hD
  clear hE hw hN UDC hv hC hD b1 b2 b3 hS
  generalize hTS : ((T.size + 1 : Nat) : Int) = P1 at *
  generalize hTS0 : (T.size : Int) = P0 at *
  have hp0 : 0 ≤ P0 := by omega
  clear hTS hTS0
  generalize (expN C : Int) = pp at *
  go_enter Tryd.func28, Tryd.ntmps28
  go_wp2_with fail
  refine (EX.out _ (Pushed.below (by repeat (first | with_reducible exact Pushed.refl _ | with_reducible assumption | with_reducible refine Pushed.push ?_ _ | with_reducible refine Pushed.alloc ?_ _ | with_reducible refine Pushed.drewN ?_ _ | with_reducible refine Pushed.drew ?_)))).mono ?_
  rintro z w1 ⟨rfl, l1, n1, rfl⟩
  go_wp2_with fail
  with_reducible refine (CP.out _).mono ?_
  rintro z w1 ⟨rfl, rfl⟩
  go_wp2_with fail
  with_reducible refine (UDH.out _).mono ?_
  rintro z w1 ⟨rfl, l2, n2, rfl⟩
  go_wp2_with fail
  refine (SA.out _).mono ?_
  rintro z w1 ⟨v, rfl, hs, rfl⟩
  have HS := Lib.hid hs
  have v0 : 0 ≤ v := by
    have := (numOf_bd D 0 D.size (fun j hj => by rw [Nat.zero_add]; exact HDG.out j hj)).1
    rcases hs.2 with h | h <;> omega
  have v1 := hs.1
  have hvz : v = 0 ↔ numOf D 0 D.size = 0 := by rcases hs.2 with h | h <;> omega
  clear hs
  rcases HV.out with ⟨h0, rfl, rfl, rfl, rfl⟩ | ⟨h0, hval⟩
  · obtain rfl : v = 0 := hvz.2 h0
    clear HV HS hvz h0 v1
    go_wp2
    exact bodyPost_ret (v := .tuple #[.agg #[.int .i64 0, .string ⟨#[]⟩], .int .i64 2]) (by simp [results, Tryd.results28, go_sem]) rfl ⟨rfl, (by repeat (first | with_reducible exact Pushed.refl _ | with_reducible assumption | with_reducible refine Pushed.push ?_ _ | with_reducible refine Pushed.alloc ?_ _ | with_reducible refine Pushed.drewN ?_ _ | with_reducible refine Pushed.drew ?_))⟩
  · have VD := Lib.hid (hval v HS.out)
    cases neg with
    | true =>
      have g0 : (v == 0) = false := by
        simp
        intro h
        exact h0 ⟨hvz.1 h, rfl⟩
      clear HV HS hvz h0 hval
      have VD2 : Hid (∀ w, Calls Tryd.prog 30 #[.int .i64 (-v), .string C] w fun x w' => x = .returned (.tuple #[.agg #[.int .i64 y, .string u], .int .i64 e]) ∧ Pushed w w') := VD
      clear VD
      go_wp2_with fail
      with_reducible refine (VD2.out _).mono ?_
      rintro z w1 ⟨rfl, l3, n3, rfl⟩
      go_wp2
      exact bodyPost_ret (v := .tuple #[.agg #[.int .i64 y, .string u], .int .i64 e]) (by simp [results, Tryd.results28, go_sem]) rfl ⟨rfl, (by repeat (first | with_reducible exact Pushed.refl _ | with_reducible assumption | with_reducible refine Pushed.push ?_ _ | with_reducible refine Pushed.alloc ?_ _ | with_reducible refine Pushed.drewN ?_ _ | with_reducible refine Pushed.drew ?_))⟩
    | false =>
      have VD2 : Hid (∀ w, Calls Tryd.prog 30 #[.int .i64 v, .string C] w fun x w' => x = .returned (.tuple #[.agg #[.int .i64 y, .string u], .int .i64 e]) ∧ Pushed w w') := VD
      clear VD HV HS hvz h0 hval v1
      by_cases g0 : v = 0
      · subst g0
        go_wp2_with fail
        with_reducible refine (VD2.out _).mono ?_
        rintro z w1 ⟨rfl, l4, n4, rfl⟩
        go_wp2
        exact bodyPost_ret (v := .tuple #[.agg #[.int .i64 y, .string u], .int .i64 e]) (by simp [results, Tryd.results28, go_sem]) rfl ⟨rfl, (by repeat (first | with_reducible exact Pushed.refl _ | with_reducible assumption | with_reducible refine Pushed.push ?_ _ | with_reducible refine Pushed.alloc ?_ _ | with_reducible refine Pushed.drewN ?_ _ | with_reducible refine Pushed.drew ?_))⟩
      · have g1 : (v == 0) = false := by simp [g0]
        go_wp2_with fail
        with_reducible refine (VD2.out _).mono ?_
        rintro z w1 ⟨rfl, l5, n5, rfl⟩
        go_wp2
        exact bodyPost_ret (v := .tuple #[.agg #[.int .i64 y, .string u], .int .i64 e]) (by simp [results, Tryd.results28, go_sem]) rfl ⟨rfl, (by repeat (first | with_reducible exact Pushed.refl _ | with_reducible assumption | with_reducible refine Pushed.push ?_ _ | with_reducible refine Pushed.alloc ?_ _ | with_reducible refine Pushed.drewN ?_ _ | with_reducible refine Pushed.drew ?_))⟩
set_option maxRecDepth 20000 in
set_option maxHeartbeats 6400000 in
theorem parse_fmt (m : Int) (c : ByteArray) (H : mchkR m c = 0) : ParseIs (fmtM m c) m c 0 := by
  obtain ⟨hcur, hlo, hhi⟩ := mchk_curP H
  have hp := expN_le c
  obtain ⟨hz, hD, hl, hN⟩ := dgS_ok m (expN c)
  have hdz : (dgS m (expN c)).size ≤ 16 := by
    have : (dgS m (expN c)).size = padD m.natAbs (expN c) := decS_size _ _
    have hn16 : Lib.nDigits m.natAbs ≤ 16 := (nd_iff m.natAbs 16 (by omega)).2 (by omega)
    rw [this]
    unfold padD
    exact Nat.max_le.2 ⟨hn16, by omega⟩
  have hbz := body_size hz
  have hb0 := body_first hz
  have hd0 := hD 0 (by omega)
  unfold dgAt at hd0
  have hbz17 : 1 ≤ (bodyOf (dgS m (expN c)) (expN c)).size ∧ (bodyOf (dgS m (expN c)) (expN c)).size ≤ 17 := by split at hbz <;> omega
  have ht : (signed m (bodyOf (dgS m (expN c)) (expN c))).size ≤ 18 := by
    unfold signed
    split
    · rw [app_size, one_size]; omega
    · omega
  obtain ⟨t1, t2, t3, t4⟩ := tail_parts (t := signed m (bodyOf (dgS m (expN c)) (expN c))) hcur.1
  refine parse_ok (fmtM m c) (signed m (bodyOf (dgS m (expN c)) (expN c))) c (bodyOf (dgS m (expN c)) (expN c)) (decide (m < 0)) t1 (by omega) t2 t3 t4 hcur ?_ (dgS m (expN c)) (by omega) hD (fun w => ud_yes _ _ hp hz (by omega) hD hl w) m c 0 (Or.inr ⟨?_, ?_⟩)
  · by_cases h : m < 0
    · left; exact ⟨decide_eq_true h, by unfold signed; rw [if_pos h]⟩
    · right; exact ⟨decide_eq_false h, by unfold signed; rw [if_neg h], fun hh => by omega⟩
  · rintro ⟨h1, h2⟩
    have := of_decide_eq_true h2
    omega
  · intro v hv w
    have hvv : v = (m.natAbs : Int) := by
      rw [← hN]
      rcases hv.2 with h | h
      · exact h
      · omega
    by_cases h : m < 0
    · rw [if_pos (decide_eq_true h), show -v = m by omega]
      exact valid_ok m c (by have := hcur.1; omega) (Lib.hid H) w
    · rw [if_neg (by simp; omega), show v = m by omega]
      exact valid_ok m c (by have := hcur.1; omega) (Lib.hid H) w
theorem parse_short : ParseIs ⟨#[]⟩ 0 ⟨#[]⟩ 1 := by
  intro w _ _
  go_enter Tryd.func28, Tryd.ntmps28
  go_wp2
  exact bodyPost_ret (v := .tuple #[.agg #[.int .i64 0, .string ⟨#[]⟩], .int .i64 1]) (by simp [results, Tryd.results28, go_sem]) rfl ⟨rfl, (by repeat (first | with_reducible exact Pushed.refl _ | with_reducible assumption | with_reducible refine Pushed.push ?_ _ | with_reducible refine Pushed.alloc ?_ _ | with_reducible refine Pushed.drewN ?_ _ | with_reducible refine Pushed.drew ?_))⟩
set_option maxRecDepth 20000 in
set_option maxHeartbeats 6400000 in
theorem parse_bad1 (s : ByteArray) (h0 : 0 < s.size) (h1 : s.size < 4) : ParseIs s 0 ⟨#[]⟩ 2 := by
  intro w _ _
  have ne : s.toList.isEmpty = false := nonempty_list h0
  have ne2 : (!s.toList.isEmpty) = true := by rw [ne]; rfl
  have g1 : (s.size : Int) < 4 := by omega
  go_enter Tryd.func28, Tryd.ntmps28
  go_wp2
  exact bodyPost_ret (v := .tuple #[.agg #[.int .i64 0, .string ⟨#[]⟩], .int .i64 2]) (by simp [results, Tryd.results28, go_sem]) rfl ⟨rfl, (by repeat (first | with_reducible exact Pushed.refl _ | with_reducible assumption | with_reducible refine Pushed.push ?_ _ | with_reducible refine Pushed.alloc ?_ _ | with_reducible refine Pushed.drewN ?_ _ | with_reducible refine Pushed.drew ?_))⟩
set_option maxRecDepth 20000 in
set_option maxHeartbeats 6400000 in
theorem parse_bad2 (s : ByteArray) (hs : s.size ≤ 1000) (h0 : 4 ≤ s.size) (h1 : ¬ byt s (s.size - 4) = 32) : ParseIs s 0 ⟨#[]⟩ 2 := by
  intro w _ _
  have ne : s.toList.isEmpty = false := nonempty_list (by omega)
  have ne2 : (!s.toList.isEmpty) = true := by rw [ne]; rfl
  have g1 : ¬ (s.size : Int) < 4 := by omega
  have gs : (s.size : Int) ≤ 1000 := by omega
  have k1 : (s.size : Int) - 4 = ((s.size - 4 : Nat) : Int) := by omega
  have i1 : ∀ w, (Instr.index 9 (.string s) (.int .i64 ((s.size - 4 : Nat) : Int))).run Tryd.prog w = .ok (.int .u8 (byt s (s.size - 4))) w := fun w => ix_at s (s.size - 4) (by omega) rfl w
  have g2 : (byt s (s.size - 4) != 32) = true := by simp [h1]
  have g3 : (byt s (s.size - 4) == 32) = false := by simp [h1]
  have hb := byt_bd s (s.size - 4)
  clear h1 h0 hs
  generalize byt s (s.size - 4) = x at *
  generalize ((s.size - 4 : Nat) : Int) = P0 at *
  go_enter Tryd.func28, Tryd.ntmps28
  go_wp2
  exact bodyPost_ret (v := .tuple #[.agg #[.int .i64 0, .string ⟨#[]⟩], .int .i64 2]) (by simp [results, Tryd.results28, go_sem]) rfl ⟨rfl, (by repeat (first | with_reducible exact Pushed.refl _ | with_reducible assumption | with_reducible refine Pushed.push ?_ _ | with_reducible refine Pushed.alloc ?_ _ | with_reducible refine Pushed.drewN ?_ _ | with_reducible refine Pushed.drew ?_))⟩
set_option maxRecDepth 20000 in
set_option maxHeartbeats 6400000 in
theorem parse_bad3 (S T C : ByteArray) (hS : S.size = T.size + 4) (hT : T.size ≤ 900) (b1 : byt S T.size = 32) (b2 : S.extract (T.size + 1) S.size = C) (b3 : S.extract 0 T.size = T) (hC3 : C.size = 3) (hC : ¬ curP C) : ParseIs S 0 ⟨#[]⟩ 2 := by
  intro w _ _
  have EX := Lib.hid (fun w => exp_bad C (by omega) hC w)
  have k1 : (S.size : Int) - 4 = (T.size : Int) := by omega
  have k2 : (S.size : Int) - 3 = ((T.size + 1 : Nat) : Int) := by omega
  have k3 : ¬ (S.size : Int) < 4 := by omega
  have ksz : (S.size : Int) ≤ 1000 := by omega
  have ksz0 : 0 ≤ (S.size : Int) := by omega
  have ne : S.toList.isEmpty = false := nonempty_list (by omega)
  have ne2 : (!S.toList.isEmpty) = true := by rw [ne]; rfl
  have i1 : ∀ w, (Instr.index 9 (.string S) (.int .i64 (T.size : Int))).run Tryd.prog w = .ok (.int .u8 32) w := fun w => by
    have h := ix_at S T.size (by omega) rfl w
    rw [b1] at h
    exact h
  have s1 : ∀ w, (Instr.slice 9 (.string S) (some (.int .i64 ((T.size + 1 : Nat) : Int))) none none).run Tryd.prog w = .ok (.string C) w := fun w => by
    have h := sl_l S (T.size + 1) (by omega) rfl w
    rw [b2] at h
    exact h
  have s2 : ∀ w, (Instr.slice 9 (.string S) none (some (.int .i64 (T.size : Int))) none).run Tryd.prog w = .ok (.string T) w := fun w => by
    have h := sl_h S T.size (by omega) rfl w
    rw [b3] at h
    exact h
  clear hC b1 b2 b3 hS
  generalize hTS : ((T.size + 1 : Nat) : Int) = P1 at *
  generalize hTS0 : (T.size : Int) = P0 at *
  have hp0 : 0 ≤ P0 := by omega
  clear hTS hTS0
  go_enter Tryd.func28, Tryd.ntmps28
  go_wp2_with fail
  with_reducible refine (EX.out _).mono ?_
  rintro z w1 ⟨rfl, rfl⟩
  go_wp2
  exact bodyPost_ret (v := .tuple #[.agg #[.int .i64 0, .string ⟨#[]⟩], .int .i64 2]) (by simp [results, Tryd.results28, go_sem]) rfl ⟨rfl, (by repeat (first | with_reducible exact Pushed.refl _ | with_reducible assumption | with_reducible refine Pushed.push ?_ _ | with_reducible refine Pushed.alloc ?_ _ | with_reducible refine Pushed.drewN ?_ _ | with_reducible refine Pushed.drew ?_))⟩
set_option maxRecDepth 20000 in
set_option maxHeartbeats 6400000 in
theorem parse_bad4 (S T C B : ByteArray) (neg : Bool) (hS : S.size = T.size + 4) (hT : T.size ≤ 900) (b1 : byt S T.size = 32) (b2 : S.extract (T.size + 1) S.size = C) (b3 : S.extract 0 T.size = T) (hC : curP C) (hN : neg = true ∧ T = one 45 ++ B ∨ neg = false ∧ B = T ∧ ¬ (0 < B.size ∧ byt B 0 = 45)) (D : ByteArray)
    (UDC : ∀ w, Calls Tryd.prog 50 #[.string B, .int .i64 (expN C : Int)] w fun x w' => x = .returned (.tuple #[.string D, .bool false]) ∧ Pushed w w') : ParseIs S 0 ⟨#[]⟩ 2 := by
  intro w hE hw
  have EX : Hid (∀ w', Below w.heap.size w w' → Calls Tryd.prog 47 #[.string C] w' fun x w'' => x = .returned (.tuple #[.int .i64 (expN C : Int), .bool true]) ∧ Pushed w' w'') := Lib.hid fun w' hb => exp_any C hC w' (hE.later hb hw)
  have CP : Hid (∀ w, Calls Tryd.prog 49 #[.string T, .string ⟨#[45]⟩] w fun x w' => x = .returned (.tuple #[.string B, .bool neg]) ∧ w' = w) := Lib.hid fun w => by
    have h := Tryd.strings_CutPrefix T ⟨#[45]⟩ w
    rcases hN with ⟨rfl, rfl⟩ | ⟨rfl, rfl, hb⟩
    · rw [(cut_first B).1, (cut_first B).2] at h
      exact h
    · rw [(cut_none hb).1, (cut_none hb).2] at h
      exact h
  have UDH := Lib.hid UDC
  have k1 : (S.size : Int) - 4 = (T.size : Int) := by omega
  have k2 : (S.size : Int) - 3 = ((T.size + 1 : Nat) : Int) := by omega
  have k3 : ¬ (S.size : Int) < 4 := by omega
  have ksz : (S.size : Int) ≤ 1000 := by omega
  have ksz0 : 0 ≤ (S.size : Int) := by omega
  have ne : S.toList.isEmpty = false := nonempty_list (by omega)
  have ne2 : (!S.toList.isEmpty) = true := by rw [ne]; rfl
  have i1 : ∀ w, (Instr.index 9 (.string S) (.int .i64 (T.size : Int))).run Tryd.prog w = .ok (.int .u8 32) w := fun w => by
    have h := ix_at S T.size (by omega) rfl w
    rw [b1] at h
    exact h
  have s1 : ∀ w, (Instr.slice 9 (.string S) (some (.int .i64 ((T.size + 1 : Nat) : Int))) none none).run Tryd.prog w = .ok (.string C) w := fun w => by
    have h := sl_l S (T.size + 1) (by omega) rfl w
    rw [b2] at h
    exact h
  have s2 : ∀ w, (Instr.slice 9 (.string S) none (some (.int .i64 (T.size : Int))) none).run Tryd.prog w = .ok (.string T) w := fun w => by
    have h := sl_h S T.size (by omega) rfl w
    rw [b3] at h
    exact h
  clear hE hw hN UDC hC b1 b2 b3 hS
  generalize hTS : ((T.size + 1 : Nat) : Int) = P1 at *
  generalize hTS0 : (T.size : Int) = P0 at *
  have hp0 : 0 ≤ P0 := by omega
  clear hTS hTS0
  generalize (expN C : Int) = pp at *
  go_enter Tryd.func28, Tryd.ntmps28
  go_wp2_with fail
  refine (EX.out _ (Pushed.below (by repeat (first | with_reducible exact Pushed.refl _ | with_reducible assumption | with_reducible refine Pushed.push ?_ _ | with_reducible refine Pushed.alloc ?_ _ | with_reducible refine Pushed.drewN ?_ _ | with_reducible refine Pushed.drew ?_)))).mono ?_
  rintro z w1 ⟨rfl, l6, n6, rfl⟩
  go_wp2_with fail
  with_reducible refine (CP.out _).mono ?_
  rintro z w1 ⟨rfl, rfl⟩
  go_wp2_with fail
  with_reducible refine (UDH.out _).mono ?_
  rintro z w1 ⟨rfl, l7, n7, rfl⟩
  go_wp2
  exact bodyPost_ret (v := .tuple #[.agg #[.int .i64 0, .string ⟨#[]⟩], .int .i64 2]) (by simp [results, Tryd.results28, go_sem]) rfl ⟨rfl, (by repeat (first | with_reducible exact Pushed.refl _ | with_reducible assumption | with_reducible refine Pushed.push ?_ _ | with_reducible refine Pushed.alloc ?_ _ | with_reducible refine Pushed.drewN ?_ _ | with_reducible refine Pushed.drew ?_))⟩
/-- Parse of any text: an error, or the amount whose text it is. -/
theorem parse_any (s : ByteArray) (hs : s.size ≤ 100) : ∃ (y : Int) (u : ByteArray) (e : Int), ParseIs s y u e ∧ ((e = 0 ∧ mchkR y u = 0 ∧ s = fmtM y u) ∨ ((e != 0) = true ∧ y = 0 ∧ u = ⟨#[]⟩)) := by
  by_cases h0 : s.size = 0
  · exact ⟨0, ⟨#[]⟩, 1, by rw [size0 h0]; exact parse_short, Or.inr ⟨rfl, rfl, rfl⟩⟩
  by_cases h4 : s.size < 4
  · exact ⟨0, ⟨#[]⟩, 2, parse_bad1 s (by omega) h4, Or.inr ⟨rfl, rfl, rfl⟩⟩
  by_cases hsp : byt s (s.size - 4) = 32
  case neg => exact ⟨0, ⟨#[]⟩, 2, parse_bad2 s (by omega) (by omega) hsp, Or.inr ⟨rfl, rfl, rfl⟩⟩
  have hj := tail_join (s := s) (by omega) hsp
  have za : (s.extract 0 (s.size - 4)).size = s.size - 4 := by rw [size_extract' _ _ _ (by omega)]; omega
  have zb : (s.extract (s.size - 3) s.size).size = 3 := by rw [size_extract' _ _ _ (Nat.le_refl _)]; omega
  generalize s.extract 0 (s.size - 4) = T at *
  generalize s.extract (s.size - 3) s.size = C at *
  obtain ⟨t1, t2, t3, t4⟩ := tail_parts (t := T) zb
  rw [← hj] at t1 t2 t3 t4
  by_cases hC : curP C
  case neg => exact ⟨0, ⟨#[]⟩, 2, parse_bad3 s T C t1 (by omega) t2 t3 t4 zb hC, Or.inr ⟨rfl, rfl, rfl⟩⟩
  obtain ⟨B, neg, hN⟩ : ∃ (B : ByteArray) (neg : Bool), neg = true ∧ T = one 45 ++ B ∨ neg = false ∧ B = T ∧ ¬ (0 < B.size ∧ byt B 0 = 45) := by
    by_cases h : 0 < T.size ∧ byt T 0 = 45
    · exact ⟨_, true, Or.inl ⟨rfl, split_first h.1 h.2⟩⟩
    · exact ⟨T, false, Or.inr ⟨rfl, rfl, h⟩⟩
  have hBz : B.size ≤ 100 := by
    rcases hN with ⟨-, h⟩ | ⟨-, h, -⟩
    · have := congrArg ByteArray.size h
      rw [app_size, one_size] at this
      omega
    · rw [h]; omega
  obtain ⟨D, b, hU, hUD⟩ := ud_any B (expN C) (expN_le C) (by omega)
  cases b with
  | false => exact ⟨0, ⟨#[]⟩, 2, parse_bad4 s T C B neg t1 (by omega) t2 t3 t4 hC hN D hU, Or.inr ⟨rfl, rfl, rfl⟩⟩
  | true =>
    obtain ⟨hB, hz, hD, hl⟩ := hUD rfl
    have hDz : D.size ≤ 100 := by
      have := body_size hz
      rw [← hB] at this
      split at this <;> omega
    have hn0 := (numOf_bd D 0 D.size (fun j hj => by rw [Nat.zero_add]; exact hD j hj)).1
    have go := parse_ok s T C B neg t1 (by omega) t2 t3 t4 hC hN D (by omega) hD hU
    by_cases hz0 : numOf D 0 D.size = 0 ∧ neg = true
    · exact ⟨0, ⟨#[]⟩, 2, go 0 ⟨#[]⟩ 2 (Or.inl ⟨hz0.1, hz0.2, rfl, rfl, rfl⟩), Or.inr ⟨rfl, rfl, rfl⟩⟩
    by_cases hbig : 4503599627370496 < numOf D 0 D.size
    · refine ⟨0, ⟨#[]⟩, 4, go 0 ⟨#[]⟩ 4 (Or.inr ⟨hz0, fun v hv w => ?_⟩), Or.inr ⟨rfl, rfl, rfl⟩⟩
      have hv2 : 4503599627370496 < v := by rcases hv.2 with h | h <;> omega
      refine valid_err _ C (by omega) (Lib.hid (mchk_big hC ?_)) rfl w
      split <;> omega
    · obtain ⟨y, hy⟩ : ∃ y, y = if neg then -numOf D 0 D.size else numOf D 0 D.size := ⟨_, rfl⟩
      have hfit : -4503599627370496 ≤ y ∧ y ≤ 4503599627370496 := by rw [hy]; split <;> omega
      refine ⟨y, C, 0, go y C 0 (Or.inr ⟨hz0, fun v hv w => ?_⟩), Or.inl ⟨rfl, mchk_fit hC hfit, ?_⟩⟩
      · have hv2 : v = numOf D 0 D.size := by rcases hv.2 with h | h <;> omega
        rw [hv2, ← hy]
        exact valid_ok y C (by omega) (Lib.hid (mchk_fit hC hfit)) w
      · have habs : (y.natAbs : Int) = numOf D 0 D.size := by rw [hy]; split <;> omega
        have hdg := dg_of_ud hz hD hl habs
        unfold fmtM
        rw [hdg, ← hB]
        rw [hj]
        congr 2
        unfold signed
        rcases hN with ⟨rfl, h⟩ | ⟨rfl, h, -⟩
        · rw [if_pos, h]
          rw [hy, if_pos rfl]
          have : ¬ numOf D 0 D.size = 0 := fun h => hz0 ⟨h, rfl⟩
          omega
        · rw [if_neg, h]
          rw [hy, if_neg (by simp)]
          omega
end Go.Proofs.YtompkkanckejjaaDoor
