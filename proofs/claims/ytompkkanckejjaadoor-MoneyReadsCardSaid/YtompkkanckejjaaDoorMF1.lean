/-
  CONTRACTS of amounts: Format, the digits of units.
-/
import Derived.Test.YtompkkanckejjaaDoorMRd
import Derived.Test.YtompkkanckejjaaDoorM6
namespace Go.Proofs.YtompkkanckejjaaDoor
open Go.RowKit
set_option linter.unusedVariables false
set_option linter.unusedSimpArgs false
theorem digits_empty (w : World) : Calls Tryd.prog 58 #[.string ⟨#[]⟩] w fun e w' => e = .returned (.bool false) ∧ w = w' := by
  go_enter Tryd.func58, Tryd.ntmps58
  go_wp2
  refine wp_loop_rounds 1 ?_
  rw [rounds_succ]
  go_wp2
  go_ret
  exact ⟨rfl, rfl⟩
theorem size0 {s : ByteArray} (h : s.size = 0) : s = ⟨#[]⟩ := byt_ext (by rw [h]; rfl) fun k hk => by omega
theorem digits_any (s : ByteArray) (hs : s.size ≤ 1000) {b : Bool} (HB : Hid (b = true ↔ 0 < s.size ∧ Dgs s)) (w : World) : Calls Tryd.prog 58 #[.string s] w fun e w' => e = .returned (.bool b) ∧ w = w' := by
  by_cases h0 : s.size = 0
  · obtain rfl : b = false := by
      cases b with
      | false => rfl
      | true => have := (HB.out.1 rfl).1; omega
    rw [size0 h0]
    exact digits_empty w
  · by_cases h1 : Dgs s
    · obtain rfl : b = true := HB.out.2 ⟨by omega, h1⟩
      exact digits_yes s hs (by omega) h1 w
    · obtain rfl : b = false := by
        cases b with
        | false => rfl
        | true => exact absurd (HB.out.1 rfl).2 h1
      exact digits_no s hs h1 w
set_option maxRecDepth 20000 in
set_option maxHeartbeats 6400000 in
theorem ud_yes (d : ByteArray) (p : Nat) (hp : p ≤ 3) (hz : p < d.size) (hs : d.size ≤ 120) (hd : Dgs d) (hl : d.size = p + 1 ∨ byt d 0 ≠ 48) (w : World) : Calls Tryd.prog 50 #[.string (bodyOf d p), .int .i64 (p : Int)] w fun x w' => x = .returned (.tuple #[.string d, .bool true]) ∧ Pushed w w' := by
  by_cases p0 : p = 0
  · subst p0
    have e : bodyOf d 0 = d := by unfold bodyOf; rw [if_pos rfl]
    rw [e]
    have D2 := Lib.hid (fun w => digits_yes d (by omega) (by omega) hd w)
    have ea : d ++ (⟨#[]⟩ : ByteArray) = d := by rw [show (⟨#[]⟩ : ByteArray) = ByteArray.empty from rfl, ByteArray.append_empty]
    have EA : Hid (d ++ (⟨#[]⟩ : ByteArray) = d) := Lib.hid ea
    have ix : ∀ w, (Instr.index 9 (.string d) (.int .i64 0)).run Tryd.prog w = .ok (.int .u8 (byt d 0)) w := fun w => ix_at d 0 (by omega) rfl w
    have hb := byt_bd d 0
    have hsz : (d.size : Int) ≤ 120 := by omega
    by_cases h1 : d.size = 1
    · have g1 : ¬ (1 : Int) < (d.size : Int) := by omega
      clear hd hl h1 e ea hz
      generalize byt d 0 = x at *
      go_enter Tryd.func50, Tryd.ntmps50
      go_wp2_with fail
      with_reducible refine (D2.out _).mono ?_
      rintro z w1 ⟨rfl, rfl⟩
      go_wp2
      go_ret2
      exact ⟨(by show Ending.returned (.tuple #[.string (d ++ (⟨#[]⟩ : ByteArray)), .bool true]) = _; rw [EA.out]), (by repeat (first | with_reducible exact Pushed.refl _ | with_reducible assumption | with_reducible refine Pushed.push ?_ _ | with_reducible refine Pushed.alloc ?_ _ | with_reducible refine Pushed.drewN ?_ _ | with_reducible refine Pushed.drew ?_))⟩
    · have g1 : (1 : Int) < (d.size : Int) := by omega
      have g2 : (byt d 0 == 48) = false := by
        rcases hl with h | h
        · omega
        · simp [h]
      clear hd hl h1 e ea hz
      generalize byt d 0 = x at *
      go_enter Tryd.func50, Tryd.ntmps50
      go_wp2_with fail
      with_reducible refine (D2.out _).mono ?_
      rintro z w1 ⟨rfl, rfl⟩
      go_wp2
      go_ret2
      exact ⟨(by show Ending.returned (.tuple #[.string (d ++ (⟨#[]⟩ : ByteArray)), .bool true]) = _; rw [EA.out]), (by repeat (first | with_reducible exact Pushed.refl _ | with_reducible assumption | with_reducible refine Pushed.push ?_ _ | with_reducible refine Pushed.alloc ?_ _ | with_reducible refine Pushed.drewN ?_ _ | with_reducible refine Pushed.drew ?_))⟩
  obtain ⟨b1, b2, b3⟩ := body_parts hz (by omega)
  have bz := body_size hz
  rw [if_neg p0] at bz
  have D1 := Lib.hid (fun w => digits_yes (d.extract (d.size - p) d.size) (by rw [size_extract' _ _ _ (Nat.le_refl _)]; omega) (by rw [size_extract' _ _ _ (Nat.le_refl _)]; omega) (dgs_extract hd (Nat.le_refl _)) w)
  have D2 := Lib.hid (fun w => digits_yes (d.extract 0 (d.size - p)) (by rw [size_extract' _ _ _ (by omega)]; omega) (by rw [size_extract' _ _ _ (by omega)]; omega) (dgs_extract hd (by omega)) w)
  have EA := Lib.hid (ext_join d (d.size - p) (by omega))
  have wz : (d.extract 0 (d.size - p)).size = d.size - p := by rw [size_extract' _ _ _ (by omega)]; omega
  have fz : (d.extract (d.size - p) d.size).size = p := by rw [size_extract' _ _ _ (Nat.le_refl _)]; omega
  have w0 : byt (d.extract 0 (d.size - p)) 0 = byt d 0 := by rw [byt_extract _ _ _ _ (by omega) (by omega)]
  have i1 : ∀ w, (Instr.index 9 (.string (bodyOf d p)) (.int .i64 ((d.size - p : Nat) : Int))).run Tryd.prog w = .ok (.int .u8 46) w := fun w => by
    have h := ix_at (bodyOf d p) (d.size - p) (by omega) rfl w
    rw [b1] at h
    exact h
  have s1 : ∀ w, (Instr.slice 9 (.string (bodyOf d p)) none (some (.int .i64 ((d.size - p : Nat) : Int))) none).run Tryd.prog w = .ok (.string (d.extract 0 (d.size - p))) w := fun w => by
    have h := sl_h (bodyOf d p) (d.size - p) (by omega) rfl w
    rw [b2] at h
    exact h
  have s2 : ∀ w, (Instr.slice 9 (.string (bodyOf d p)) (some (.int .i64 ((d.size - p + 1 : Nat) : Int))) none none).run Tryd.prog w = .ok (.string (d.extract (d.size - p) d.size)) w := fun w => by
    have h := sl_l (bodyOf d p) (d.size - p + 1) (by omega) rfl w
    rw [b3] at h
    exact h
  have i2 : ∀ w, (Instr.index 9 (.string (d.extract 0 (d.size - p))) (.int .i64 0)).run Tryd.prog w = .ok (.int .u8 (byt d 0)) w := fun w => by
    have h := ix_at (d.extract 0 (d.size - p)) 0 (by omega) rfl w
    rw [w0] at h
    exact h
  have k1 : (((bodyOf d p).size : Int) - (p : Int)) - 1 = ((d.size - p : Nat) : Int) := by omega
  have k2 : ((d.size - p : Nat) : Int) + 1 = ((d.size - p + 1 : Nat) : Int) := by omega
  have k3 : (0 : Int) < (p : Int) := by omega
  have k4 : ¬ ((d.size - p : Nat) : Int) < 0 := by omega
  have k5 : ((d.extract 0 (d.size - p)).size : Int) = ((d.size - p : Nat) : Int) := by omega
  have k6 : ((bodyOf d p).size : Int) ≤ 121 := by omega
  have k7 : 0 ≤ ((bodyOf d p).size : Int) := by omega
  have k8 : (p : Int) ≤ 3 := by omega
  have k9 : ((d.size - p : Nat) : Int) ≤ 120 := by omega
  have ka : IntKind.i64.wrap (((d.size - p : Nat) : Int) + 1) = ((d.size - p + 1 : Nat) : Int) := by rw [k2]; exact IntWalk.i64_in _ (by omega)
  have kb : (d.extract 0 (d.size - p)).size + (d.extract (d.size - p) d.size).size ≤ 1000 := by omega
  have hb := byt_bd d 0
  have fin1 : ∀ (hx : ¬ (1 : Int) < ((d.size - p : Nat) : Int) ∨ (byt d 0 == 48) = false), True := fun _ => trivial
  have hcase : ¬ (1 : Int) < ((d.size - p : Nat) : Int) ∨ ((1 : Int) < ((d.size - p : Nat) : Int) ∧ (byt d 0 == 48) = false) := by
    rcases hl with h | h
    · left; omega
    · by_cases hq : (1 : Int) < ((d.size - p : Nat) : Int)
      · right; exact ⟨hq, by simp [h]⟩
      · left; exact hq
  clear fin1 hl hd bz b1 b2 b3 w0 wz fz
  generalize byt d 0 = x at *
  generalize d.extract 0 (d.size - p) = W at *
  generalize d.extract (d.size - p) d.size = F at *
  generalize bodyOf d p = S at *
  generalize ((d.size - p + 1 : Nat) : Int) = P1 at *
  generalize ((d.size - p : Nat) : Int) = P0 at *
  generalize (p : Int) = pp at *
  rcases hcase with g1 | ⟨g1, g2⟩
  all_goals
    go_enter Tryd.func50, Tryd.ntmps50
    go_wp2_with fail
    go_quiet (fail)
    go_wp2_with fail
    with_reducible refine (D1.out _).mono ?_
    rintro z w1 ⟨rfl, rfl⟩
    go_wp2_with fail
    with_reducible refine (D2.out _).mono ?_
    rintro z w1 ⟨rfl, rfl⟩
    go_wp2
    go_ret2
    exact ⟨(by show Ending.returned (.tuple #[.string (W ++ F), .bool true]) = _; rw [EA.out]), (by repeat (first | with_reducible exact Pushed.refl _ | with_reducible assumption | with_reducible refine Pushed.push ?_ _ | with_reducible refine Pushed.alloc ?_ _ | with_reducible refine Pushed.drewN ?_ _ | with_reducible refine Pushed.drew ?_))⟩
set_option maxRecDepth 20000 in
set_option maxHeartbeats 6400000 in
/-- What the digits' number is, up to the limit. -/
def Sat (d : ByteArray) (v : Int) : Prop := v ≤ 45035996273704970 ∧ (v = numOf d 0 d.size ∨ (4503599627370496 < v ∧ 4503599627370496 < numOf d 0 d.size))
theorem sat_any (d : ByteArray) (hs : d.size ≤ 1000) (hd : Dgs d) (w : World) : Calls Tryd.prog 51 #[.string d] w fun x w' => ∃ v, x = .returned (.int .i64 v) ∧ Sat d v ∧ w = w' := by
  have HD := Lib.hid hd
  clear hd
  go_enter Tryd.func51, Tryd.ntmps51
  go_wp2
  go_loop [3, 4] (fun a i => ∃ (k : Nat) (v : Int), k ≤ d.size ∧ i = .int .i64 (k : Int) ∧ a = .int .i64 v ∧ Hid (v = numOf d 0 k) ∧ 0 ≤ v ∧ v ≤ 45035996273704970) (fun _ i => d.size - (intOf i).toNat)
  case atStart => exact ⟨0, 0, Nat.zero_le _, rfl, rfl, Lib.hid rfl, by omega, by omega⟩
  case round =>
    obtain ⟨k, v, hk, rfl, rfl, HV, v0, v1⟩ := hrel
    by_cases hlt : k < d.size
    · by_cases hv : v ≤ 4503599627370496
      · have hdk := HD.out k hlt
        unfold dgAt at hdk
        obtain ⟨d0, d1⟩ := hdk
        have HN : Hid (v * 10 + (byt d k - 48) = numOf d 0 (k + 1)) := Lib.hid (by rw [numOf, Nat.zero_add, ← HV.out, Int.mul_comm])
        have ix : ∀ w, (Instr.index 9 (.string d) (.int .i64 (k : Int))).run Tryd.prog w = .ok (.int .u8 (byt d k)) w := fun w => ix_at d k hlt rfl w
        generalize byt d k = x at *
        go_wp2
        go_round
        case rel => exact ⟨k + 1, v * 10 + (x - 48), by omega, by go_num, rfl, HN, by omega, by omega⟩
        case measure => simp [intOf]; omega
      · have HF : Hid (Sat d v) := Lib.hid ⟨v1, Or.inr ⟨by omega, by
          have h1 := numOf_mono HD.out (d.size - k) k (by omega)
          rw [show k + (d.size - k) = d.size by omega, ← HV.out] at h1
          omega⟩⟩
        go_wp2
        go_ret
        exact ⟨v, rfl, HF.out, rfl⟩
    · obtain rfl : k = d.size := by omega
      have HF : Hid (Sat d v) := Lib.hid ⟨v1, Or.inl HV.out⟩
      clear HV
      go_wp2
      all_goals
        go_ret
        exact ⟨v, rfl, HF.out, rfl⟩
theorem fmt_err (m : Int) (c : ByteArray) (hc : c.size ≤ 9223372036854775807) {e : Int} (H : Hid (mchkR m c = e)) (he : (e != 0) = true) (w : World) : Calls Tryd.prog 27 #[.agg #[.int .i64 m, .string c]] w fun x w' => x = .returned (.string ⟨#[]⟩) ∧ Below w.heap.size w w' := by
  have CK := Lib.hid (fun w => mchk_any m c hc H w)
  clear H hc
  go_enter Tryd.func27, Tryd.ntmps27
  go_wp2_with fail
  with_reducible refine (CK.out _).mono ?_
  rintro x w1 ⟨rfl, l0, n0, rfl⟩
  go_wp2
  go_ret
  exact ⟨rfl, Pushed.below (by repeat (first | with_reducible exact Pushed.refl _ | with_reducible assumption | with_reducible refine Pushed.push ?_ _ | with_reducible refine Pushed.alloc ?_ _ | with_reducible refine Pushed.drewN ?_ _ | with_reducible refine Pushed.drew ?_))⟩
set_option maxRecDepth 20000 in
set_option maxHeartbeats 6400000 in
theorem fmt_ok (m : Int) (c : ByteArray) (H : mchkR m c = 0) (w : World) (hE : ExpT w) (hP : Pow w) (hw : 6 ≤ w.heap.size) : Calls Tryd.prog 27 #[.agg #[.int .i64 m, .string c]] w fun x w' => x = .returned (.string (fmtM m c)) ∧ Below w.heap.size w w' := by
  obtain ⟨hcur, hlo, hhi⟩ := mchk_curP H
  have hc3 : c.size = 3 := hcur.1
  have hp := expN_le c
  have CK := Lib.hid (fun w => mchk_any m c (by omega) (Lib.hid H) w)
  have EX : Hid (∀ w', Below w.heap.size w w' → Calls Tryd.prog 47 #[.string c] w' fun x w'' => x = .returned (.tuple #[.int .i64 (expN c : Int), .bool true]) ∧ Pushed w' w'') := Lib.hid fun w' hb => exp_any c hcur w' (hE.later hb hw)
  have MG := Lib.hid (fun w => mag_any m ⟨hlo, hhi⟩ w)
  have FU : Hid (∀ w', Below w.heap.size w w' → Calls Tryd.prog 48 #[.int .u64 (m.natAbs : Int), .int .i64 10] w' fun x w'' => x = .returned (.string (decS m.natAbs (Lib.nDigits m.natAbs))) ∧ Below w'.heap.size w' w'') := Lib.hid fun w' hb => fmt10_any m.natAbs (by omega) w' (hP.later hb hw)
  obtain ⟨dk1, dk2, dk3, -⟩ := dgS_ok m (expN c)
  have hdz : (dgS m (expN c)).size = padD m.natAbs (expN c) := decS_size _ _
  have hn16 : Lib.nDigits m.natAbs ≤ 16 := (nd_iff m.natAbs 16 (by omega)).2 (by omega)
  have hn1 := Lib.nDigits_pos m.natAbs
  have hpad : padD m.natAbs (expN c) ≤ 16 := by unfold padD; exact Nat.max_le.2 ⟨hn16, by omega⟩
  have hpl : Lib.nDigits m.natAbs ≤ padD m.natAbs (expN c) := Nat.le_max_left _ _
  have hpr : expN c + 1 ≤ padD m.natAbs (expN c) := Nat.le_max_right _ _
  have hpx : padD m.natAbs (expN c) = Lib.nDigits m.natAbs ∨ padD m.natAbs (expN c) = expN c + 1 := by unfold padD; omega
  have hu : m.natAbs < 10 ^ Lib.nDigits m.natAbs := (nd_bd m.natAbs).1
  have HF : Hid (fmtM m c = signed m (bodyOf (dgS m (expN c)) (expN c)) ++ one 32 ++ c) := Lib.hid rfl
  have HDG : Hid (dgS m (expN c) = decS m.natAbs (padD m.natAbs (expN c))) := Lib.hid rfl
  have PD : Hid (∀ k, Lib.nDigits m.natAbs ≤ k → (⟨#[48]⟩ : ByteArray) ++ decS m.natAbs k = decS m.natAbs (k + 1)) := Lib.hid fun k hk => decS_pad (Nat.lt_of_lt_of_le hu (Nat.pow_le_pow_right (by decide) hk))
  clear hu dk2 dk3 hE hP hw
  generalize Lib.nDigits m.natAbs = ND at *
  generalize padD m.natAbs (expN c) = PAD at *
  have HEA := Lib.hid hcur
  clear hcur
  generalize expN c = p at *
  clear H
  go_enter Tryd.func27, Tryd.ntmps27
  go_wp2_with fail
  with_reducible refine (CK.out _).mono ?_
  rintro x w1 ⟨rfl, l0, n0, rfl⟩
  go_wp2_with fail
  refine (EX.out _ (Pushed.below (by repeat (first | with_reducible exact Pushed.refl _ | with_reducible assumption | with_reducible refine Pushed.push ?_ _ | with_reducible refine Pushed.alloc ?_ _ | with_reducible refine Pushed.drewN ?_ _ | with_reducible refine Pushed.drew ?_)))).mono ?_
  rintro x w1 ⟨rfl, l1, n1, rfl⟩
  go_wp2_with fail
  with_reducible refine (MG.out _).mono ?_
  rintro x w1 ⟨rfl, l2, n2, rfl⟩
  go_wp2_with fail
  refine (FU.out _ (Pushed.below (by repeat (first | with_reducible exact Pushed.refl _ | with_reducible assumption | with_reducible refine Pushed.push ?_ _ | with_reducible refine Pushed.alloc ?_ _ | with_reducible refine Pushed.drewN ?_ _ | with_reducible refine Pushed.drew ?_)))).mono ?_
  rintro x w2 ⟨rfl, hb⟩
  have HB := Lib.hid ((Pushed.below (w := w) (by repeat (first | with_reducible exact Pushed.refl _ | with_reducible assumption | with_reducible refine Pushed.push ?_ _ | with_reducible refine Pushed.alloc ?_ _ | with_reducible refine Pushed.drewN ?_ _ | with_reducible refine Pushed.drew ?_))).trans (hb.mono (Pushed.below (w := w) (by repeat (first | with_reducible exact Pushed.refl _ | with_reducible assumption | with_reducible refine Pushed.push ?_ _ | with_reducible refine Pushed.alloc ?_ _ | with_reducible refine Pushed.drewN ?_ _ | with_reducible refine Pushed.drew ?_))).size))
  have m0 : w2.cell? ⟨w.heap.size, 0, none⟩ = some (.int .i64 m) := by
    rw [hb.cell (by simp [size_push]; try omega)]; go_simp
  have m1 : w2.cell? ⟨w.heap.size, 1, none⟩ = some (.string c) := by
    rw [hb.cell (by simp [size_push]; try omega)]; go_simp
  clear hb CK EX MG FU
  go_wp2
  go_loop [5] (fun t => ∃ k : Nat, ND ≤ k ∧ k ≤ PAD ∧ t = .string (decS m.natAbs k)) (fun t => match t with | .string s => p + 1 - s.size | _ => 0)
  case atStart => exact ⟨ND, by omega, by omega, rfl⟩
  case round =>
    obtain ⟨k, hk1, hk2, rfl⟩ := hrel
    have hsz := decS_size m.natAbs k
    by_cases hlt : k ≤ p
    · have g1 : ((decS m.natAbs k).size : Int) ≤ (p : Int) := by omega
      have hz2 : (decS m.natAbs k).size ≤ 100 := by omega
      have HS := Lib.hid hsz
      have HN := Lib.hid (PD.out k hk1)
      clear hsz
      generalize hS : decS m.natAbs k = S at *
      go_wp2
      go_round
      case rel => exact ⟨k + 1, by omega, by omega, by rw [← HN.out]⟩
      case measure =>
        have h1 := HS.out
        have h2 : ((⟨#[48]⟩ : ByteArray) ++ S).size = 1 + S.size := app_size _ _
        simp [h2]
        omega
    · obtain rfl : k = PAD := by omega
      have g1 : ¬ ((decS m.natAbs k).size : Int) ≤ (p : Int) := by omega
      rw [← HDG.out] at hsz g1 ⊢
      have hz2 : (dgS m p).size ≤ 100 := by omega
      have hpd : p < (dgS m p).size := by omega
      clear hsz hdz
      have kz : ((dgS m p).size : Int) - (p : Int) = (((dgS m p).size - p : Nat) : Int) := by omega
      have s1 : ∀ w, (Instr.slice 9 (.string (dgS m p)) none (some (.int .i64 (((dgS m p).size - p : Nat) : Int))) none).run Tryd.prog w = .ok (.string ((dgS m p).extract 0 ((dgS m p).size - p))) w := fun w => sl_h (dgS m p) ((dgS m p).size - p) (by omega) rfl w
      have s2 : ∀ w, (Instr.slice 9 (.string (dgS m p)) (some (.int .i64 (((dgS m p).size - p : Nat) : Int))) none none).run Tryd.prog w = .ok (.string ((dgS m p).extract ((dgS m p).size - p) (dgS m p).size)) w := fun w => sl_l (dgS m p) ((dgS m p).size - p) (by omega) rfl w
      have z1 : ((dgS m p).extract 0 ((dgS m p).size - p)).size ≤ 100 := by rw [size_extract' _ _ _ (by omega)]; omega
      have z2 : ((dgS m p).extract ((dgS m p).size - p) (dgS m p).size).size ≤ 100 := by rw [size_extract' _ _ _ (Nat.le_refl _)]; omega
      have HBO : Hid (bodyOf (dgS m p) p = if p = 0 then dgS m p else (dgS m p).extract 0 ((dgS m p).size - p) ++ (one 46 ++ (dgS m p).extract ((dgS m p).size - p) (dgS m p).size)) := Lib.hid rfl
      have HX0 : Hid (p = 0 → (dgS m p).extract 0 ((dgS m p).size - p) = dgS m p) := Lib.hid fun h => by rw [h, Nat.sub_zero]; exact ext_all _
      have g2 : ((dgS m p).size : Int) ≤ 100 := by omega
      have g3 : 0 ≤ ((dgS m p).size : Int) := by omega
      have g4 : (p : Int) ≤ 3 := by omega
      have g5 : 0 ≤ (p : Int) := by omega
      generalize (dgS m p).extract 0 ((dgS m p).size - p) = W at *
      generalize (dgS m p).extract ((dgS m p).size - p) (dgS m p).size = F at *
      generalize (((dgS m p).size - p : Nat) : Int) = P0 at *
      have zWF : (W ++ ((⟨#[46]⟩ : ByteArray) ++ F)).size ≤ 300 := by rw [app_size, app_size]; show W.size + (1 + F.size) ≤ 300; omega
      have zF : ((⟨#[46]⟩ : ByteArray) ++ F).size ≤ 300 := by rw [app_size]; show 1 + F.size ≤ 300; omega
      have hF := HF.out
      rw [HBO.out] at hF
      by_cases p0 : p = 0
      · have q1 : ¬ (0 : Int) < (p : Int) := by omega
        rw [if_pos p0, ← HX0.out p0] at hF
        have zA : ((⟨#[45]⟩ : ByteArray) ++ W).size ≤ 300 := by rw [app_size]; show 1 + W.size ≤ 300; omega
        have zB : (((⟨#[45]⟩ : ByteArray) ++ W) ++ (⟨#[32]⟩ : ByteArray)).size ≤ 400 := by rw [app_size]; show _ + 1 ≤ 400; omega
        have zC : (W ++ (⟨#[32]⟩ : ByteArray)).size ≤ 400 := by rw [app_size]; show _ + 1 ≤ 400; omega
        by_cases hm : m < 0
        · have HFF : Hid (fmtM m c = (⟨#[45]⟩ : ByteArray) ++ W ++ (⟨#[32]⟩ : ByteArray) ++ c) := Lib.hid (by rw [hF]; unfold signed; rw [if_pos hm]; rfl)
          clear hF HF HBO HX0 HDG PD p0
          go_wp2
          go_ret
          exact ⟨(by show Ending.returned (.string ((⟨#[45]⟩ : ByteArray) ++ W ++ (⟨#[32]⟩ : ByteArray) ++ c)) = _; rw [HFF.out]), HB.out⟩
        · have HFF : Hid (fmtM m c = W ++ (⟨#[32]⟩ : ByteArray) ++ c) := Lib.hid (by rw [hF]; unfold signed; rw [if_neg hm]; rfl)
          clear hF HF HBO HX0 HDG PD p0
          go_wp2
          go_ret
          exact ⟨(by show Ending.returned (.string (W ++ (⟨#[32]⟩ : ByteArray) ++ c)) = _; rw [HFF.out]), HB.out⟩
      · have q1 : (0 : Int) < (p : Int) := by omega
        rw [if_neg p0] at hF
        have zA : ((⟨#[45]⟩ : ByteArray) ++ (W ++ ((⟨#[46]⟩ : ByteArray) ++ F))).size ≤ 400 := by rw [app_size]; show 1 + _ ≤ 400; omega
        have zB : (((⟨#[45]⟩ : ByteArray) ++ (W ++ ((⟨#[46]⟩ : ByteArray) ++ F))) ++ (⟨#[32]⟩ : ByteArray)).size ≤ 500 := by rw [app_size]; show _ + 1 ≤ 500; omega
        have zC : ((W ++ ((⟨#[46]⟩ : ByteArray) ++ F)) ++ (⟨#[32]⟩ : ByteArray)).size ≤ 500 := by rw [app_size]; show _ + 1 ≤ 500; omega
        by_cases hm : m < 0
        · have HFF : Hid (fmtM m c = (⟨#[45]⟩ : ByteArray) ++ (W ++ ((⟨#[46]⟩ : ByteArray) ++ F)) ++ (⟨#[32]⟩ : ByteArray) ++ c) := Lib.hid (by rw [hF]; unfold signed; rw [if_pos hm]; rfl)
          clear hF HF HBO HX0 HDG PD p0
          go_wp2
          go_ret
          exact ⟨(by show Ending.returned (.string ((⟨#[45]⟩ : ByteArray) ++ (W ++ ((⟨#[46]⟩ : ByteArray) ++ F)) ++ (⟨#[32]⟩ : ByteArray) ++ c)) = _; rw [HFF.out]), HB.out⟩
        · have HFF : Hid (fmtM m c = (W ++ ((⟨#[46]⟩ : ByteArray) ++ F)) ++ (⟨#[32]⟩ : ByteArray) ++ c) := Lib.hid (by rw [hF]; unfold signed; rw [if_neg hm]; rfl)
          clear hF HF HBO HX0 HDG PD p0
          go_wp2
          go_ret
          exact ⟨(by show Ending.returned (.string ((W ++ ((⟨#[46]⟩ : ByteArray) ++ F)) ++ (⟨#[32]⟩ : ByteArray) ++ c)) = _; rw [HFF.out]), HB.out⟩
end Go.Proofs.YtompkkanckejjaaDoor
