/-
  CONTRACTS of card numbers: the program's Make.
-/
import Derived.Test.YtddnfjaogekmjaaDoorP12
namespace Go.Proofs.YtddnfjaogekmjaaDoor
open Go.RowKit Go.Lib
set_option linter.unusedVariables false
set_option linter.unusedSimpArgs false
/-- What Make asks for. -/
def OkM (p : ByteArray) (n L : Int) : Prop := 12 ≤ L ∧ L ≤ 19 ∧ 1 ≤ p.size ∧ p.size ≤ 10 ∧ Dgs p ∧ 0 ≤ n ∧ n.toNat < 10 ^ (L.toNat - 1 - p.size)
def body (p : ByteArray) (n : Nat) (L : Nat) : ByteArray := p ++ decS n (L - 1 - p.size)
def made (p : ByteArray) (n : Nat) (L : Nat) : ByteArray := body p n L ++ one (48 + (cdN (body p n L) : Int))
theorem body_size {p : ByteArray} {n L : Nat} (h : p.size + 1 ≤ L) : (body p n L).size = L - 1 := by
  unfold body
  rw [ByteArray.size_append, decS_size]
  omega
theorem body_dgs {p : ByteArray} {n L : Nat} (h : Dgs p) : Dgs (body p n L) := dgs_app h (dgs_decS _ _)
theorem rngM {T : Ending} {a : ByteArray} : T = T := rfl
/-- The ways on which Make refuses. -/
inductive BadM (p : ByteArray) (n L : Int) : Prop
  | short (h : L < 12) : BadM p n L
  | long (h : 19 < L) : BadM p n L
  | wide (h : 10 < p.size) : BadM p n L
  | none (h : p.size = 0) : BadM p n L
  | form (h : ¬ Dgs p) : BadM p n L
  | neg (h : n < 0) : BadM p n L
  | big (h0 : 0 ≤ n) (h : 10 ^ (L.toNat - 1 - p.size) ≤ n.toNat) : BadM p n L
theorem badM {p : ByteArray} {n L : Int} (h : ¬ OkM p n L) : BadM p n L := by
  apply Classical.byContradiction
  intro hb
  apply h
  refine ⟨?_, ?_, ?_, ?_, ?_, ?_, ?_⟩
  · exact Classical.byContradiction fun h => hb (.short (by omega))
  · exact Classical.byContradiction fun h => hb (.long (by omega))
  · exact Classical.byContradiction fun h => hb (.none (by omega))
  · exact Classical.byContradiction fun h => hb (.wide (by omega))
  · exact Classical.byContradiction fun h => hb (.form h)
  · exact Classical.byContradiction fun h => hb (.neg (by omega))
  · by_cases h0 : 0 ≤ n
    · exact Classical.byContradiction fun h => hb (.big h0 (by omega))
    · exact absurd (BadM.neg (by omega)) hb
set_option maxHeartbeats 1600000 in
theorem make_bad (p : ByteArray) (hp : p.size ≤ 1000) (n L : Int) (n0 : -9223372036854775808 ≤ n) (n1 : n ≤ 9223372036854775807) (h : ¬ OkM p n L) (w : World) (hT : Pow w) :
    Calls Tryd.prog 21 #[.string p, .int .i64 n, .int .i64 L] w fun e w' => e = .returned (.tuple #[.string ByteArray.empty, .int .i64 4]) ∧ Below w.heap.size w w' := by
  by_cases l1 : L < 12
  · go_enter Tryd.func21, Tryd.ntmps21
    go_wp2
    go_ret2
    exact ⟨rfl, Below.refl _ _⟩
  by_cases l2 : 19 < L
  · go_enter Tryd.func21, Tryd.ntmps21
    go_wp2
    go_ret2
    exact ⟨rfl, Below.refl _ _⟩
  by_cases p1 : 10 < p.size
  · go_enter Tryd.func21, Tryd.ntmps21
    go_wp2
    go_ret2
    exact ⟨rfl, Below.refl _ _⟩
  by_cases p0 : p.size = 0
  · have C1 := Lib.hid (fun w => digits_empty p p0 w)
    go_enter Tryd.func21, Tryd.ntmps21
    go_wp2_with (go_at_call 29; refine (C1.out _).mono ?_; rintro e w' ⟨rfl, rfl⟩)
    go_ret2
    exact ⟨rfl, Below.refl _ _⟩
  by_cases hd : Dgs p
  · have C1 := Lib.hid (fun w => digits_yes p hp (by omega) hd w)
    by_cases hn : n < 0
    · clear hd h
      go_enter Tryd.func21, Tryd.ntmps21
      go_wp2_with (go_at_call 29; refine (C1.out _).mono ?_; rintro e w' ⟨rfl, rfl⟩)
      go_ret2
      exact ⟨rfl, Below.refl _ _⟩
    · obtain ⟨u, rfl⟩ := Int.eq_ofNat_of_zero_le (show 0 ≤ n by omega)
      obtain ⟨l, rfl⟩ := Int.eq_ofNat_of_zero_le (show 0 ≤ L by omega)
      have hbig : ¬ u < 10 ^ (l - 1 - p.size) := by
        intro hlt
        exact h ⟨by omega, by omega, by omega, by omega, hd, by omega, by rw [Int.toNat_natCast, Int.toNat_natCast]; exact hlt⟩
      have hnd : l - 1 - p.size < nDigits u := by
        have := mt (nd_iff u (l - 1 - p.size) (by omega)).1 hbig
        omega
      have C2 := Lib.hid (fun w hT => itoa_any u (by omega) w hT)
      have hz := decS_size u (nDigits u)
      have hnd20 : nDigits u ≤ 19 := (nd_iff u 19 (by omega)).2 (Nat.lt_of_le_of_lt (show u ≤ 9223372036854775807 by omega) (by decide))
      clear hd h hbig
      go_enter Tryd.func21, Tryd.ntmps21
      go_wp2_with (go_at_call 29; refine (C1.out _).mono ?_; rintro e w' ⟨rfl, rfl⟩)
      go_at_call 36
      refine (C2.out _ hT).mono ?_
      rintro e w1 ⟨rfl, hb1⟩
      go_wp2
      go_ret2
      exact ⟨rfl, hb1⟩
  · have C1 := Lib.hid (fun w => digits_no p hp hd w)
    clear hd h
    go_enter Tryd.func21, Tryd.ntmps21
    go_wp2_with (go_at_call 29; refine (C1.out _).mono ?_; rintro e w' ⟨rfl, rfl⟩)
    go_ret2
    exact ⟨rfl, Below.refl _ _⟩
set_option maxHeartbeats 1600000 in
theorem make_ok (p : ByteArray) (u l : Nat) (u1 : u ≤ 9223372036854775807) (h : OkM p (u : Int) (l : Int)) (w : World) (hT : Pow w) (hw : 4 ≤ w.heap.size) :
    Calls Tryd.prog 21 #[.string p, .int .i64 (u : Int), .int .i64 (l : Int)] w fun e w' => e = .returned (.tuple #[.string (made p u l), .int .i64 0]) ∧ Below w.heap.size w w' := by
  obtain ⟨l1, l2, p1, p2, hd, n0, hlt⟩ := h
  rw [Int.toNat_natCast, Int.toNat_natCast] at hlt
  have hnd := (nd_iff u (l - 1 - p.size) (by omega)).2 hlt
  have C1 := Lib.hid (fun w => digits_yes p (by omega) (by omega) hd w)
  have C2 := Lib.hid (fun w hT => itoa_any u u1 w hT)
  have C3 : Hid (∀ w, Pow w → Calls Tryd.prog 37 #[.int .i64 (u : Int), .int .i64 ((l : Int) - 1 - (p.size : Int))] w fun e w' => e = .returned (.string (decS u (l - 1 - p.size))) ∧ Below w.heap.size w w') := Lib.hid fun w hT => by
    have := padded_any u u1 (l - 1 - p.size) (by omega) hnd w hT
    rwa [show ((l - 1 - p.size : Nat) : Int) = (l : Int) - 1 - (p.size : Int) by omega] at this
  have C4 : Hid (∀ w, Calls Tryd.prog 11 #[.string (p ++ decS u (l - 1 - p.size))] w fun e w' => e = .returned (.tuple #[.int .u8 (48 + (cdN (body p u l) : Int)), .int .i64 0]) ∧ Below w.heap.size w w') := Lib.hid (fun w => cd_ok (body p u l) (by rw [body_size (by omega)]; omega) (by rw [body_size (by omega)]; omega) (body_dgs hd) w)
  have hz := decS_size u (nDigits u)
  have hz2 := decS_size u (l - 1 - p.size)
  have hz3 : (p ++ decS u (l - 1 - p.size)).size = l - 1 := body_size (by omega)
  have hcd := cd_le (body p u l)
  have hcv := fun w => enc_one (48 + (cdN (body p u l) : Int)) (by omega) (by omega) w
  have HM : Hid (made p u l = p ++ decS u (l - 1 - p.size) ++ one (48 + (cdN (body p u l) : Int))) := Lib.hid rfl
  have hz4 := one_size (48 + (cdN (body p u l) : Int))
  have hnd20 : nDigits u ≤ 19 := (nd_iff u 19 (by omega)).2 (Nat.lt_of_le_of_lt (show u ≤ 9223372036854775807 by omega) (by decide))
  clear hd hlt
  go_enter Tryd.func21, Tryd.ntmps21
  go_wp2_with (go_at_call 29; refine (C1.out _).mono ?_; rintro e w' ⟨rfl, rfl⟩)
  go_at_call 36
  refine (C2.out _ hT).mono ?_
  rintro e w1 ⟨rfl, hb1⟩
  have hz5 := hb1.size
  go_wp2_with fail
  go_at_call 37
  refine (C3.out _ (hT.later hb1 hw)).mono ?_
  rintro e w2 ⟨rfl, hb2⟩
  go_wp2_with fail
  go_at_call 11
  refine (C4.out _).mono ?_
  rintro e w3 ⟨rfl, hb3⟩
  have hz6 := hb2.size
  go_wp2
  go_ret2
  exact ⟨ret_sc HM.out.symm rfl, (hb1.trans (hb2.mono hz5)).trans (hb3.mono (by omega))⟩
end Go.Proofs.YtddnfjaogekmjaaDoor
