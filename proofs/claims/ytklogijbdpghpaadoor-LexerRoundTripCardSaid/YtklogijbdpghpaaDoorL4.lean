/-
  CONTRACTS of the lexer: digits, numbers of both.
-/
import Derived.Test.YtklogijbdpghpaaDoorL3
import Derived.Test.YtklogijbdpghpaaDoorLXN
import Derived.Test.YtklogijbdpghpaaDoorKShelf
import Derived.Lib.AtoiErrMem
namespace Go.Proofs.YtklogijbdpghpaaDoor
open Go.RowKit
set_option linter.unusedVariables false
set_option linter.unusedSimpArgs false
theorem nonempty_list {s : ByteArray} (h : 0 < s.size) : s.toList.isEmpty = false := by
  rw [ByteArray.toList_eq]
  cases hl : s.data.toList with
  | nil => exfalso; have : s.data.toList.length = 0 := by rw [hl]; rfl
           have h2 : s.data.toList.length = s.size := rfl
           omega
  | cons a l => rfl
set_option maxHeartbeats 800000 in
theorem digits_any (s : ByteArray) (hs : s.size ≤ 10000) (h0 : 0 < s.size) (w : World) :
    Calls Tryd.prog 62 #[.string s] w fun e w' => e = .returned (.bool (dgsB s)) ∧ w = w' := by
  have hn : s.toList.isEmpty = false := nonempty_list h0
  have hn2 : (!s.toList.isEmpty) = true := by rw [hn]; rfl
  go_enter Tryd.func62, Tryd.ntmps62
  go_wp2_with fail
  go_loop [3] (fun i => ∃ k : Nat, k ≤ s.size ∧ i = .int .i64 k ∧ Hid (∀ j, j < k → digitB (byt s j) = true)) (fun i => s.size - (intOf i).toNat)
  case atStart => exact ⟨0, Nat.zero_le _, rfl, Lib.hid fun j h => absurd h (by omega)⟩
  case round =>
    obtain ⟨k, hk, rfl, HA⟩ := hrel
    by_cases hlt : k < s.size
    · have hx := fun w => ix_at s k hlt (i := (k : Int)) rfl w
      have HB := byt_bd s k
      cases hd : digitB (byt s k) with
      | true =>
        have HA2 : Hid (∀ j, j < k + 1 → digitB (byt s j) = true) := Lib.hid fun j h => by
          rcases Nat.lt_or_ge j k with h1 | h1
          · exact HA.out j h1
          · obtain rfl : j = k := by omega
            exact hd
        go_wp2_with (go_at_call 57; refine (tdigit_any _ (by omega) (by omega) _).mono ?_; rintro e w' ⟨rfl, rfl⟩)
        go_round
        case rel => exact ⟨k + 1, by omega, by go_num, HA2⟩
        case measure => simp [intOf]; omega
      | false =>
        have HE : Hid (dgsB s = false) := Lib.hid (by
          rw [Bool.eq_false_iff]
          intro hh
          have := (dgsB_iff s).1 hh k hlt
          rw [hd] at this
          cases this)
        go_wp2_with (go_at_call 57; refine (tdigit_any _ (by omega) (by omega) _).mono ?_; rintro e w' ⟨rfl, rfl⟩)
        go_ret
        exact ⟨ret_bool HE.out.symm, rfl⟩
    · have HE : Hid (dgsB s = true) := Lib.hid ((dgsB_iff s).2 fun j hj => HA.out j (by omega))
      go_wp2_with fail
      go_ret
      exact ⟨ret_bool HE.out.symm, rfl⟩
/-- What the lexer asks of the world: the two errors of the library, whatever they are. -/
def Errs (w : World) : Prop := (∃ te pe, w.cell? ⟨2, 0, none⟩ = some (.iface te pe)) ∧ (∃ te pe, w.cell? ⟨3, 0, none⟩ = some (.iface te pe))
theorem Errs.later {B : Nat} {w w' : World} (h : Errs w) (hb : Below B w w') (hB : 5 ≤ B) : Errs w' := by
  obtain ⟨⟨te, pe, h1⟩, ⟨tf, pf, h2⟩⟩ := h
  exact ⟨⟨te, pe, by rw [hb.cell (by show 2 < B; omega)]; exact h1⟩, ⟨tf, pf, by rw [hb.cell (by show 3 < B; omega)]; exact h2⟩⟩
theorem bytesW {w : World} {t : TypeId} {bs : ByteArray} : Below w.heap.size w (Lib.bytesWorld w t bs) := by
  exact Lib.bytesWorld_below _ _ _
/-- ParseInt of digits, as the lexer uses it. -/
theorem parse_any (s : ByteArray) (hs : s.size ≤ 10000) {V : Nat} (hp : Lib.parseIntB 64 s.data.toList = if V < 9223372036854775808 then .ok (V : Int) else .range) (w : World) (hE : Errs w) :
    Calls Tryd.prog 63 #[.string s, .int .i64 10, .int .i64 64] w fun e w' => ∃ m v, e = .returned (.tuple #[.int .i64 m, v]) ∧ (V < 9223372036854775808 → m = (V : Int) ∧ v = .nilIface) ∧ (¬ V < 9223372036854775808 → ∃ te pe, v = .iface te pe) ∧ Below w.heap.size w w' := by
  by_cases h : V < 9223372036854775808
  · rw [if_pos h] at hp
    refine (Tryd.strconv_ParseInt_10_at64_ok s (by omega) (V : Int) hp w).mono ?_
    rintro e w' ⟨rfl, hw⟩
    refine ⟨_, _, rfl, fun _ => ⟨rfl, rfl⟩, fun hn => absurd h hn, ?_⟩
    rcases hw with rfl | ⟨t, rfl⟩
    · exact Below.refl _ _
    · exact bytesW
  · rw [if_neg h] at hp
    obtain ⟨-, te, pe, hv⟩ := hE
    refine (Tryd.strconv_ParseInt_10_at64_range s (by omega) hp (.iface te pe) w hv (.inr ⟨te, pe, rfl⟩)).mono ?_
    rintro e w' ⟨N, rfl, -, -, hb⟩
    exact ⟨_, _, rfl, fun hn => absurd hn h, fun _ => ⟨_, _, rfl⟩, hb⟩
set_option maxHeartbeats 1600000 in
theorem number_any (s : ByteArray) (hs : s.size ≤ 10000) (h0 : 0 < s.size) (w : World) (hE : Errs w) {n c : Int} (hn : numN s = n) (hc : numE s = c) :
    Calls Tryd.prog 48 #[.string s] w fun e w' => e = .returned (.tuple #[.int .i64 n, .int .i64 c]) ∧ Below w.heap.size w w' := by
  have HN := Lib.hid hn
  have HC := Lib.hid hc
  have HE := Lib.hid hE
  clear hn hc hE
  go_enter Tryd.func48, Tryd.ntmps48
  cases hd : dgsB s with
  | false =>
    have h2 : numE s = 2 := by
      unfold numE; rw [hd]; rfl
    obtain rfl : c = 2 := HC.out.symm.trans h2
    obtain rfl : n = 0 := HN.out.symm.trans (numN_bad (by omega))
    clear h2
    go_wp2_with (go_at_call 62; refine (digits_any s hs h0 _).mono ?_; rintro e w' ⟨rfl, rfl⟩)
    go_ret2
    exact ⟨rfl, Below.refl _ _⟩
  | true =>
    have HD := (dgsB_iff s).1 hd
    have hx := fun w => ix_at s 0 h0 (i := 0) rfl w
    by_cases hz : 1 < s.size ∧ byt s 0 = 48
    · have h2 : numE s = 2 := numE_zero hz.1 hz.2
      obtain rfl : c = 2 := HC.out.symm.trans h2
      obtain rfl : n = 0 := HN.out.symm.trans (numN_bad (by omega))
      obtain ⟨hz1, hz2⟩ := hz
      have d1 : decide ((1 : Int) < (s.size : Int)) = true := decide_eq_true (by omega)
      have e1 : (byt s 0 == 48) = true := by rw [hz2]; rfl
      clear h2 HD hz2
      go_wp2_with (go_at_call 62; refine (digits_any s hs h0 _).mono ?_; rintro e w' ⟨rfl, rfl⟩)
      go_ret2
      exact ⟨rfl, Below.refl _ _⟩
    · have h2 := numE_ok hd hz
      have hlist : s.data.toList ≠ [] := by
        intro h
        have h1 : s.data.toList.length = 0 := by rw [h]; rfl
        have h2 : s.data.toList.length = s.size := rfl
        omega
      have hpar := Lib.hid (parse_int s.data.toList hlist (dgs_mem s HD))
      rw [← valF_all s HD] at hpar
      have HV : Hid (numE s = 0 → n = (valF s s.size : Int)) := Lib.hid fun h => HN.out.symm.trans (numN_ok h)
      have HV2 : Hid (numE s ≠ 0 → n = 0) := Lib.hid fun h => HN.out.symm.trans (numN_bad h)
      clear HD hlist
      generalize valF s s.size = V at *
      have PA := Lib.hid (fun W (h : Errs W) => parse_any s hs hpar.out W h)
      clear hpar
      by_cases h1 : 1 < s.size
      · have d1 : decide ((1 : Int) < (s.size : Int)) = true := decide_eq_true (by omega)
        have e1 : (byt s 0 == 48) = false := beq_false_of_ne (fun h => hz ⟨h1, h⟩)
        clear hz
        go_wp2_with (go_at_call 62; refine (digits_any s hs h0 _).mono ?_; rintro e w' ⟨rfl, rfl⟩)
        refine (PA.out _ HE.out).mono ?_
        rintro e w1 ⟨m, v, rfl, hA, hB, hb⟩
        by_cases hV : V < 9223372036854775808
        · obtain ⟨rfl, rfl⟩ := hA hV
          by_cases hM : 9007199254740992 < V
          · rw [if_pos hM] at h2
            obtain rfl : c = 4 := HC.out.symm.trans h2
            obtain rfl : n = 0 := HV2.out (by omega)
            have d2 : decide ((9007199254740992 : Int) < (V : Int)) = true := decide_eq_true (by omega)
            clear hV hM h2 hA hB
            go_wp2_with fail
            go_ret2
            exact ⟨rfl, hb⟩
          · rw [if_neg hM] at h2
            obtain rfl : c = 0 := HC.out.symm.trans h2
            obtain rfl : n = (V : Int) := HV.out h2
            have d2 : decide ((9007199254740992 : Int) < (V : Int)) = false := decide_eq_false (by omega)
            clear hV hM h2 hA hB
            go_wp2_with fail
            go_ret2
            exact ⟨rfl, hb⟩
        · obtain ⟨te, pe, rfl⟩ := hB hV
          rw [if_pos (by omega)] at h2
          obtain rfl : c = 4 := HC.out.symm.trans h2
          obtain rfl : n = 0 := HV2.out (by omega)
          clear hV h2 hA hB
          go_wp2_with fail
          go_ret2
          exact ⟨rfl, hb⟩
      · have d1 : decide ((1 : Int) < (s.size : Int)) = false := decide_eq_false (by omega)
        clear hz
        go_wp2_with (go_at_call 62; refine (digits_any s hs h0 _).mono ?_; rintro e w' ⟨rfl, rfl⟩)
        refine (PA.out _ HE.out).mono ?_
        rintro e w1 ⟨m, v, rfl, hA, hB, hb⟩
        by_cases hV : V < 9223372036854775808
        · obtain ⟨rfl, rfl⟩ := hA hV
          by_cases hM : 9007199254740992 < V
          · rw [if_pos hM] at h2
            obtain rfl : c = 4 := HC.out.symm.trans h2
            obtain rfl : n = 0 := HV2.out (by omega)
            have d2 : decide ((9007199254740992 : Int) < (V : Int)) = true := decide_eq_true (by omega)
            clear hV hM h2 hA hB
            go_wp2_with fail
            go_ret2
            exact ⟨rfl, hb⟩
          · rw [if_neg hM] at h2
            obtain rfl : c = 0 := HC.out.symm.trans h2
            obtain rfl : n = (V : Int) := HV.out h2
            have d2 : decide ((9007199254740992 : Int) < (V : Int)) = false := decide_eq_false (by omega)
            clear hV hM h2 hA hB
            go_wp2_with fail
            go_ret2
            exact ⟨rfl, hb⟩
        · obtain ⟨te, pe, rfl⟩ := hB hV
          rw [if_pos (by omega)] at h2
          obtain rfl : c = 4 := HC.out.symm.trans h2
          obtain rfl : n = 0 := HV2.out (by omega)
          clear hV h2 hA hB
          go_wp2_with fail
          go_ret2
          exact ⟨rfl, hb⟩
end Go.Proofs.YtklogijbdpghpaaDoor
