/-
  CONTRACTS of the lexer: words, of the program and of the specification.
-/
import Derived.Test.YtklogijbdpghpaaDoorL2
namespace Go.Proofs.YtklogijbdpghpaaDoor
open Go.RowKit
set_option linter.unusedVariables false
set_option linter.unusedSimpArgs false
theorem kind_word3 {c : Int} (h : isW c = true) : kindS c = 3 ∨ kindS c = 4 ∨ kindS c = 5 := by
  have := @kind_word c
  rw [h] at this
  simp at this
  omega
theorem kind_word0 {c : Int} (h : isW c = false) : ((kindS c == 3) = false ∧ (kindS c == 4) = false ∧ (kindS c == 5) = false) ∧ (kindS c != 3) = true ∧ (kindS c != 4) = true ∧ (kindS c != 5) = true := by
  have := @kind_word c
  rw [h] at this
  simp at this
  exact ⟨⟨beq_false_of_ne this.1.1, beq_false_of_ne this.1.2, beq_false_of_ne this.2⟩, by simp [this.1.1], by simp [this.1.2], by simp [this.2]⟩
theorem high_word {c : Int} (h : 128 ≤ c) : isW c = false := by
  unfold isW letterB digitB
  simp
  omega
theorem wrap_i32 (c : Int) (h0 : 0 ≤ c) (h1 : c ≤ 2147483647) : IntKind.i32.wrap c = c := by
  simp [IntKind.wrap, IntKind.bits, IntKind.signed]; omega
set_option maxHeartbeats 1600000 in
theorem word_any (s : ByteArray) (hs : s.size ≤ 10000) (w : World) :
    Calls Tryd.prog 47 #[.string s] w fun e w' => e = .returned (.string (s.extract 0 (wdP s 0))) ∧ Below w.heap.size w w' := by
  go_enter Tryd.func47, Tryd.ntmps47
  go_wp2_with fail
  go_loopw [3] (fun i wr => ∃ k : Nat, k ≤ s.size ∧ wr = w.iter s k ∧ Hid (wdP s 0 = wdP s k)) (fun _ wr => s.size - (match wr.heap[w.heap.size]? with | some (.stringIter _ p) => p | _ => 0))
  case atStart => exact ⟨0, Nat.zero_le _, rfl, Lib.hid rfl⟩
  case round =>
    obtain ⟨k, hk, rfl, HK⟩ := hrel
    by_cases hlt : k < s.size
    · have hby := byt_get s k hlt
      by_cases h128 : s[k].toNat < 128
      · have hnx := fun ty => run_next_ascii (P := Tryd.prog) w s k ty hlt h128
        by_cases hw : isW (byt s k) = true
        · have HGo : Hid (wdP s 0 = wdP s (k + 1)) := Lib.hid (HK.out.trans (wdP_go s k hlt hw))
          have hkd := kind_word3 hw
          rw [hby] at hkd
          go_wp2_with fail
          refine (kind_any _ (by omega) (by omega) _).mono ?_
          rintro e w' ⟨rfl, rfl⟩
          generalize kindS (s[k].toNat : Int) = kd at *
          rcases hkd with rfl | rfl | rfl
          · go_wp2_with fail
            exact ⟨⟨k + 1, hlt, rfl, HGo⟩, by rw [World.iter_heap, World.iter_heap]; exact Nat.sub_lt_sub_left hlt (Nat.lt_succ_self k)⟩
          · go_wp2_with fail
            exact ⟨⟨k + 1, hlt, rfl, HGo⟩, by rw [World.iter_heap, World.iter_heap]; exact Nat.sub_lt_sub_left hlt (Nat.lt_succ_self k)⟩
          · go_wp2_with fail
            exact ⟨⟨k + 1, hlt, rfl, HGo⟩, by rw [World.iter_heap, World.iter_heap]; exact Nat.sub_lt_sub_left hlt (Nat.lt_succ_self k)⟩
        · have HE : Hid (wdP s 0 = k) := Lib.hid (HK.out.trans (wdP_stop s k (by simpa using hw)))
          obtain ⟨⟨k1, k2, k3⟩, k4, k5, k6⟩ := kind_word0 (show isW (byt s k) = false by simpa using hw)
          rw [hby] at k1 k2 k3 k4 k5 k6
          have hsl := fun w => sl_h s k hk (j := (k : Int)) rfl w
          clear hw
          go_wp2_with fail
          refine (kind_any _ (by omega) (by omega) _).mono ?_
          rintro e w' ⟨rfl, rfl⟩
          generalize kindS (s[k].toNat : Int) = kd at *
          go_wp2_with fail
          go_ret
          exact ⟨ret_str (by rw [HE.out]), (Below.refl _ _).alloc (Nat.le_refl _) _⟩
      · have hdec := decode_high s k hlt (by omega)
        have hle := decode_le s k
        have hnx := fun ty => run_next_any (P := Tryd.prog) w s k ty hlt
        have hw : isW (byt s k) = false := high_word (by omega)
        have HE : Hid (wdP s 0 = k) := Lib.hid (HK.out.trans (wdP_stop s k hw))
        obtain ⟨r, hr⟩ : ∃ r, r = (Utf8.decode s k).1 := ⟨_, rfl⟩
        obtain ⟨z, hz⟩ : ∃ z, z = (Utf8.decode s k).2 := ⟨_, rfl⟩
        rw [← hr, ← hz] at hdec hnx
        rw [← hr] at hle
        have hsl := fun w => sl_h s k hk (j := (k : Int)) rfl w
        obtain ⟨⟨k1, k2, k3⟩, k4, k5, k6⟩ := kind_word0 (high_word (c := (r : Int)) (by omega))
        clear hr hz hw hby
        go_wp2_with fail
        refine (kind_any _ (by omega) (by omega) _).mono ?_
        rintro e w' ⟨rfl, rfl⟩
        generalize kindS (r : Int) = kd at *
        clear hdec hle
        go_wp2_with fail
        go_ret
        exact ⟨ret_str (by rw [HE.out]), (Below.refl _ _).alloc (Nat.le_refl _) _⟩
    · obtain rfl : k = s.size := by omega
      have HE : Hid (s.extract 0 (wdP s 0) = s) := Lib.hid (by rw [HK.out, wdP_end s s.size (Nat.le_refl _)]; exact ByteArray.extract_zero_size)
      have hnx := fun ty => run_next_end (P := Tryd.prog) w s s.size ty hlt
      go_wp2_with fail
      go_ret
      exact ⟨ret_str (by rw [HE.out]), (Below.refl _ _).alloc (Nat.le_refl _) _⟩
set_option maxHeartbeats 1600000 in
theorem rword_any (s : ByteArray) (hs : s.size ≤ 10000) (i : Nat) (hi : i ≤ s.size) {q : Nat} (hq : wdP s i = q) (w : World) :
    Calls Tryd.prog 37 #[.string s, .int .i64 (i : Int)] w fun e w' => e = .returned (.int .i64 (q : Int)) ∧ w = w' := by
  have HQ := Lib.hid hq
  clear hq
  go_enter Tryd.func37, Tryd.ntmps37
  go_wp2_with fail
  go_loop [1] (fun i => ∃ (k : Nat), k ≤ s.size ∧ i = .int .i64 (k : Int) ∧ Hid (wdP s k = q)) (fun i => s.size - (intOf i).toNat)
  case atStart => exact ⟨i, hi, rfl, HQ⟩
  case round =>
    obtain ⟨k, hk, rfl, HK⟩ := hrel
    by_cases hlt : k < s.size
    · have hx := fun w => ix_at s k hlt (i := (k : Int)) rfl w
      have HB := byt_bd s k
      have hW : isW (byt s k) = (letterB (byt s k) || digitB (byt s k) || byt s k == 95) := rfl
      have HGo : Hid (wdP s k = if isW (byt s k) then wdP s (k + 1) else k) := Lib.hid (by
        split
        · rename_i h; exact wdP_go s k hlt h
        · rename_i h; exact wdP_stop s k (by simpa using h))
      have HW := Lib.hid hW
      clear hW
      cases hl : letterB (byt s k) with
      | true =>
        rw [HW.out, hl] at HGo
        go_wp2_with (go_at_call 36; refine (rletter_any _ (by omega) (by omega) _).mono ?_; rintro e w' ⟨rfl, rfl⟩)
        go_round
        case rel => exact ⟨k + 1, by omega, by go_num, Lib.hid (HGo.out.symm.trans HK.out)⟩
        case measure => simp [intOf]; omega
      | false =>
        cases hd : digitB (byt s k) with
        | true =>
          rw [HW.out, hl, hd] at HGo
          go_wp2_with (first | (go_at_call 36; refine (rletter_any _ (by omega) (by omega) _).mono ?_; rintro e w' ⟨rfl, rfl⟩) | (go_at_call 51; refine (rdigit_any _ (by omega) (by omega) _).mono ?_; rintro e w' ⟨rfl, rfl⟩))
          go_round
          case rel => exact ⟨k + 1, by omega, by go_num, Lib.hid (HGo.out.symm.trans HK.out)⟩
          case measure => simp [intOf]; omega
        | false =>
          cases h95 : (byt s k == 95) with
          | true =>
            rw [HW.out, hl, hd, h95] at HGo
            go_wp2_with (first | (go_at_call 36; refine (rletter_any _ (by omega) (by omega) _).mono ?_; rintro e w' ⟨rfl, rfl⟩) | (go_at_call 51; refine (rdigit_any _ (by omega) (by omega) _).mono ?_; rintro e w' ⟨rfl, rfl⟩))
            go_round
            case rel => exact ⟨k + 1, by omega, by go_num, Lib.hid (HGo.out.symm.trans HK.out)⟩
            case measure => simp [intOf]; omega
          | false =>
            rw [HW.out, hl, hd, h95] at HGo
            have HE : Hid (k = q) := Lib.hid (HGo.out.symm.trans HK.out)
            go_wp2_with (first | (go_at_call 36; refine (rletter_any _ (by omega) (by omega) _).mono ?_; rintro e w' ⟨rfl, rfl⟩) | (go_at_call 51; refine (rdigit_any _ (by omega) (by omega) _).mono ?_; rintro e w' ⟨rfl, rfl⟩))
            go_ret
            exact ⟨ret_int (by rw [HE.out]), rfl⟩
    · obtain rfl : k = s.size := by omega
      have HE : Hid (s.size = q) := Lib.hid ((wdP_end s s.size (Nat.le_refl _)).symm.trans HK.out)
      go_wp2_with fail
      go_ret
      exact ⟨ret_int (by rw [HE.out]), rfl⟩
end Go.Proofs.YtklogijbdpghpaaDoor
