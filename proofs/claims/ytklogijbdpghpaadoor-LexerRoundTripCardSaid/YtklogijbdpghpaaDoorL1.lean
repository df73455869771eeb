/-
  CONTRACTS of the lexer: kinds of bytes, skipping, words: the program's and the specification's.
-/
import Derived.Test.YtklogijbdpghpaaDoorChecked
import Derived.Test.YtklogijbdpghpaaDoorLXM
import Derived.Laws.RangeAny
import Derived.Laws.Slices
import Derived.Lib.Hide
import Derived.Below
import Derived.WalkLawsBesides
namespace Go.Proofs.YtklogijbdpghpaaDoor
open Go.RowKit
set_option linter.unusedVariables false
set_option linter.unusedSimpArgs false
theorem ret_bool {a b : Bool} (h : a = b) : Ending.returned (.bool a) = .returned (.bool b) := by rw [h]
theorem ret_str {a b : ByteArray} (h : a = b) : Ending.returned (.string a) = .returned (.string b) := by rw [h]
theorem val_int {a b : Int} (h : a = b) : Value.int .i64 a = Value.int .i64 b := by rw [h]
theorem ret_int {k : IntKind} {a b : Int} (h : a = b) : Ending.returned (.int k a) = .returned (.int k b) := by rw [h]
theorem ix_at (s : ByteArray) (k : Nat) (h : k < s.size) {i : Int} (hi : i = k) (w : World) : (Instr.index 9 (.string s) (.int .i64 i)).run Tryd.prog w = .ok (.int .u8 (byt s k)) w := by
  subst hi
  rw [run_index_string w 9 s .i64 (k : Int) Tryd.underlying9, dif_pos ⟨by omega, by omega⟩, byt_get s k h]
  rfl
theorem sl_lh (s : ByteArray) (a b : Nat) (h1 : a ≤ b) (h2 : b ≤ s.size) {i j : Int} (hi : i = a) (hj : j = b) (w : World) : (Instr.slice 9 (.string s) (some (.int .i64 i)) (some (.int .i64 j)) none).run Tryd.prog w = .ok (.string (s.extract a b)) w := by
  subst hi
  subst hj
  rw [run_slice_string w 9 s .i64 .i64 (a : Int) (b : Int) Tryd.underlying9 (by omega) (by omega) (by omega)]
  rfl
theorem sl_h (s : ByteArray) (b : Nat) (h2 : b ≤ s.size) {j : Int} (hj : j = b) (w : World) : (Instr.slice 9 (.string s) none (some (.int .i64 j)) none).run Tryd.prog w = .ok (.string (s.extract 0 b)) w := by
  subst hj
  rw [run_slice_string_h w 9 s Tryd.underlying9 .i64 (b : Int) (by omega) (by omega)]
  rfl
theorem sl_l (s : ByteArray) (a : Nat) (h2 : a ≤ s.size) {i : Int} (hi : i = a) (w : World) : (Instr.slice 9 (.string s) (some (.int .i64 i)) none none).run Tryd.prog w = .ok (.string (s.extract a s.size)) w := by
  subst hi
  rw [run_slice_string_l w 9 s Tryd.underlying9 .i64 (a : Int) (by omega) (by omega)]
  rfl
theorem tletter_any (c : Int) (h0 : 0 ≤ c) (h1 : c ≤ 255) (w : World) :
    Calls Tryd.prog 56 #[.int .u8 c] w fun e w' => e = .returned (.bool (letterB c)) ∧ w = w' := by
  go_enter Tryd.func56, Tryd.ntmps56
  go_wp2
  all_goals go_ret
  all_goals exact ⟨ret_bool (by unfold letterB; rw [Bool.eq_iff_iff]; simp; omega), rfl⟩
theorem tdigit_any (c : Int) (h0 : 0 ≤ c) (h1 : c ≤ 255) (w : World) :
    Calls Tryd.prog 57 #[.int .u8 c] w fun e w' => e = .returned (.bool (digitB c)) ∧ w = w' := by
  go_enter Tryd.func57, Tryd.ntmps57
  go_wp2
  all_goals go_ret
  all_goals exact ⟨ret_bool (by unfold digitB; rw [Bool.eq_iff_iff]; simp; omega), rfl⟩
theorem rletter_any (c : Int) (h0 : 0 ≤ c) (h1 : c ≤ 255) (w : World) :
    Calls Tryd.prog 36 #[.int .u8 c] w fun e w' => e = .returned (.bool (letterB c)) ∧ w = w' := by
  go_enter Tryd.func36, Tryd.ntmps36
  go_wp2
  all_goals go_ret
  all_goals exact ⟨ret_bool (by unfold letterB; rw [Bool.eq_iff_iff]; simp; omega), rfl⟩
theorem rdigit_any (c : Int) (h0 : 0 ≤ c) (h1 : c ≤ 255) (w : World) :
    Calls Tryd.prog 51 #[.int .u8 c] w fun e w' => e = .returned (.bool (digitB c)) ∧ w = w' := by
  go_enter Tryd.func51, Tryd.ntmps51
  go_wp2
  all_goals go_ret
  all_goals exact ⟨ret_bool (by unfold digitB; rw [Bool.eq_iff_iff]; simp; omega), rfl⟩
/-- The kind of a character. -/
def kindS (c : Int) : Int := if letterB c then 3 else if digitB c then 4 else if isSp c then 1 else if c == 35 then 2 else if c == 95 then 5 else if c == 34 then 6 else if c == 33 then 8 else if isMk c then 7 else 0
theorem kind3 {c : Int} (h : (97 ≤ c ∧ c ≤ 122) ∨ (65 ≤ c ∧ c ≤ 90)) : (3 : Int) = kindS c := by
  unfold kindS; rw [if_pos (by unfold letterB; exact decide_eq_true h)]
theorem kind4 {c : Int} (h : 48 ≤ c ∧ c ≤ 57) : (4 : Int) = kindS c := by
  have h1 : letterB c = false := by unfold letterB; exact decide_eq_false (by omega)
  unfold kindS; rw [h1, if_neg Bool.false_ne_true, if_pos (by unfold digitB; exact decide_eq_true h)]
theorem kind1 {c : Int} (h : c = 32 ∨ c = 9 ∨ c = 10) : (1 : Int) = kindS c := by rcases h with rfl | rfl | rfl <;> rfl
theorem kind2 {c : Int} (h : c = 35) : (2 : Int) = kindS c := by subst h; rfl
theorem kind5 {c : Int} (h : c = 95) : (5 : Int) = kindS c := by subst h; rfl
theorem kind6 {c : Int} (h : c = 34) : (6 : Int) = kindS c := by subst h; rfl
theorem kind8 {c : Int} (h : c = 33) : (8 : Int) = kindS c := by subst h; rfl
theorem kind7 {c : Int} (h0 : c = 40 ∨ c = 41 ∨ c = 123 ∨ c = 125 ∨ c = 44 ∨ c = 59 ∨ c = 58 ∨ c = 61 ∨ c = 60 ∨ c = 62 ∨ c = 43 ∨ c = 45 ∨ c = 42 ∨ c = 37 ∨ c = 46) : (7 : Int) = kindS c := by
  rcases h0 with h | h | h | h | h | h | h | h | h | h | h | h | h | h | h <;> (subst h; rfl)
theorem kind0 {c : Int} (h1 : ¬ ((97 ≤ c ∧ c ≤ 122) ∨ (65 ≤ c ∧ c ≤ 90))) (h2 : ¬ (48 ≤ c ∧ c ≤ 57)) (h3 : ¬ (c = 32 ∨ c = 9 ∨ c = 10 ∨ c = 35 ∨ c = 95 ∨ c = 34 ∨ c = 33)) (h4 : ¬ (c = 40 ∨ c = 41 ∨ c = 123 ∨ c = 125 ∨ c = 44 ∨ c = 59 ∨ c = 58 ∨ c = 61 ∨ c = 60 ∨ c = 62 ∨ c = 43 ∨ c = 45 ∨ c = 42 ∨ c = 37 ∨ c = 46)) : (0 : Int) = kindS c := by
  have k8 : isMk c = false := by unfold isMk; simp; omega
  have k1 : letterB c = false := by unfold letterB; exact decide_eq_false h1
  have k2 : digitB c = false := by unfold digitB; exact decide_eq_false h2
  have k3 : isSp c = false := by unfold isSp; simp; omega
  have k4 : (c == 35) = false := beq_false_of_ne (by omega)
  have k5 : (c == 95) = false := beq_false_of_ne (by omega)
  have k6 : (c == 34) = false := beq_false_of_ne (by omega)
  have k7 : (c == 33) = false := beq_false_of_ne (by omega)
  unfold kindS
  rw [k1, k2, k3, k4, k5, k6, k7, k8]
  rfl
set_option maxHeartbeats 1600000 in
theorem kind_any (c : Int) (h0 : 0 ≤ c) (h1 : c ≤ 2147483647) (w : World) :
    Calls Tryd.prog 46 #[.int .i32 c] w fun e w' => e = .returned (.int .i64 (kindS c)) ∧ w = w' := by
  go_enter Tryd.func46, Tryd.ntmps46
  go_wp2
  all_goals go_ret
  all_goals refine ⟨ret_int ?_, rfl⟩
  all_goals try (simp only [beq_iff_eq, beq_eq_false_iff_ne, ne_eq] at *)
  all_goals first | exact kind3 (by omega) | exact kind4 (by omega) | exact kind1 (by omega) | exact kind2 (by omega) | exact kind5 (by omega) | exact kind6 (by omega) | exact kind8 (by omega) | exact kind7 (by omega) | exact kind0 (c := c) (by omega) (by omega) (by omega) (by omega)

theorem sp_iff (c : Int) : isSp c = true ↔ (c = 32 ∨ c = 9 ∨ c = 10) := by unfold isSp; simp; omega
theorem kind_sp {c : Int} : (kindS c == 1) = isSp c := by
  by_cases h : c = 32 ∨ c = 9 ∨ c = 10
  · rw [← kind1 h, (sp_iff c).2 h]; rfl
  · have h2 : isSp c = false := by rw [Bool.eq_false_iff]; exact fun hh => h ((sp_iff c).1 hh)
    rw [h2]
    unfold kindS
    rw [h2]
    (repeat' split) <;> first | rfl | contradiction
theorem kind_hash {c : Int} : (kindS c == 2) = (c == 35) := by
  by_cases h : c = 35
  · subst h; rfl
  · rw [beq_false_of_ne h]
    unfold kindS
    rw [beq_false_of_ne h]
    (repeat' split) <;> first | rfl | contradiction
theorem kind_word {c : Int} : (decide (kindS c ≠ 3) && decide (kindS c ≠ 4) && decide (kindS c ≠ 5)) = !isW c := by
  by_cases h1 : letterB c = true
  · unfold kindS isW; rw [h1]; rfl
  · by_cases h2 : digitB c = true
    · unfold kindS isW; rw [Bool.not_eq_true _ |>.mp h1, h2]; rfl
    · by_cases h3 : c = 95
      · subst h3; rfl
      · unfold kindS isW
        rw [Bool.not_eq_true _ |>.mp h1, Bool.not_eq_true _ |>.mp h2, beq_false_of_ne h3]
        (repeat' split) <;> first | rfl | contradiction
theorem skP_stop' (s : ByteArray) (b : Bool) (i : Nat) (h : i < s.size → go1 s b i = false) : skP s b i = i := by
  by_cases hl : i < s.size
  · exact skP_stop s b i (h hl)
  · exact skP_end s b i (by omega)
set_option maxHeartbeats 1600000 in
theorem rskip_any (s : ByteArray) (hs : s.size ≤ 10000) (i : Nat) (hi : i ≤ s.size) {q : Nat} (hq : skP s false i = q) (w : World) :
    Calls Tryd.prog 31 #[.string s, .int .i64 (i : Int)] w fun e w' => e = .returned (.int .i64 (q : Int)) ∧ w = w' := by
  have HQ := Lib.hid hq
  clear hq
  go_enter Tryd.func31, Tryd.ntmps31
  go_wp2_with fail
  go_loop [1, 5] (fun i b => ∃ (k : Nat) (c : Bool), k ≤ s.size ∧ i = .int .i64 (k : Int) ∧ b = .bool c ∧ Hid (skP s c k = q)) (fun i _ => s.size - (intOf i).toNat)
  case atStart => exact ⟨i, false, hi, rfl, rfl, HQ⟩
  case round =>
    obtain ⟨k, c, hk, rfl, rfl, HK⟩ := hrel
    by_cases hlt : k < s.size
    · have hx := fun w => ix_at s k hlt (i := (k : Int)) rfl w
      have HGo : Hid (skP s c k = if go1 s c k then skP s (go2 s c k) (k + 1) else k) := Lib.hid (by
        split
        · rename_i h; exact skP_go s c k hlt h
        · rename_i h; exact skP_stop s c k (by simpa using h))
      have HB := byt_bd s k
      unfold go1 go2 isSp at HGo
      generalize byt s k = x at *
      cases c
      · rcases (show x = 32 ∨ x = 9 ∨ x = 10 ∨ x = 35 ∨ ¬ (x = 32 ∨ x = 9 ∨ x = 10 ∨ x = 35) by omega) with rfl | rfl | rfl | rfl | hn
        · go_wp2_with fail
          go_round
          case rel => exact ⟨k + 1, _, by omega, by go_num, rfl, Lib.hid (HGo.out.symm.trans HK.out)⟩
          case measure => simp [intOf]; omega
        · go_wp2_with fail
          go_round
          case rel => exact ⟨k + 1, _, by omega, by go_num, rfl, Lib.hid (HGo.out.symm.trans HK.out)⟩
          case measure => simp [intOf]; omega
        · go_wp2_with fail
          go_round
          case rel => exact ⟨k + 1, _, by omega, by go_num, rfl, Lib.hid (HGo.out.symm.trans HK.out)⟩
          case measure => simp [intOf]; omega
        · go_wp2_with fail
          go_round
          case rel => exact ⟨k + 1, _, by omega, by go_num, rfl, Lib.hid (HGo.out.symm.trans HK.out)⟩
          case measure => simp [intOf]; omega
        · have e1 : (x == 32) = false := beq_false_of_ne (by omega)
          have e2 : (x == 9) = false := beq_false_of_ne (by omega)
          have e3 : (x == 10) = false := beq_false_of_ne (by omega)
          have e4 : (x == 35) = false := beq_false_of_ne (by omega)
          rw [e1, e2, e3, e4] at HGo
          have HE : Hid (k = q) := Lib.hid (HGo.out.symm.trans HK.out)
          clear hn
          go_wp2_with fail
          go_ret
          exact ⟨ret_int (by rw [HE.out]), rfl⟩
      · by_cases h10 : x = 10
        · subst h10
          go_wp2_with fail
          go_round
          case rel => exact ⟨k + 1, _, by omega, by go_num, rfl, Lib.hid (HGo.out.symm.trans HK.out)⟩
          case measure => simp [intOf]; omega
        · have e3 : (x == 10) = false := beq_false_of_ne h10
          have e4 : (x != 10) = true := by simp [h10]
          rw [e4] at HGo
          clear h10
          go_wp2_with fail
          go_round
          case rel => exact ⟨k + 1, _, by omega, by go_num, rfl, Lib.hid (HGo.out.symm.trans HK.out)⟩
          case measure => simp [intOf]; omega
    · obtain rfl : k = s.size := by omega
      have HE : Hid (s.size = q) := Lib.hid ((skP_end s c s.size (Nat.le_refl _)).symm.trans HK.out)
      go_wp2_with fail
      go_ret
      exact ⟨ret_int (by rw [HE.out]), rfl⟩
end Go.Proofs.YtklogijbdpghpaaDoor
