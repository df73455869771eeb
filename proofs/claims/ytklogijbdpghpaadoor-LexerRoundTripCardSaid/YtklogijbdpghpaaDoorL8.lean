/-
  CONTRACTS of the lexer: any lexeme of the program; the specification's texts and lexemes.
-/
import Derived.Test.YtklogijbdpghpaaDoorL7
namespace Go.Proofs.YtklogijbdpghpaaDoor
open Go.RowKit
set_option linter.unusedVariables false
set_option linter.unusedSimpArgs false
theorem lexeme_any (s : ByteArray) (hs : s.size ≤ 10000) (h0 : 0 < s.size) (w : World) (hEr : Errs w) (h5 : 5 ≤ w.heap.size) : Calls Tryd.prog 30 #[.string s] w fun e w' => LexR s e ∧ Below w.heap.size w w' := by
  cases hl : letterB (byt s 0) with
  | true => exact lex_letter s hs h0 hl w
  | false =>
    cases hd : digitB (byt s 0) with
    | true => exact lex_digit s hs h0 hl hd w hEr h5
    | false =>
      by_cases h34 : byt s 0 = 34
      · exact lex_quote s hs h0 h34 w
      · have h34b : (byt s 0 == 34) = false := beq_false_of_ne h34
        by_cases hm : isMk (byt s 0) = true
        · refine lex_mark s hs h0 hl hd h34b (.inl ⟨?_, hm, ?_⟩) w
          · unfold isMk at hm
            simp only [Bool.or_eq_true, beq_iff_eq] at hm
            exact (kind7 (by omega)).symm
          · intro h; rw [h] at hm; exact absurd hm (by decide)
        · have hmf : isMk (byt s 0) = false := by simpa using hm
          by_cases h33 : byt s 0 = 33
          · exact lex_mark s hs h0 hl hd h34b (.inr ⟨by rw [h33]; rfl, hmf, h33⟩) w
          · refine lex_other s hs h0 ?_ ?_ w
            · have hmk : mk2 s 0 = false := by
                unfold mk2
                have h60 : byt s 0 ≠ 60 := by intro h; rw [h] at hmf; exact absurd hmf (by decide)
                simp [h33, h60]
              unfold lexE
              rw [hl, hd, h34b, hmk, hmf]
              rfl
            · have hk : kindS (byt s 0) = if isSp (byt s 0) then 1 else if byt s 0 == 35 then 2 else if byt s 0 == 95 then 5 else 0 := by
                unfold kindS
                rw [hl, hd, h34b, beq_false_of_ne h33, hmf]
                rfl
              rw [hk]
              (repeat' split) <;> omega
/-- What the specification's lexeme answers at an offset. -/
def LexQ (s : ByteArray) (i : Nat) (e : Ending) : Prop := ∃ x n, e = .returned (.tuple #[lv x, .int .i64 n, .int .i64 (lexE s i)]) ∧ (lexE s i = 0 → x = lexX s i ∧ n = (lexN s i : Int))
def txtE (s : ByteArray) (i : Nat) : Int := if quP s (i + 1) < s.size ∧ prB s (i + 1) (quP s (i + 1)) then (if 100 < quP s (i + 1) - (i + 1) then 3 else 0) else 2
def TxtQ (s : ByteArray) (i : Nat) (e : Ending) : Prop := ∃ x n, e = .returned (.tuple #[lv x, .int .i64 n, .int .i64 (txtE s i)]) ∧ (txtE s i = 0 → x = ⟨3, s.extract (i + 1) (quP s (i + 1)), 0, i⟩ ∧ n = ((quP s (i + 1) : Nat) : Int) + 1)
set_option maxHeartbeats 1600000 in
theorem rtext_any (s : ByteArray) (hs : s.size ≤ 10000) (i : Nat) (hi : i < s.size) (w : World) : Calls Tryd.prog 53 #[.string s, .int .i64 (i : Int)] w fun e w' => TxtQ s i e ∧ Below w.heap.size w w' := by
  obtain ⟨q, hq⟩ : ∃ q, q = quP s (i + 1) := ⟨_, rfl⟩
  have hql := quP_le s (i + 1) hi
  have HQ := Lib.hid hq
  rw [← hq] at hql
  have HE : Hid (txtE s i = if q < s.size ∧ prB s (i + 1) q then (if 100 < q - (i + 1) then 3 else 0) else 2) := Lib.hid (by rw [hq]; rfl)
  clear hq
  go_enter Tryd.func53, Tryd.ntmps53
  go_wp2_with fail
  have hR0 : Blk (w.alloc (.cells #[.int .i64 0, .string ⟨#[]⟩, .int .i64 0, .int .i64 0] 30)) w.heap.size 30 #[.int .i64 0, .string ⟨#[]⟩, .int .i64 0, .int .i64 0] := Blk.new _ _ _
  have hW0 : Below w.heap.size w (w.alloc (.cells #[.int .i64 0, .string ⟨#[]⟩, .int .i64 0, .int .i64 0] 30)) := (Below.refl _ _).alloc (Nat.le_refl _) _
  generalize w.alloc (.cells #[.int .i64 0, .string ⟨#[]⟩, .int .i64 0, .int .i64 0] 30) = V0 at hR0 hW0 ⊢
  have HR := Lib.hid hR0
  have HW := Lib.hid hW0
  clear hR0 hW0
  go_loop [7] (fun v => ∃ k : Nat, i + 1 ≤ k ∧ k ≤ q ∧ v = .int .i64 (k : Int) ∧ Hid (∀ j, i + 1 ≤ j → j < k → 32 ≤ byt s j ∧ byt s j ≤ 126)) (fun v => s.size - (intOf v).toNat)
  case atStart => exact ⟨i + 1, Nat.le_refl _, hql.1, by first | rfl | go_num, Lib.hid fun j h1 h2 => by omega⟩
  case round =>
    obtain ⟨k, hk1, hk2, rfl, HA⟩ := hrel
    by_cases hlq : k < q
    · have hlt : k < s.size := by omega
      have hx := fun w => ix_at s k hlt (i := (k : Int)) rfl w
      have hB := byt_bd s k
      have hne : byt s k ≠ 34 := by have := (quP_spec s (i + 1) hi).2 k hk1 (by rw [← HQ.out]; exact hlq); exact this
      have e1 : (byt s k == 34) = false := beq_false_of_ne hne
      have e2 : (byt s k != 34) = true := by simp [hne]
      clear hne
      by_cases hlo : byt s k < 32
      · have HE2 : Hid (txtE s i = 2) := Lib.hid (by rw [HE.out, if_neg]; rintro ⟨-, h⟩; rw [prB_bad hk1 hlq (by omega)] at h; cases h)
        have d1 : decide (byt s k < 32) = true := decide_eq_true hlo
        clear hlo
        have r0 := HR.out.cell 0
        have r1 := HR.out.cell 1
        have r2 := HR.out.cell 2
        have r3 := HR.out.cell 3
        have rf0 := HR.out.frozen 0
        have rf1 := HR.out.frozen 1
        have rf2 := HR.out.frozen 2
        have rf3 := HR.out.frozen 3
        have rl := HR.out.lt
        simp at r0 r1 r2 r3
        go_wp2_with fail
        clear r0 r1 r2 r3 rf0 rf1 rf2 rf3 rl
        have hF := ((((HR.out.set_ 0 (.int .i64 0)).set_ 1 (.string ⟨#[]⟩)).set_ 2 (.int .i64 0)).set_ 3 (.int .i64 0))
        have f0 := hF.cell 0
        have f1 := hF.cell 1
        have f2 := hF.cell 2
        have f3 := hF.cell 3
        simp at f0 f1 f2 f3
        exact bodyPost_ret (v := .tuple #[.agg #[.int .i64 0, .string ⟨#[]⟩, .int .i64 0, .int .i64 0], .int .i64 0, .int .i64 2]) (by simp [results, Tryd.results53, go_sem, f0, f1, f2, f3]) rfl ⟨⟨Lx.zero, 0, by rw [HE2.out]; rfl, fun h => by rw [HE2.out] at h; cases h⟩, ((((HW.out.setCell (Nat.le_refl _) _).setCell (Nat.le_refl _) _).setCell (Nat.le_refl _) _).setCell (Nat.le_refl _) _)⟩
      · have d1 : decide (byt s k < 32) = false := decide_eq_false hlo
        by_cases hhi : 126 < byt s k
        · have HE2 : Hid (txtE s i = 2) := Lib.hid (by rw [HE.out, if_neg]; rintro ⟨-, h⟩; rw [prB_bad hk1 hlq (by omega)] at h; cases h)
          have d2 : decide (126 < byt s k) = true := decide_eq_true hhi
          clear hlo hhi
          have r0 := HR.out.cell 0
          have r1 := HR.out.cell 1
          have r2 := HR.out.cell 2
          have r3 := HR.out.cell 3
          have rf0 := HR.out.frozen 0
          have rf1 := HR.out.frozen 1
          have rf2 := HR.out.frozen 2
          have rf3 := HR.out.frozen 3
          have rl := HR.out.lt
          simp at r0 r1 r2 r3
          go_wp2_with fail
          clear r0 r1 r2 r3 rf0 rf1 rf2 rf3 rl
          have hF := ((((HR.out.set_ 0 (.int .i64 0)).set_ 1 (.string ⟨#[]⟩)).set_ 2 (.int .i64 0)).set_ 3 (.int .i64 0))
          have f0 := hF.cell 0
          have f1 := hF.cell 1
          have f2 := hF.cell 2
          have f3 := hF.cell 3
          simp at f0 f1 f2 f3
          exact bodyPost_ret (v := .tuple #[.agg #[.int .i64 0, .string ⟨#[]⟩, .int .i64 0, .int .i64 0], .int .i64 0, .int .i64 2]) (by simp [results, Tryd.results53, go_sem, f0, f1, f2, f3]) rfl ⟨⟨Lx.zero, 0, by rw [HE2.out]; rfl, fun h => by rw [HE2.out] at h; cases h⟩, ((((HW.out.setCell (Nat.le_refl _) _).setCell (Nat.le_refl _) _).setCell (Nat.le_refl _) _).setCell (Nat.le_refl _) _)⟩
        · have d2 : decide (126 < byt s k) = false := decide_eq_false hhi
          have HA2 : Hid (∀ j, i + 1 ≤ j → j < k + 1 → 32 ≤ byt s j ∧ byt s j ≤ 126) := Lib.hid fun j h0 h => by
            rcases Nat.lt_or_ge j k with h1 | h1
            · exact HA.out j h0 h1
            · obtain rfl : j = k := by omega
              omega
          clear hlo hhi
          go_wp2_with fail
          go_round
          case rel => exact ⟨k + 1, by omega, by omega, by go_num, HA2⟩
          case measure => simp [intOf]; omega
    · obtain rfl : k = q := by omega
      have hpr : prB s (i + 1) k = true := (prB_iff s (i + 1) k).2 fun j h1 h2 => HA.out j h1 h2
      by_cases hlt : k < s.size
      · have hx := fun w => ix_at s k hlt (i := (k : Int)) rfl w
        have h34 : byt s k = 34 := by have := (quP_spec s (i + 1) hi).1 (by rw [← HQ.out]; exact hlt); rw [← HQ.out] at this; exact this
        have e1 : (byt s k == 34) = true := by rw [h34]; rfl
        have e2 : (byt s k != 34) = false := by rw [h34]; rfl
        have e3 : ((k : Int) == (s.size : Int)) = false := beq_false_of_ne (by omega)
        have hE3 : txtE s i = if 100 < k - (i + 1) then 3 else 0 := by rw [HE.out, if_pos ⟨hlt, hpr⟩]
        clear h34 hpr
        by_cases h100 : 100 < k - (i + 1)
        · have HE2 : Hid (txtE s i = 3) := Lib.hid (by rw [hE3, if_pos h100])
          have d1 : decide ((100 : Int) < (k : Int) - (i : Int) - 1) = true := decide_eq_true (by omega)
          clear hE3 h100
          have r0 := HR.out.cell 0
          have r1 := HR.out.cell 1
          have r2 := HR.out.cell 2
          have r3 := HR.out.cell 3
          have rf0 := HR.out.frozen 0
          have rf1 := HR.out.frozen 1
          have rf2 := HR.out.frozen 2
          have rf3 := HR.out.frozen 3
          have rl := HR.out.lt
          simp at r0 r1 r2 r3
          go_wp2_with fail
          clear r0 r1 r2 r3 rf0 rf1 rf2 rf3 rl
          have hF := ((((HR.out.set_ 0 (.int .i64 0)).set_ 1 (.string ⟨#[]⟩)).set_ 2 (.int .i64 0)).set_ 3 (.int .i64 0))
          have f0 := hF.cell 0
          have f1 := hF.cell 1
          have f2 := hF.cell 2
          have f3 := hF.cell 3
          simp at f0 f1 f2 f3
          exact bodyPost_ret (v := .tuple #[.agg #[.int .i64 0, .string ⟨#[]⟩, .int .i64 0, .int .i64 0], .int .i64 0, .int .i64 3]) (by simp [results, Tryd.results53, go_sem, f0, f1, f2, f3]) rfl ⟨⟨Lx.zero, 0, by rw [HE2.out]; rfl, fun h => by rw [HE2.out] at h; cases h⟩, ((((HW.out.setCell (Nat.le_refl _) _).setCell (Nat.le_refl _) _).setCell (Nat.le_refl _) _).setCell (Nat.le_refl _) _)⟩
        · have HE2 : Hid (txtE s i = 0) := Lib.hid (by rw [hE3, if_neg h100])
          have d1 : decide ((100 : Int) < (k : Int) - (i : Int) - 1) = false := decide_eq_false (by omega)
          have hsl := fun w => sl_lh s (i + 1) k hk1 (by omega) (i := (i : Int) + 1) (j := (k : Int)) (by omega) rfl w
          have HQ2 : Hid (s.extract (i + 1) (quP s (i + 1)) = s.extract (i + 1) k ∧ quP s (i + 1) = k) := Lib.hid (by rw [← HQ.out]; exact ⟨rfl, rfl⟩)
          have hz := size_sub s (i + 1) k (by omega)
          generalize s.extract (i + 1) k = tt at *
          clear hE3 h100
          have r0 := HR.out.cell 0
          have r1 := HR.out.cell 1
          have r2 := HR.out.cell 2
          have r3 := HR.out.cell 3
          have rf0 := HR.out.frozen 0
          have rf1 := HR.out.frozen 1
          have rf2 := HR.out.frozen 2
          have rf3 := HR.out.frozen 3
          have rl := HR.out.lt
          simp at r0 r1 r2 r3
          go_wp2_with fail
          clear r0 r1 r2 r3 rf0 rf1 rf2 rf3 rl
          have hF := ((((HR.out.set_ 0 (.int .i64 3)).set_ 1 (.string tt)).set_ 2 (.int .i64 0)).set_ 3 (.int .i64 (i : Int)))
          have f0 := hF.cell 0
          have f1 := hF.cell 1
          have f2 := hF.cell 2
          have f3 := hF.cell 3
          simp at f0 f1 f2 f3
          exact bodyPost_ret (v := .tuple #[.agg #[.int .i64 3, .string tt, .int .i64 0, .int .i64 (i : Int)], .int .i64 ((k : Int) + 1), .int .i64 0]) (by simp [results, Tryd.results53, go_sem, f0, f1, f2, f3]) rfl ⟨⟨⟨3, tt, 0, (i : Int)⟩, ((k : Int) + 1), by rw [HE2.out]; rfl, fun _ => ⟨by rw [HQ2.out.1], by rw [HQ2.out.2]⟩⟩, ((((HW.out.setCell (Nat.le_refl _) _).setCell (Nat.le_refl _) _).setCell (Nat.le_refl _) _).setCell (Nat.le_refl _) _)⟩
      · obtain rfl : k = s.size := by omega
        have e3 : ((s.size : Int) == (s.size : Int)) = true := by simp
        have HE2 : Hid (txtE s i = 2) := Lib.hid (by rw [HE.out, if_neg (fun h => hlt h.1)])
        clear hpr
        have r0 := HR.out.cell 0
        have r1 := HR.out.cell 1
        have r2 := HR.out.cell 2
        have r3 := HR.out.cell 3
        have rf0 := HR.out.frozen 0
        have rf1 := HR.out.frozen 1
        have rf2 := HR.out.frozen 2
        have rf3 := HR.out.frozen 3
        have rl := HR.out.lt
        simp at r0 r1 r2 r3
        go_wp2_with fail
        clear r0 r1 r2 r3 rf0 rf1 rf2 rf3 rl
        have hF := ((((HR.out.set_ 0 (.int .i64 0)).set_ 1 (.string ⟨#[]⟩)).set_ 2 (.int .i64 0)).set_ 3 (.int .i64 0))
        have f0 := hF.cell 0
        have f1 := hF.cell 1
        have f2 := hF.cell 2
        have f3 := hF.cell 3
        simp at f0 f1 f2 f3
        exact bodyPost_ret (v := .tuple #[.agg #[.int .i64 0, .string ⟨#[]⟩, .int .i64 0, .int .i64 0], .int .i64 0, .int .i64 2]) (by simp [results, Tryd.results53, go_sem, f0, f1, f2, f3]) rfl ⟨⟨Lx.zero, 0, by rw [HE2.out]; rfl, fun h => by rw [HE2.out] at h; cases h⟩, ((((HW.out.setCell (Nat.le_refl _) _).setCell (Nat.le_refl _) _).setCell (Nat.le_refl _) _).setCell (Nat.le_refl _) _)⟩
end Go.Proofs.YtklogijbdpghpaaDoor
