/-
  CONTRACTS of the lexer: the specification's lexemes.
-/
import Derived.Test.YtklogijbdpghpaaDoorL8
namespace Go.Proofs.YtklogijbdpghpaaDoor
open Go.RowKit
set_option linter.unusedVariables false
set_option linter.unusedSimpArgs false
set_option maxHeartbeats 1600000 in
theorem rlex_letter (s : ByteArray) (hs : s.size ≤ 10000) (i : Nat) (hi : i < s.size) (hl : letterB (byt s i) = true) (w : World) : Calls Tryd.prog 32 #[.string s, .int .i64 (i : Int)] w fun e w' => LexQ s i e ∧ Below w.heap.size w w' := by
  have hx := fun w => ix_at s i hi (i := (i : Int)) rfl w
  have hB := byt_bd s i
  have hw := wdP_le s i (by omega)
  have hE : lexE s i = if 16 < wdP s i - i then 3 else 0 := by unfold lexE; rw [hl]; rfl
  have hN : lexN s i = wdP s i := by unfold lexN; rw [hl]; rfl
  have hX : lexX s i = ⟨1, s.extract i (wdP s i), 0, i⟩ := by unfold lexX; rw [hl]; rfl
  obtain ⟨q, hq⟩ : ∃ q, wdP s i = q := ⟨_, rfl⟩
  have WD := Lib.hid (fun w => rword_any s hs i (by omega) hq w)
  rw [hq] at hE hN hX hw
  clear hq
  go_enter Tryd.func32, Tryd.ntmps32
  go_wp2_with fail
  have hR0 : Blk (w.alloc (.cells #[.int .i64 0, .string ⟨#[]⟩, .int .i64 0, .int .i64 0] 30)) w.heap.size 30 #[.int .i64 0, .string ⟨#[]⟩, .int .i64 0, .int .i64 0] := Blk.new _ _ _
  have hW0 : Below w.heap.size w (w.alloc (.cells #[.int .i64 0, .string ⟨#[]⟩, .int .i64 0, .int .i64 0] 30)) := (Below.refl _ _).alloc (Nat.le_refl _) _
  generalize w.alloc (.cells #[.int .i64 0, .string ⟨#[]⟩, .int .i64 0, .int .i64 0] 30) = V0 at hR0 hW0 ⊢
  have HR := Lib.hid hR0
  have HW := Lib.hid hW0
  clear hR0 hW0
  refine (rletter_any _ (by omega) (by omega) _).mono ?_
  rintro e w' ⟨rfl, rfl⟩
  rw [hl]
  clear hl
  go_wp2_with fail
  refine (WD.out _).mono ?_
  rintro e w1 ⟨rfl, rfl⟩
  by_cases h16 : 16 < q - i
  · have d1 : decide ((16 : Int) < (q : Int) - (i : Int)) = true := decide_eq_true (by omega)
    rw [if_pos h16] at hE
    have HE := Lib.hid hE
    clear hE hN hX h16
    have r0 := HR.out.cell 0
    have r1 := HR.out.cell 1
    have r2 := HR.out.cell 2
    have r3 := HR.out.cell 3
    have rf0 := HR.out.frozen 0
    have rf1 := HR.out.frozen 1
    have rf2 := HR.out.frozen 2
    have rf3 := HR.out.frozen 3
    have rl := HR.out.lt
    simp at r0 r1 r2 r3
    go_wp2_with fail
    clear r0 r1 r2 r3 rf0 rf1 rf2 rf3 rl
    have hF := ((((HR.out.set_ 0 (.int .i64 0)).set_ 1 (.string ⟨#[]⟩)).set_ 2 (.int .i64 0)).set_ 3 (.int .i64 0))
    have f0 := hF.cell 0
    have f1 := hF.cell 1
    have f2 := hF.cell 2
    have f3 := hF.cell 3
    simp at f0 f1 f2 f3
    exact bodyPost_ret (v := .tuple #[.agg #[.int .i64 0, .string ⟨#[]⟩, .int .i64 0, .int .i64 0], .int .i64 0, .int .i64 3]) (by simp [results, Tryd.results32, go_sem, f0, f1, f2, f3]) rfl ⟨⟨Lx.zero, 0, by rw [HE.out]; rfl, fun h => by rw [HE.out] at h; cases h⟩, ((((HW.out.setCell (Nat.le_refl _) _).setCell (Nat.le_refl _) _).setCell (Nat.le_refl _) _).setCell (Nat.le_refl _) _)⟩
  · have d1 : decide ((16 : Int) < (q : Int) - (i : Int)) = false := decide_eq_false (by omega)
    rw [if_neg h16] at hE
    have hsl := fun w => sl_lh s i q hw.1 hw.2 (i := (i : Int)) (j := (q : Int)) rfl rfl w
    have hz := size_sub s i q hw.2
    generalize s.extract i q = tt at *
    have HE := Lib.hid hE
    have HN := Lib.hid hN
    have HX := Lib.hid hX
    clear hE hN hX h16
    have r0 := HR.out.cell 0
    have r1 := HR.out.cell 1
    have r2 := HR.out.cell 2
    have r3 := HR.out.cell 3
    have rf0 := HR.out.frozen 0
    have rf1 := HR.out.frozen 1
    have rf2 := HR.out.frozen 2
    have rf3 := HR.out.frozen 3
    have rl := HR.out.lt
    simp at r0 r1 r2 r3
    go_wp2_with fail
    clear r0 r1 r2 r3 rf0 rf1 rf2 rf3 rl
    have hF := ((((HR.out.set_ 0 (.int .i64 1)).set_ 1 (.string tt)).set_ 2 (.int .i64 0)).set_ 3 (.int .i64 (i : Int)))
    have f0 := hF.cell 0
    have f1 := hF.cell 1
    have f2 := hF.cell 2
    have f3 := hF.cell 3
    simp at f0 f1 f2 f3
    exact bodyPost_ret (v := .tuple #[.agg #[.int .i64 1, .string tt, .int .i64 0, .int .i64 (i : Int)], .int .i64 (q : Int), .int .i64 0]) (by simp [results, Tryd.results32, go_sem, f0, f1, f2, f3]) rfl ⟨⟨⟨1, tt, 0, (i : Int)⟩, (q : Int), by rw [HE.out]; rfl, fun _ => ⟨HX.out.symm, by rw [HN.out]⟩⟩, ((((HW.out.setCell (Nat.le_refl _) _).setCell (Nat.le_refl _) _).setCell (Nat.le_refl _) _).setCell (Nat.le_refl _) _)⟩
set_option maxHeartbeats 1600000 in
theorem rlex_digit (s : ByteArray) (hs : s.size ≤ 10000) (i : Nat) (hi : i < s.size) (hl : letterB (byt s i) = false) (hd : digitB (byt s i) = true) (w : World) : Calls Tryd.prog 32 #[.string s, .int .i64 (i : Int)] w fun e w' => LexQ s i e ∧ Below w.heap.size w w' := by
  have hx := fun w => ix_at s i hi (i := (i : Int)) rfl w
  have hB := byt_bd s i
  have hw := wdP_le s i (by omega)
  have hw1 : i + 1 ≤ wdP s i := by
    rw [wdP_go s i hi (by unfold isW; rw [hd]; simp)]
    exact (wdP_le s (i + 1) hi).1
  have hE : lexE s i = numE (s.extract i (wdP s i)) := by unfold lexE; rw [hl, hd]; rfl
  have hN : lexN s i = wdP s i := by unfold lexN; rw [hl, hd]; rfl
  have hX : lexX s i = ⟨2, ⟨#[]⟩, numN (s.extract i (wdP s i)), i⟩ := by unfold lexX; rw [hl, hd]; rfl
  obtain ⟨q, hq⟩ : ∃ q, wdP s i = q := ⟨_, rfl⟩
  have WD := Lib.hid (fun w => rword_any s hs i (by omega) hq w)
  rw [hq] at hE hN hX hw hw1
  have hsl := fun w => sl_lh s i q hw.1 hw.2 (i := (i : Int)) (j := (q : Int)) rfl rfl w
  have hz := size_sub s i q hw.2
  generalize s.extract i q = tt at *
  obtain ⟨n, hn⟩ : ∃ n, numN tt = n := ⟨_, rfl⟩
  obtain ⟨c, hc⟩ : ∃ c, numE tt = c := ⟨_, rfl⟩
  have NU := Lib.hid (fun w => rnumber_any tt (by omega) (by omega) w hn hc)
  rw [hn] at hX
  rw [hc] at hE
  have hc0 := numE_cases tt
  rw [hc] at hc0
  have HE := Lib.hid hE
  have HN := Lib.hid hN
  have HX := Lib.hid hX
  clear hq hn hc hE hN hX hw1
  go_enter Tryd.func32, Tryd.ntmps32
  go_wp2_with fail
  have hR0 : Blk (w.alloc (.cells #[.int .i64 0, .string ⟨#[]⟩, .int .i64 0, .int .i64 0] 30)) w.heap.size 30 #[.int .i64 0, .string ⟨#[]⟩, .int .i64 0, .int .i64 0] := Blk.new _ _ _
  have hW0 : Below w.heap.size w (w.alloc (.cells #[.int .i64 0, .string ⟨#[]⟩, .int .i64 0, .int .i64 0] 30)) := (Below.refl _ _).alloc (Nat.le_refl _) _
  generalize w.alloc (.cells #[.int .i64 0, .string ⟨#[]⟩, .int .i64 0, .int .i64 0] 30) = V0 at hR0 hW0 ⊢
  have HR := Lib.hid hR0
  have HW := Lib.hid hW0
  clear hR0 hW0
  refine (rletter_any _ (by omega) (by omega) _).mono ?_
  rintro e w' ⟨rfl, rfl⟩
  rw [hl]
  clear hl
  go_wp2_with fail
  refine (rdigit_any _ (by omega) (by omega) _).mono ?_
  rintro e w' ⟨rfl, rfl⟩
  rw [hd]
  clear hd
  go_wp2_with fail
  refine (WD.out _).mono ?_
  rintro e w1 ⟨rfl, rfl⟩
  go_wp2_with fail
  refine (NU.out _).mono ?_
  rintro e w1 ⟨rfl, rfl⟩
  by_cases hz0 : c = 0
  · subst hz0
    have r0 := HR.out.cell 0
    have r1 := HR.out.cell 1
    have r2 := HR.out.cell 2
    have r3 := HR.out.cell 3
    have rf0 := HR.out.frozen 0
    have rf1 := HR.out.frozen 1
    have rf2 := HR.out.frozen 2
    have rf3 := HR.out.frozen 3
    have rl := HR.out.lt
    simp at r0 r1 r2 r3
    go_wp2_with fail
    clear r0 r1 r2 r3 rf0 rf1 rf2 rf3 rl
    have hF := ((((HR.out.set_ 0 (.int .i64 2)).set_ 1 (.string ⟨#[]⟩)).set_ 2 (.int .i64 n)).set_ 3 (.int .i64 (i : Int)))
    have f0 := hF.cell 0
    have f1 := hF.cell 1
    have f2 := hF.cell 2
    have f3 := hF.cell 3
    simp at f0 f1 f2 f3
    exact bodyPost_ret (v := .tuple #[.agg #[.int .i64 2, .string ⟨#[]⟩, .int .i64 n, .int .i64 (i : Int)], .int .i64 (q : Int), .int .i64 0]) (by simp [results, Tryd.results32, go_sem, f0, f1, f2, f3]) rfl ⟨⟨⟨2, ⟨#[]⟩, n, (i : Int)⟩, (q : Int), by rw [HE.out]; rfl, fun _ => ⟨HX.out.symm, by rw [HN.out]⟩⟩, ((((HW.out.setCell (Nat.le_refl _) _).setCell (Nat.le_refl _) _).setCell (Nat.le_refl _) _).setCell (Nat.le_refl _) _)⟩
  · have e1 : (c == 0) = false := beq_false_of_ne hz0
    have e2 : (c != 0) = true := by simp [hz0]
    have HZ := Lib.hid hz0
    clear hz0 hc0
    have r0 := HR.out.cell 0
    have r1 := HR.out.cell 1
    have r2 := HR.out.cell 2
    have r3 := HR.out.cell 3
    have rf0 := HR.out.frozen 0
    have rf1 := HR.out.frozen 1
    have rf2 := HR.out.frozen 2
    have rf3 := HR.out.frozen 3
    have rl := HR.out.lt
    simp at r0 r1 r2 r3
    go_wp2_with fail
    clear r0 r1 r2 r3 rf0 rf1 rf2 rf3 rl
    have hF := ((((HR.out.set_ 0 (.int .i64 0)).set_ 1 (.string ⟨#[]⟩)).set_ 2 (.int .i64 0)).set_ 3 (.int .i64 0))
    have f0 := hF.cell 0
    have f1 := hF.cell 1
    have f2 := hF.cell 2
    have f3 := hF.cell 3
    simp at f0 f1 f2 f3
    exact bodyPost_ret (v := .tuple #[.agg #[.int .i64 0, .string ⟨#[]⟩, .int .i64 0, .int .i64 0], .int .i64 0, .int .i64 c]) (by simp [results, Tryd.results32, go_sem, f0, f1, f2, f3]) rfl ⟨⟨Lx.zero, 0, by rw [HE.out]; rfl, fun h => absurd (HE.out.symm.trans h) HZ.out⟩, ((((HW.out.setCell (Nat.le_refl _) _).setCell (Nat.le_refl _) _).setCell (Nat.le_refl _) _).setCell (Nat.le_refl _) _)⟩
set_option maxHeartbeats 1600000 in
theorem rlex_quote (s : ByteArray) (hs : s.size ≤ 10000) (i : Nat) (hi : i < s.size) (hx34 : byt s i = 34) (w : World) : Calls Tryd.prog 32 #[.string s, .int .i64 (i : Int)] w fun e w' => LexQ s i e ∧ Below w.heap.size w w' := by
  have hx := fun w => ix_at s i hi (i := (i : Int)) rfl w
  have hB := byt_bd s i
  have hl : letterB (byt s i) = false := by rw [hx34]; rfl
  have hd : digitB (byt s i) = false := by rw [hx34]; rfl
  have h34 : (byt s i == 34) = true := by rw [hx34]; rfl
  have hE : lexE s i = txtE s i := by unfold lexE txtE; rw [hl, hd, h34]; rfl
  have hN : lexN s i = quP s (i + 1) + 1 := by unfold lexN; rw [hl, hd, h34]; rfl
  have hX : lexX s i = ⟨3, s.extract (i + 1) (quP s (i + 1)), 0, i⟩ := by unfold lexX; rw [hl, hd, h34]; rfl
  have TX := Lib.hid (fun w => rtext_any s hs i hi w)
  have HE := Lib.hid hE
  have HN := Lib.hid hN
  have HX := Lib.hid hX
  clear hE hN hX hx34
  go_enter Tryd.func32, Tryd.ntmps32
  go_wp2_with fail
  have hR0 : Blk (w.alloc (.cells #[.int .i64 0, .string ⟨#[]⟩, .int .i64 0, .int .i64 0] 30)) w.heap.size 30 #[.int .i64 0, .string ⟨#[]⟩, .int .i64 0, .int .i64 0] := Blk.new _ _ _
  have hW0 : Below w.heap.size w (w.alloc (.cells #[.int .i64 0, .string ⟨#[]⟩, .int .i64 0, .int .i64 0] 30)) := (Below.refl _ _).alloc (Nat.le_refl _) _
  generalize w.alloc (.cells #[.int .i64 0, .string ⟨#[]⟩, .int .i64 0, .int .i64 0] 30) = V0 at hR0 hW0 ⊢
  have HR := Lib.hid hR0
  have HW := Lib.hid hW0
  clear hR0 hW0
  refine (rletter_any _ (by omega) (by omega) _).mono ?_
  rintro e w' ⟨rfl, rfl⟩
  rw [hl]
  clear hl
  go_wp2_with fail
  refine (rdigit_any _ (by omega) (by omega) _).mono ?_
  rintro e w' ⟨rfl, rfl⟩
  rw [hd]
  clear hd
  go_wp2_with fail
  refine (TX.out _).mono ?_
  rintro e w1 ⟨⟨x, n, rfl, hQ⟩, hb⟩
  have HQ := Lib.hid hQ
  clear hQ
  unfold lv
  obtain ⟨xk, xt, xn, xp⟩ := x
  have HR2 := Lib.hid (HR.out.below hb HR.out.lt)
  have HW2 := Lib.hid (HW.out.trans (hb.mono HW.out.size))
  clear HR HW hb
  have HR := HR2
  have HW := HW2
  clear HR2 HW2
  generalize hc : txtE s i = c at *
  have HC := Lib.hid hc
  clear hc
  have r0 := HR.out.cell 0
  have r1 := HR.out.cell 1
  have r2 := HR.out.cell 2
  have r3 := HR.out.cell 3
  have rf0 := HR.out.frozen 0
  have rf1 := HR.out.frozen 1
  have rf2 := HR.out.frozen 2
  have rf3 := HR.out.frozen 3
  have rl := HR.out.lt
  simp at r0 r1 r2 r3
  go_wp2_with fail
  clear r0 r1 r2 r3 rf0 rf1 rf2 rf3 rl
  have hF := ((((HR.out.set_ 0 (.int .i64 xk)).set_ 1 (.string xt)).set_ 2 (.int .i64 xn)).set_ 3 (.int .i64 xp))
  have f0 := hF.cell 0
  have f1 := hF.cell 1
  have f2 := hF.cell 2
  have f3 := hF.cell 3
  simp at f0 f1 f2 f3
  exact bodyPost_ret (v := .tuple #[.agg #[.int .i64 xk, .string xt, .int .i64 xn, .int .i64 xp], .int .i64 n, .int .i64 c]) (by simp [results, Tryd.results32, go_sem, f0, f1, f2, f3]) rfl ⟨⟨⟨xk, xt, xn, xp⟩, n, by rw [HE.out]; rfl, fun h => ⟨(HQ.out (HE.out.symm.trans h)).1.trans HX.out.symm, by rw [HN.out]; exact (HQ.out (HE.out.symm.trans h)).2⟩⟩, ((((HW.out.setCell (Nat.le_refl _) _).setCell (Nat.le_refl _) _).setCell (Nat.le_refl _) _).setCell (Nat.le_refl _) _)⟩
theorem index_mark (c : Int) (h0 : 0 ≤ c) (h1 : c ≤ 255) : decide (0 ≤ Lib.indexByte [40, 41, 123, 125, 44, 59, 58, 61, 60, 62, 43, 45, 42, 37, 46] c.toNat.toUInt8) = isMk c := by
  obtain ⟨n, rfl⟩ := Int.eq_ofNat_of_zero_le h0
  have key : ∀ m : Fin 256, decide (0 ≤ Lib.indexByte [40, 41, 123, 125, 44, 59, 58, 61, 60, 62, 43, 45, 42, 37, 46] (((m.val : Nat) : Int).toNat.toUInt8)) = isMk ((m.val : Nat) : Int) := by decide +kernel
  exact key ⟨n, by omega⟩
set_option maxHeartbeats 3200000 in
theorem rlex_mark (s : ByteArray) (hs : s.size ≤ 10000) (i : Nat) (hi : i < s.size) (hl : letterB (byt s i) = false) (hd : digitB (byt s i) = false) (h34 : (byt s i == 34) = false) (w : World) : Calls Tryd.prog 32 #[.string s, .int .i64 (i : Int)] w fun e w' => LexQ s i e ∧ Below w.heap.size w w' := by
  have hx := fun w => ix_at s i hi (i := (i : Int)) rfl w
  have hB := byt_bd s i
  have hsl := fun w => sl_l s i (by omega) (i := (i : Int)) rfl w
  rw [show s.extract i s.size = off s i from rfl] at hsl
  have HP1 := Lib.hid (fun w => Tryd.strings_HasPrefix (off s i) ⟨#[33, 61]⟩ w)
  have HP2 := Lib.hid (fun w => Tryd.strings_HasPrefix (off s i) ⟨#[60, 61]⟩ w)
  have IB := Lib.hid (fun w => Tryd.strings_IndexByte ⟨#[40, 41, 123, 125, 44, 59, 58, 61, 60, 62, 43, 45, 42, 37, 46]⟩ (byt s i) w)
  have IM := index_mark (byt s i) hB.1 hB.2
  rw [show (⟨#[33, 61]⟩ : ByteArray).data.toList = [33, 61] from rfl, prefix2, off_size, off_byt, off_byt, Nat.add_zero] at HP1
  rw [show (⟨#[60, 61]⟩ : ByteArray).data.toList = [60, 61] from rfl, prefix2, off_size, off_byt, off_byt, Nat.add_zero] at HP2
  have hM : mk2 s i = ((decide (1 < s.size - i) && byt s i == ((33 : UInt8).toNat : Int) && byt s (i + 1) == ((61 : UInt8).toNat : Int)) || (decide (1 < s.size - i) && byt s i == ((60 : UInt8).toNat : Int) && byt s (i + 1) == ((61 : UInt8).toNat : Int))) := by
    unfold mk2
    rw [show decide (i + 1 < s.size) = decide (1 < s.size - i) from by rw [decide_eq_decide]; omega]
    show (decide (1 < s.size - i) && byt s (i + 1) == 61 && (byt s i == 33 || byt s i == 60)) = ((decide (1 < s.size - i) && byt s i == 33 && byt s (i + 1) == 61) || (decide (1 < s.size - i) && byt s i == 60 && byt s (i + 1) == 61))
    cases decide (1 < s.size - i) <;> cases byt s (i + 1) == 61 <;> cases byt s i == 33 <;> cases byt s i == 60 <;> rfl
  have hz : mk2 s i = true → i + 2 ≤ s.size := fun h => by
    unfold mk2 at h
    simp at h
    omega
  have hE : lexE s i = if mk2 s i then 0 else if isMk (byt s i) then 0 else 2 := by unfold lexE; rw [hl, hd, h34]; rfl
  have hN : lexN s i = if mk2 s i then i + 2 else i + 1 := by unfold lexN; rw [hl, hd, h34]; rfl
  have hX : lexX s i = ⟨4, s.extract i (lexN s i), 0, i⟩ := by unfold lexX; rw [hl, hd, h34]; rfl
  have HM := Lib.hid hM
  clear hM
  generalize (decide (1 < s.size - i) && byt s i == ((33 : UInt8).toNat : Int) && byt s (i + 1) == ((61 : UInt8).toNat : Int)) = b1 at *
  generalize (decide (1 < s.size - i) && byt s i == ((60 : UInt8).toNat : Int) && byt s (i + 1) == ((61 : UInt8).toNat : Int)) = b2 at *
  generalize Lib.indexByte [40, 41, 123, 125, 44, 59, 58, 61, 60, 62, 43, 45, 42, 37, 46] (byt s i).toNat.toUInt8 = ib at *
  obtain ⟨m, hm⟩ : ∃ m, mk2 s i = m := ⟨_, rfl⟩
  rw [hm] at HM hz hE hN
  have HIB : Hid (∀ w, Calls Tryd.prog 54 #[.string ⟨#[40, 41, 123, 125, 44, 59, 58, 61, 60, 62, 43, 45, 42, 37, 46]⟩, .int .u8 (byt s i)] w fun e w' => e = .returned (.int .i64 ib) ∧ w' = w) := IB
  clear IB hm
  go_enter Tryd.func32, Tryd.ntmps32
  go_wp2_with fail
  have hR0 : Blk (w.alloc (.cells #[.int .i64 0, .string ⟨#[]⟩, .int .i64 0, .int .i64 0] 30)) w.heap.size 30 #[.int .i64 0, .string ⟨#[]⟩, .int .i64 0, .int .i64 0] := Blk.new _ _ _
  have hW0 : Below w.heap.size w (w.alloc (.cells #[.int .i64 0, .string ⟨#[]⟩, .int .i64 0, .int .i64 0] 30)) := (Below.refl _ _).alloc (Nat.le_refl _) _
  generalize w.alloc (.cells #[.int .i64 0, .string ⟨#[]⟩, .int .i64 0, .int .i64 0] 30) = V0 at hR0 hW0 ⊢
  have HR := Lib.hid hR0
  have HW := Lib.hid hW0
  clear hR0 hW0
  refine (rletter_any _ (by omega) (by omega) _).mono ?_
  rintro e w' ⟨rfl, rfl⟩
  rw [hl]
  clear hl
  go_wp2_with fail
  refine (rdigit_any _ (by omega) (by omega) _).mono ?_
  rintro e w' ⟨rfl, rfl⟩
  rw [hd]
  clear hd
  go_wp2_with fail
  refine (HP1.out _).mono ?_
  rintro e w1 ⟨rfl, rfl⟩
  cases b1 with
  | true =>
    obtain rfl : m = true := HM.out
    have h2 := hz rfl
    rw [if_pos rfl] at hE hN
    rw [hN] at hX
    have hs2 := fun w => sl_lh s i (i + 2) (by omega) h2 (i := (i : Int)) (j := (i : Int) + 2) rfl (by omega) w
    generalize s.extract i (i + 2) = tt at *
    have HE := Lib.hid hE
    have HN := Lib.hid hN
    have HX := Lib.hid hX
    clear hE hN hX hz IM
    have r0 := HR.out.cell 0
    have r1 := HR.out.cell 1
    have r2 := HR.out.cell 2
    have r3 := HR.out.cell 3
    have rf0 := HR.out.frozen 0
    have rf1 := HR.out.frozen 1
    have rf2 := HR.out.frozen 2
    have rf3 := HR.out.frozen 3
    have rl := HR.out.lt
    simp at r0 r1 r2 r3
    go_wp2_with fail
    clear r0 r1 r2 r3 rf0 rf1 rf2 rf3 rl
    have hF := ((((HR.out.set_ 0 (.int .i64 4)).set_ 1 (.string tt)).set_ 2 (.int .i64 0)).set_ 3 (.int .i64 (i : Int)))
    have f0 := hF.cell 0
    have f1 := hF.cell 1
    have f2 := hF.cell 2
    have f3 := hF.cell 3
    simp at f0 f1 f2 f3
    exact bodyPost_ret (v := .tuple #[.agg #[.int .i64 4, .string tt, .int .i64 0, .int .i64 (i : Int)], .int .i64 ((i : Int) + 2), .int .i64 0]) (by simp [results, Tryd.results32, go_sem, f0, f1, f2, f3]) rfl ⟨⟨⟨4, tt, 0, (i : Int)⟩, ((i : Int) + 2), by rw [HE.out]; rfl, fun _ => ⟨HX.out.symm, by rw [HN.out]; omega⟩⟩, ((((HW.out.setCell (Nat.le_refl _) _).setCell (Nat.le_refl _) _).setCell (Nat.le_refl _) _).setCell (Nat.le_refl _) _)⟩
  | false =>
    go_wp2_with fail
    refine (HP2.out _).mono ?_
    rintro e w1 ⟨rfl, rfl⟩
    cases b2 with
    | true =>
      obtain rfl : m = true := HM.out
      have h2 := hz rfl
      rw [if_pos rfl] at hE hN
      rw [hN] at hX
      have hs2 := fun w => sl_lh s i (i + 2) (by omega) h2 (i := (i : Int)) (j := (i : Int) + 2) rfl (by omega) w
      generalize s.extract i (i + 2) = tt at *
      have HE := Lib.hid hE
      have HN := Lib.hid hN
      have HX := Lib.hid hX
      clear hE hN hX hz IM
      have r0 := HR.out.cell 0
      have r1 := HR.out.cell 1
      have r2 := HR.out.cell 2
      have r3 := HR.out.cell 3
      have rf0 := HR.out.frozen 0
      have rf1 := HR.out.frozen 1
      have rf2 := HR.out.frozen 2
      have rf3 := HR.out.frozen 3
      have rl := HR.out.lt
      simp at r0 r1 r2 r3
      go_wp2_with fail
      clear r0 r1 r2 r3 rf0 rf1 rf2 rf3 rl
      have hF := ((((HR.out.set_ 0 (.int .i64 4)).set_ 1 (.string tt)).set_ 2 (.int .i64 0)).set_ 3 (.int .i64 (i : Int)))
      have f0 := hF.cell 0
      have f1 := hF.cell 1
      have f2 := hF.cell 2
      have f3 := hF.cell 3
      simp at f0 f1 f2 f3
      exact bodyPost_ret (v := .tuple #[.agg #[.int .i64 4, .string tt, .int .i64 0, .int .i64 (i : Int)], .int .i64 ((i : Int) + 2), .int .i64 0]) (by simp [results, Tryd.results32, go_sem, f0, f1, f2, f3]) rfl ⟨⟨⟨4, tt, 0, (i : Int)⟩, ((i : Int) + 2), by rw [HE.out]; rfl, fun _ => ⟨HX.out.symm, by rw [HN.out]; omega⟩⟩, ((((HW.out.setCell (Nat.le_refl _) _).setCell (Nat.le_refl _) _).setCell (Nat.le_refl _) _).setCell (Nat.le_refl _) _)⟩
    | false =>
      obtain rfl : m = false := HM.out
      rw [if_neg (by simp)] at hE hN
      rw [hN] at hX
      go_wp2_with fail
      refine (HIB.out _).mono ?_
      rintro e w1 ⟨rfl, rfl⟩
      cases hmk : isMk (byt s i) with
      | true =>
        rw [hmk] at hE IM
        rw [if_pos rfl] at hE
        have hs2 := fun w => sl_lh s i (i + 1) (by omega) hi (i := (i : Int)) (j := (i : Int) + 1) rfl (by omega) w
        generalize s.extract i (i + 1) = tt at *
        have HE := Lib.hid hE
        have HN := Lib.hid hN
        have HX := Lib.hid hX
        clear hE hN hX hz hmk
        have r0 := HR.out.cell 0
        have r1 := HR.out.cell 1
        have r2 := HR.out.cell 2
        have r3 := HR.out.cell 3
        have rf0 := HR.out.frozen 0
        have rf1 := HR.out.frozen 1
        have rf2 := HR.out.frozen 2
        have rf3 := HR.out.frozen 3
        have rl := HR.out.lt
        simp at r0 r1 r2 r3
        go_wp2_with fail
        clear r0 r1 r2 r3 rf0 rf1 rf2 rf3 rl
        have hF := ((((HR.out.set_ 0 (.int .i64 4)).set_ 1 (.string tt)).set_ 2 (.int .i64 0)).set_ 3 (.int .i64 (i : Int)))
        have f0 := hF.cell 0
        have f1 := hF.cell 1
        have f2 := hF.cell 2
        have f3 := hF.cell 3
        simp at f0 f1 f2 f3
        exact bodyPost_ret (v := .tuple #[.agg #[.int .i64 4, .string tt, .int .i64 0, .int .i64 (i : Int)], .int .i64 ((i : Int) + 1), .int .i64 0]) (by simp [results, Tryd.results32, go_sem, f0, f1, f2, f3]) rfl ⟨⟨⟨4, tt, 0, (i : Int)⟩, ((i : Int) + 1), by rw [HE.out]; rfl, fun _ => ⟨HX.out.symm, by rw [HN.out]; omega⟩⟩, ((((HW.out.setCell (Nat.le_refl _) _).setCell (Nat.le_refl _) _).setCell (Nat.le_refl _) _).setCell (Nat.le_refl _) _)⟩
      | false =>
        rw [hmk] at hE IM
        rw [if_neg (by simp)] at hE
        have HE := Lib.hid hE
        clear hE hN hX hz hmk
        have r0 := HR.out.cell 0
        have r1 := HR.out.cell 1
        have r2 := HR.out.cell 2
        have r3 := HR.out.cell 3
        have rf0 := HR.out.frozen 0
        have rf1 := HR.out.frozen 1
        have rf2 := HR.out.frozen 2
        have rf3 := HR.out.frozen 3
        have rl := HR.out.lt
        simp at r0 r1 r2 r3
        go_wp2_with fail
        clear r0 r1 r2 r3 rf0 rf1 rf2 rf3 rl
        have hF := ((((HR.out.set_ 0 (.int .i64 0)).set_ 1 (.string ⟨#[]⟩)).set_ 2 (.int .i64 0)).set_ 3 (.int .i64 0))
        have f0 := hF.cell 0
        have f1 := hF.cell 1
        have f2 := hF.cell 2
        have f3 := hF.cell 3
        simp at f0 f1 f2 f3
        exact bodyPost_ret (v := .tuple #[.agg #[.int .i64 0, .string ⟨#[]⟩, .int .i64 0, .int .i64 0], .int .i64 0, .int .i64 2]) (by simp [results, Tryd.results32, go_sem, f0, f1, f2, f3]) rfl ⟨⟨Lx.zero, 0, by rw [HE.out]; rfl, fun h => by rw [HE.out] at h; cases h⟩, ((((HW.out.setCell (Nat.le_refl _) _).setCell (Nat.le_refl _) _).setCell (Nat.le_refl _) _).setCell (Nat.le_refl _) _)⟩
theorem rlexeme_any (s : ByteArray) (hs : s.size ≤ 10000) (i : Nat) (hi : i < s.size) (w : World) : Calls Tryd.prog 32 #[.string s, .int .i64 (i : Int)] w fun e w' => LexQ s i e ∧ Below w.heap.size w w' := by
  cases hl : letterB (byt s i) with
  | true => exact rlex_letter s hs i hi hl w
  | false =>
    cases hd : digitB (byt s i) with
    | true => exact rlex_digit s hs i hi hl hd w
    | false =>
      by_cases h34 : byt s i = 34
      · exact rlex_quote s hs i hi h34 w
      · exact rlex_mark s hs i hi hl hd (beq_false_of_ne h34) w
end Go.Proofs.YtklogijbdpghpaaDoor
