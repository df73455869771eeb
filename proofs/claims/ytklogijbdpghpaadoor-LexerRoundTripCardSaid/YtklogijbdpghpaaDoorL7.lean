/-
  CONTRACTS of the lexer: marks, the program's lexeme.
-/
import Derived.Test.YtklogijbdpghpaaDoorLXO
import Derived.Test.YtklogijbdpghpaaDoorLB
import Derived.Deep.QuietTactic
import Derived.BigQuiet
namespace Go.Proofs.YtklogijbdpghpaaDoor
open Go.RowKit
set_option linter.unusedVariables false
set_option linter.unusedSimpArgs false
theorem str_ne {f t : ByteArray} (h : f ≠ t) : (f.toList == t.toList) = false := by
  rw [beq_eq_false_iff_ne]
  intro he
  rw [ByteArray.toList_eq, ByteArray.toList_eq] at he
  exact h (ByteArray.ext (Array.ext' he))
theorem str_eq {f t : ByteArray} (h : f = t) : (f.toList == t.toList) = true := by subst h; exact beq_self_eq_true _
def markN (s : ByteArray) : Nat := if mk2 s 0 then 2 else 1
set_option maxHeartbeats 1600000 in
theorem mark_any (s : ByteArray) (hs : s.size ≤ 10000) (h0 : 0 < s.size) (w : World) : Calls Tryd.prog 50 #[.string s] w fun e w' => e = .returned (.string (s.extract 0 (markN s))) ∧ w = w' := by
  have HP1 := Lib.hid (fun w => Tryd.strings_HasPrefix s ⟨#[33, 61]⟩ w)
  have HP2 := Lib.hid (fun w => Tryd.strings_HasPrefix s ⟨#[60, 61]⟩ w)
  rw [show (⟨#[33, 61]⟩ : ByteArray).data.toList = [33, 61] from rfl, prefix2] at HP1
  rw [show (⟨#[60, 61]⟩ : ByteArray).data.toList = [60, 61] from rfl, prefix2] at HP2
  have hM : mk2 s 0 = ((decide (1 < s.size) && byt s 0 == ((33 : UInt8).toNat : Int) && byt s 1 == ((61 : UInt8).toNat : Int)) || (decide (1 < s.size) && byt s 0 == ((60 : UInt8).toNat : Int) && byt s 1 == ((61 : UInt8).toNat : Int))) := by
    unfold mk2
    rw [Nat.zero_add]
    show (decide (1 < s.size) && byt s 1 == 61 && (byt s 0 == 33 || byt s 0 == 60)) = ((decide (1 < s.size) && byt s 0 == 33 && byt s 1 == 61) || (decide (1 < s.size) && byt s 0 == 60 && byt s 1 == 61))
    cases decide (1 < s.size) <;> cases byt s 1 == 61 <;> cases byt s 0 == 33 <;> cases byt s 0 == 60 <;> rfl
  have hz : mk2 s 0 = true → 2 ≤ s.size := fun h => by
    unfold mk2 at h
    simp at h
    omega
  have HM := Lib.hid hM
  clear hM
  generalize (decide (1 < s.size) && byt s 0 == ((33 : UInt8).toNat : Int) && byt s 1 == ((61 : UInt8).toNat : Int)) = b1 at *
  generalize (decide (1 < s.size) && byt s 0 == ((60 : UInt8).toNat : Int) && byt s 1 == ((61 : UInt8).toNat : Int)) = b2 at *
  go_enter Tryd.func50, Tryd.ntmps50
  cases b1 with
  | true =>
    have h2 := hz HM.out
    have hsl := fun w => sl_h s 2 h2 (j := 2) rfl w
    have HE : Hid (markN s = 2) := Lib.hid (by unfold markN; rw [HM.out]; rfl)
    clear hz
    go_wp2_with (refine (HP1.out _).mono ?_; rintro e w' ⟨rfl, rfl⟩)
    go_ret
    exact ⟨ret_str (by rw [HE.out]), rfl⟩
  | false =>
    cases b2 with
    | true =>
      have h2 := hz HM.out
      have hsl := fun w => sl_h s 2 h2 (j := 2) rfl w
      have HE : Hid (markN s = 2) := Lib.hid (by unfold markN; rw [HM.out]; rfl)
      clear hz
      go_wp2_with fail
      refine (HP1.out _).mono ?_
      rintro e w' ⟨rfl, rfl⟩
      go_wp2_with fail
      refine (HP2.out _).mono ?_
      rintro e w' ⟨rfl, rfl⟩
      go_wp2_with fail
      go_ret
      exact ⟨ret_str (by rw [HE.out]), rfl⟩
    | false =>
      have hsl := fun w => sl_h s 1 h0 (j := 1) rfl w
      have HE : Hid (markN s = 1) := Lib.hid (by unfold markN; rw [HM.out]; rfl)
      clear hz
      go_wp2_with fail
      refine (HP1.out _).mono ?_
      rintro e w' ⟨rfl, rfl⟩
      go_wp2_with fail
      refine (HP2.out _).mono ?_
      rintro e w' ⟨rfl, rfl⟩
      go_wp2_with fail
      go_ret
      exact ⟨ret_str (by rw [HE.out]), rfl⟩
/-- A lexeme as the program holds it. -/
def lv (x : Lx) : Value := .agg #[.int .i64 x.k, .string x.t, .int .i64 x.n, .int .i64 x.p]
/-- What the program's lexeme answers at a text. -/
def LexR (s : ByteArray) (e : Ending) : Prop := ∃ x n, e = .returned (.tuple #[lv x, .int .i64 n, .int .i64 (lexE s 0)]) ∧ (lexE s 0 = 0 → x = lexX s 0 ∧ n = (lexN s 0 : Int))
theorem bel_alloc {B : Nat} {a w : World} (h : Below B a w) (hB : B ≤ a.heap.size) (o : Obj) : Below B a (w.alloc o) := h.alloc (Nat.le_trans hB h.size) o
set_option maxHeartbeats 1600000 in
theorem lex_letter (s : ByteArray) (hs : s.size ≤ 10000) (h0 : 0 < s.size) (hl : letterB (byt s 0) = true) (w : World) : Calls Tryd.prog 30 #[.string s] w fun e w' => LexR s e ∧ Below w.heap.size w w' := by
  have hB := byt_bd s 0
  have hx := fun w => ix_at s 0 h0 (i := 0) rfl w
  have hwr := dec_nat (byt s 0) hB.1 hB.2
  have k3 : (kindS (byt s 0) == 3) = true := by unfold kindS; rw [hl]; rfl
  have hw := wdP_le s 0 (Nat.zero_le _)
  have hE : lexE s 0 = if 16 < wdP s 0 - 0 then 3 else 0 := by unfold lexE; rw [hl]; rfl
  have hN : lexN s 0 = wdP s 0 := by unfold lexN; rw [hl]; rfl
  have hX : lexX s 0 = ⟨1, s.extract 0 (wdP s 0), 0, 0⟩ := by unfold lexX; rw [hl]; rfl
  have hz := size_sub s 0 (wdP s 0) hw.2
  have WD := Lib.hid (fun w => word_any s hs w)
  clear hl
  rw [Nat.sub_zero] at hE hz
  obtain ⟨q, hq⟩ : ∃ q, q = wdP s 0 := ⟨_, rfl⟩
  rw [← hq] at hE hN hX hz WD hw
  obtain ⟨t, ht⟩ : ∃ t, t = s.extract 0 q := ⟨_, rfl⟩
  rw [← ht] at hX hz WD
  clear hq ht
  go_enter Tryd.func30, Tryd.ntmps30
  go_wp2_with fail
  refine (kind_any _ (by omega) (by omega) _).mono ?_
  rintro e w' ⟨rfl, rfl⟩
  generalize kindS (byt s 0) = kd at *
  have hR0 : Blk (w.alloc (.cells #[.int .i64 0, .string ⟨#[]⟩, .int .i64 0, .int .i64 0] 30)) w.heap.size 30 #[.int .i64 0, .string ⟨#[]⟩, .int .i64 0, .int .i64 0] := Blk.new _ _ _
  have hW0 : Below w.heap.size w (w.alloc (.cells #[.int .i64 0, .string ⟨#[]⟩, .int .i64 0, .int .i64 0] 30)) := (Below.refl _ _).alloc (Nat.le_refl _) _
  generalize w.alloc (.cells #[.int .i64 0, .string ⟨#[]⟩, .int .i64 0, .int .i64 0] 30) = V0 at hR0 hW0 ⊢
  have HR := Lib.hid hR0
  have HW := Lib.hid hW0
  clear hR0 hW0
  go_wp2_with fail
  refine (WD.out _).mono ?_
  rintro e w1 ⟨rfl, hb⟩
  have HR2 := Lib.hid (HR.out.below hb HR.out.lt)
  have HW2 := Lib.hid (HW.out.trans (hb.mono HW.out.size))
  clear HR HW hb
  have HR := HR2
  have HW := HW2
  clear HR2 HW2
  by_cases h16 : 16 < q
  · have d1 : decide ((16 : Int) < (q : Int)) = true := decide_eq_true (by omega)
    rw [if_pos h16] at hE
    have HE := Lib.hid hE
    clear hE hN hX h16
    have r0 := HR.out.cell 0
    have r1 := HR.out.cell 1
    have r2 := HR.out.cell 2
    have r3 := HR.out.cell 3
    have rf0 := HR.out.frozen 0
    have rf1 := HR.out.frozen 1
    have rf2 := HR.out.frozen 2
    have rf3 := HR.out.frozen 3
    have rl := HR.out.lt
    simp at r0 r1 r2 r3
    go_wp2_with fail
    clear r0 r1 r2 r3 rf0 rf1 rf2 rf3 rl
    have hF := ((((HR.out.set_ 0 (.int .i64 0)).set_ 1 (.string ⟨#[]⟩)).set_ 2 (.int .i64 0)).set_ 3 (.int .i64 0))
    have f0 := hF.cell 0
    have f1 := hF.cell 1
    have f2 := hF.cell 2
    have f3 := hF.cell 3
    simp at f0 f1 f2 f3
    exact bodyPost_ret (v := .tuple #[.agg #[.int .i64 0, .string ⟨#[]⟩, .int .i64 0, .int .i64 0], .int .i64 0, .int .i64 3]) (by simp [results, Tryd.results30, go_sem, f0, f1, f2, f3]) rfl ⟨⟨Lx.zero, 0, by rw [HE.out]; rfl, fun h => by rw [HE.out] at h; cases h⟩, ((((HW.out.setCell (Nat.le_refl _) _).setCell (Nat.le_refl _) _).setCell (Nat.le_refl _) _).setCell (Nat.le_refl _) _)⟩
  · have d1 : decide ((16 : Int) < (q : Int)) = false := decide_eq_false (by omega)
    rw [if_neg h16] at hE
    have HE := Lib.hid hE
    have HN := Lib.hid hN
    have HX := Lib.hid hX
    clear hE hN hX h16
    have r0 := HR.out.cell 0
    have r1 := HR.out.cell 1
    have r2 := HR.out.cell 2
    have r3 := HR.out.cell 3
    have rf0 := HR.out.frozen 0
    have rf1 := HR.out.frozen 1
    have rf2 := HR.out.frozen 2
    have rf3 := HR.out.frozen 3
    have rl := HR.out.lt
    simp at r0 r1 r2 r3
    go_wp2_with fail
    clear r0 r1 r2 r3 rf0 rf1 rf2 rf3 rl
    have hF := ((((HR.out.set_ 0 (.int .i64 1)).set_ 1 (.string t)).set_ 2 (.int .i64 0)).set_ 3 (.int .i64 0))
    have f0 := hF.cell 0
    have f1 := hF.cell 1
    have f2 := hF.cell 2
    have f3 := hF.cell 3
    simp at f0 f1 f2 f3
    exact bodyPost_ret (v := .tuple #[.agg #[.int .i64 1, .string t, .int .i64 0, .int .i64 0], .int .i64 q, .int .i64 0]) (by simp [results, Tryd.results30, go_sem, f0, f1, f2, f3]) rfl ⟨⟨⟨1, t, 0, 0⟩, q, by rw [HE.out]; rfl, fun _ => ⟨HX.out.symm, by rw [HN.out]⟩⟩, ((((HW.out.setCell (Nat.le_refl _) _).setCell (Nat.le_refl _) _).setCell (Nat.le_refl _) _).setCell (Nat.le_refl _) _)⟩
theorem litT_le (s : ByteArray) : (litT s).size ≤ s.size := by
  unfold litT
  split
  · rw [ByteArray.size_extract]; omega
  · exact Nat.zero_le _
set_option maxHeartbeats 1600000 in
theorem lex_digit (s : ByteArray) (hs : s.size ≤ 10000) (h0 : 0 < s.size) (hl : letterB (byt s 0) = false) (hd : digitB (byt s 0) = true) (w : World) (hEr : Errs w) (h5 : 5 ≤ w.heap.size) : Calls Tryd.prog 30 #[.string s] w fun e w' => LexR s e ∧ Below w.heap.size w w' := by
  have hB := byt_bd s 0
  have hx := fun w => ix_at s 0 h0 (i := 0) rfl w
  have hwr := dec_nat (byt s 0) hB.1 hB.2
  have hk : kindS (byt s 0) = 4 := by unfold kindS; rw [hl, hd]; rfl
  have hw := wdP_le s 0 (Nat.zero_le _)
  have hw1 : 1 ≤ wdP s 0 := by
    rw [wdP_go s 0 h0 (by unfold isW; rw [hd]; simp)]
    exact (wdP_le s 1 h0).1
  have hE : lexE s 0 = numE (s.extract 0 (wdP s 0)) := by unfold lexE; rw [hl, hd]; rfl
  have hN : lexN s 0 = wdP s 0 := by unfold lexN; rw [hl, hd]; rfl
  have hX : lexX s 0 = ⟨2, ⟨#[]⟩, numN (s.extract 0 (wdP s 0)), 0⟩ := by unfold lexX; rw [hl, hd]; rfl
  have hz := size_sub s 0 (wdP s 0) hw.2
  have WD := Lib.hid (fun w => word_any s hs w)
  have ER := Lib.hid hEr
  have H5 := Lib.hid h5
  clear hl hd hEr h5
  rw [Nat.sub_zero] at hz
  obtain ⟨q, hq⟩ : ∃ q, q = wdP s 0 := ⟨_, rfl⟩
  rw [← hq] at hE hN hX hz WD hw hw1
  obtain ⟨t, ht⟩ : ∃ t, t = s.extract 0 q := ⟨_, rfl⟩
  rw [← ht] at hX hz WD hE
  have NU := Lib.hid (fun w (h : Errs w) => number_any t (by omega) (by omega) w h rfl rfl)
  obtain ⟨n, hn⟩ : ∃ n, n = numN t := ⟨_, rfl⟩
  obtain ⟨c, hc⟩ : ∃ c, c = numE t := ⟨_, rfl⟩
  rw [← hn, ← hc] at NU
  rw [← hn] at hX
  rw [← hc] at hE
  have HE := Lib.hid hE
  have HN := Lib.hid hN
  have HX := Lib.hid hX
  clear hq ht hn hc hE hN hX hw1
  go_enter Tryd.func30, Tryd.ntmps30
  go_wp2_with fail
  refine (kind_any _ (by omega) (by omega) _).mono ?_
  rintro e w' ⟨rfl, rfl⟩
  rw [hk]
  clear hk
  have hR0 : Blk (w.alloc (.cells #[.int .i64 0, .string ⟨#[]⟩, .int .i64 0, .int .i64 0] 30)) w.heap.size 30 #[.int .i64 0, .string ⟨#[]⟩, .int .i64 0, .int .i64 0] := Blk.new _ _ _
  have hW0 : Below w.heap.size w (w.alloc (.cells #[.int .i64 0, .string ⟨#[]⟩, .int .i64 0, .int .i64 0] 30)) := (Below.refl _ _).alloc (Nat.le_refl _) _
  generalize w.alloc (.cells #[.int .i64 0, .string ⟨#[]⟩, .int .i64 0, .int .i64 0] 30) = V0 at hR0 hW0 ⊢
  have HR := Lib.hid hR0
  have HW := Lib.hid hW0
  clear hR0 hW0
  go_wp2_with fail
  refine (WD.out _).mono ?_
  rintro e w1 ⟨rfl, hb⟩
  have HR2 := Lib.hid (HR.out.below hb HR.out.lt)
  have HW2 := Lib.hid (HW.out.trans (hb.mono HW.out.size))
  clear HR HW hb
  have HR := HR2
  have HW := HW2
  clear HR2 HW2
  go_wp2_with fail
  refine (NU.out _ (ER.out.later HW.out H5.out)).mono ?_
  rintro e w2 ⟨rfl, hb⟩
  have HR2 := Lib.hid (HR.out.below hb HR.out.lt)
  have HW2 := Lib.hid (HW.out.trans (hb.mono HW.out.size))
  clear HR HW hb
  have HR := HR2
  have HW := HW2
  clear HR2 HW2
  have r0 := HR.out.cell 0
  have r1 := HR.out.cell 1
  have r2 := HR.out.cell 2
  have r3 := HR.out.cell 3
  have rf0 := HR.out.frozen 0
  have rf1 := HR.out.frozen 1
  have rf2 := HR.out.frozen 2
  have rf3 := HR.out.frozen 3
  have rl := HR.out.lt
  simp at r0 r1 r2 r3
  go_wp2_with fail
  clear r0 r1 r2 r3 rf0 rf1 rf2 rf3 rl
  have hF := ((((HR.out.set_ 0 (.int .i64 2)).set_ 1 (.string ⟨#[]⟩)).set_ 2 (.int .i64 n)).set_ 3 (.int .i64 0))
  have f0 := hF.cell 0
  have f1 := hF.cell 1
  have f2 := hF.cell 2
  have f3 := hF.cell 3
  simp at f0 f1 f2 f3
  exact bodyPost_ret (v := .tuple #[.agg #[.int .i64 2, .string ⟨#[]⟩, .int .i64 n, .int .i64 0], .int .i64 q, .int .i64 c]) (by simp [results, Tryd.results30, go_sem, f0, f1, f2, f3]) rfl ⟨⟨⟨2, ⟨#[]⟩, n, 0⟩, q, by rw [HE.out]; rfl, fun _ => ⟨HX.out.symm, by rw [HN.out]⟩⟩, ((((HW.out.setCell (Nat.le_refl _) _).setCell (Nat.le_refl _) _).setCell (Nat.le_refl _) _).setCell (Nat.le_refl _) _)⟩
set_option maxHeartbeats 1600000 in
theorem lex_quote (s : ByteArray) (hs : s.size ≤ 10000) (h0 : 0 < s.size) (hx34 : byt s 0 = 34) (w : World) : Calls Tryd.prog 30 #[.string s] w fun e w' => LexR s e ∧ Below w.heap.size w w' := by
  have hB := byt_bd s 0
  have hx := fun w => ix_at s 0 h0 (i := 0) rfl w
  have hwr := dec_nat (byt s 0) hB.1 hB.2
  have hk : kindS (byt s 0) = 6 := by rw [hx34]; rfl
  have hsl := fun w => sl_l s 1 h0 (i := 1) rfl w
  have hE : lexE s 0 = litE (off s 1) := by rw [litE_off s h0]; unfold lexE; rw [hx34, Nat.zero_add]; rfl
  have hX : litE (off s 1) = 0 → lexX s 0 = ⟨3, litT (off s 1), 0, 0⟩ ∧ lexN s 0 = (litT (off s 1)).size + 2 := fun h => by
    have hq := quP_le s 1 h0
    rw [litT_off s h0 h, size_sub _ _ _ hq.2]
    refine ⟨by unfold lexX; rw [hx34, Nat.zero_add]; rfl, ?_⟩
    unfold lexN
    rw [hx34, Nat.zero_add, if_neg (by decide), if_pos (by decide)]
    omega
  have hz : (litT (off s 1)).size ≤ 10000 := by have h1 := litT_le (off s 1); have h2 := off_size s 1; omega
  have hso : (off s 1).size ≤ 10000 := by have h2 := off_size s 1; omega
  have LT := Lib.hid (fun w => literal_any (off s 1) hso w rfl rfl)
  clear hx34 hso
  rw [show s.extract 1 s.size = off s 1 from rfl] at hsl
  generalize litE (off s 1) = c, litT (off s 1) = t at *
  generalize off s 1 = u at *
  have HE := Lib.hid hE
  have HX := Lib.hid hX
  clear hE hX
  go_enter Tryd.func30, Tryd.ntmps30
  go_wp2_with fail
  refine (kind_any _ (by omega) (by omega) _).mono ?_
  rintro e w' ⟨rfl, rfl⟩
  rw [hk]
  clear hk
  have hR0 : Blk (w.alloc (.cells #[.int .i64 0, .string ⟨#[]⟩, .int .i64 0, .int .i64 0] 30)) w.heap.size 30 #[.int .i64 0, .string ⟨#[]⟩, .int .i64 0, .int .i64 0] := Blk.new _ _ _
  have hW0 : Below w.heap.size w (w.alloc (.cells #[.int .i64 0, .string ⟨#[]⟩, .int .i64 0, .int .i64 0] 30)) := (Below.refl _ _).alloc (Nat.le_refl _) _
  generalize w.alloc (.cells #[.int .i64 0, .string ⟨#[]⟩, .int .i64 0, .int .i64 0] 30) = V0 at hR0 hW0 ⊢
  have HR := Lib.hid hR0
  have HW := Lib.hid hW0
  clear hR0 hW0
  go_wp2_with fail
  refine (LT.out _).mono ?_
  rintro e w1 ⟨rfl, hb⟩
  have HR2 := Lib.hid (HR.out.below hb HR.out.lt)
  have HW2 := Lib.hid (HW.out.trans (hb.mono HW.out.size))
  clear HR HW hb
  have HR := HR2
  have HW := HW2
  clear HR2 HW2
  have r0 := HR.out.cell 0
  have r1 := HR.out.cell 1
  have r2 := HR.out.cell 2
  have r3 := HR.out.cell 3
  have rf0 := HR.out.frozen 0
  have rf1 := HR.out.frozen 1
  have rf2 := HR.out.frozen 2
  have rf3 := HR.out.frozen 3
  have rl := HR.out.lt
  simp at r0 r1 r2 r3
  go_wp2_with fail
  clear r0 r1 r2 r3 rf0 rf1 rf2 rf3 rl
  have hF := ((((HR.out.set_ 0 (.int .i64 3)).set_ 1 (.string t)).set_ 2 (.int .i64 0)).set_ 3 (.int .i64 0))
  have f0 := hF.cell 0
  have f1 := hF.cell 1
  have f2 := hF.cell 2
  have f3 := hF.cell 3
  simp at f0 f1 f2 f3
  exact bodyPost_ret (v := .tuple #[.agg #[.int .i64 3, .string t, .int .i64 0, .int .i64 0], .int .i64 ((t.size : Int) + 2), .int .i64 c]) (by simp [results, Tryd.results30, go_sem, f0, f1, f2, f3]) rfl ⟨⟨⟨3, t, 0, 0⟩, ((t.size : Int) + 2), by rw [HE.out]; rfl, fun h => ⟨(HX.out (HE.out.symm.trans h)).1.symm, by rw [(HX.out (HE.out.symm.trans h)).2]; rfl⟩⟩, ((((HW.out.setCell (Nat.le_refl _) _).setCell (Nat.le_refl _) _).setCell (Nat.le_refl _) _).setCell (Nat.le_refl _) _)⟩
theorem bang_one {s : ByteArray} (h0 : 0 < s.size) (h : byt s 0 = 33) : s.extract 0 1 = ⟨#[33]⟩ := by
  apply byt_ext
  · rw [size_sub s 0 1 h0]; rfl
  · intro k hk
    rw [size_sub s 0 1 h0] at hk
    obtain rfl : k = 0 := by omega
    rw [byt_sub s 0 1 0 h0 (by omega), h]
    rfl
set_option maxHeartbeats 1600000 in
theorem lex_mark (s : ByteArray) (hs : s.size ≤ 10000) (h0 : 0 < s.size) (hl : letterB (byt s 0) = false) (hd : digitB (byt s 0) = false) (h34 : (byt s 0 == 34) = false) (hk : kindS (byt s 0) = 7 ∧ isMk (byt s 0) = true ∧ byt s 0 ≠ 33 ∨ kindS (byt s 0) = 8 ∧ isMk (byt s 0) = false ∧ byt s 0 = 33) (w : World) : Calls Tryd.prog 30 #[.string s] w fun e w' => LexR s e ∧ Below w.heap.size w w' := by
  have hB := byt_bd s 0
  have hx := fun w => ix_at s 0 h0 (i := 0) rfl w
  have hwr := dec_nat (byt s 0) hB.1 hB.2
  have MK := Lib.hid (fun w => mark_any s hs h0 w)
  have hE : lexE s 0 = if mk2 s 0 then 0 else if isMk (byt s 0) then 0 else 2 := by unfold lexE; rw [hl, hd, h34]; rfl
  have hN : lexN s 0 = markN s := by unfold lexN markN; rw [hl, hd, h34]; rfl
  have hX : lexX s 0 = ⟨4, s.extract 0 (markN s), 0, 0⟩ := by unfold lexX; rw [hl, hd, h34, hN]; rfl
  have hmk : mk2 s 0 = true → 2 ≤ s.size := fun h => by
    unfold mk2 at h
    simp at h
    omega
  have hz : (s.extract 0 (markN s)).size = markN s := by
    rw [size_sub]
    · omega
    · unfold markN; split
      · rename_i h; exact hmk h
      · exact h0
  have hm12 : markN s = 1 ∨ markN s = 2 := by unfold markN; split <;> omega
  have hbg : s.extract 0 (markN s) = ⟨#[33]⟩ ↔ mk2 s 0 = false ∧ byt s 0 = 33 := by
    constructor
    · intro h
      have h1 : markN s = 1 := by rw [h] at hz; exact hz.symm
      refine ⟨by cases hb : mk2 s 0 with | false => rfl | true => unfold markN at h1; rw [hb] at h1; exact absurd h1 (by decide), ?_⟩
      rw [h1] at h
      have := byt_sub s 0 1 0 h0 (by omega)
      rw [h] at this
      exact this.symm
    · rintro ⟨h1, h2⟩
      have : markN s = 1 := by unfold markN; rw [h1]; rfl
      rw [this]
      exact bang_one h0 h2
  obtain ⟨b, hb⟩ : ∃ b : Bool, ((s.extract 0 (markN s)).toList == (⟨#[33]⟩ : ByteArray).toList) = b := ⟨_, rfl⟩
  obtain ⟨t, ht⟩ : ∃ t, t = s.extract 0 (markN s) := ⟨_, rfl⟩
  obtain ⟨q, hq⟩ : ∃ q, q = markN s := ⟨_, rfl⟩
  have HE : Hid ((b = true → lexE s 0 = 2) ∧ (b = false → lexE s 0 = 0 ∧ lexX s 0 = ⟨4, t, 0, 0⟩ ∧ lexN s 0 = q)) := Lib.hid (by
    constructor
    · rintro rfl
      have h1 : s.extract 0 (markN s) = ⟨#[33]⟩ := by
        apply Classical.byContradiction
        intro hh
        rw [str_ne hh] at hb
        cases hb
      have h2 := hbg.1 h1
      rw [hE, h2.1, h2.2]
      rfl
    · rintro rfl
      refine ⟨?_, by rw [ht]; exact hX, by rw [hq]; exact hN⟩
      have h1 : ¬ (mk2 s 0 = false ∧ byt s 0 = 33) := fun hh => by
        rw [str_eq (hbg.2 hh)] at hb
        cases hb
      rw [hE]
      cases hm : mk2 s 0 with
      | true => rfl
      | false =>
        rcases hk with ⟨-, h2, -⟩ | ⟨-, -, h2⟩
        · rw [h2]; rfl
        · exact absurd ⟨hm, h2⟩ h1)
  rw [← ht] at hb MK hz
  have hb2 : (t.toList == ([33] : List UInt8)) = b := by rw [← hb]; exact congrArg (fun l => t.toList == l) (by rw [ByteArray.toList_eq])
  rw [← hq] at hz hm12
  clear hE hN hX hmk hbg ht hq hl hd h34
  have hk2 : kindS (byt s 0) = 7 ∨ kindS (byt s 0) = 8 := by rcases hk with h | h; exact .inl h.1; exact .inr h.1
  clear hk
  go_enter Tryd.func30, Tryd.ntmps30
  go_wp2_with fail
  refine (kind_any _ (by omega) (by omega) _).mono ?_
  rintro e w' ⟨rfl, rfl⟩
  rcases hk2 with hk | hk
  · rw [hk]
    clear hk
    have hR0 : Blk (w.alloc (.cells #[.int .i64 0, .string ⟨#[]⟩, .int .i64 0, .int .i64 0] 30)) w.heap.size 30 #[.int .i64 0, .string ⟨#[]⟩, .int .i64 0, .int .i64 0] := Blk.new _ _ _
    have hW0 : Below w.heap.size w (w.alloc (.cells #[.int .i64 0, .string ⟨#[]⟩, .int .i64 0, .int .i64 0] 30)) := (Below.refl _ _).alloc (Nat.le_refl _) _
    generalize w.alloc (.cells #[.int .i64 0, .string ⟨#[]⟩, .int .i64 0, .int .i64 0] 30) = V0 at hR0 hW0 ⊢
    have HR := Lib.hid hR0
    have HW := Lib.hid hW0
    clear hR0 hW0
    go_wp2_with fail
    refine (MK.out _).mono ?_
    rintro e w1 ⟨rfl, rfl⟩
    cases b with
    | true =>
      have HG := Lib.hid (HE.out.1 rfl)
      clear HE
      have r0 := HR.out.cell 0
      have r1 := HR.out.cell 1
      have r2 := HR.out.cell 2
      have r3 := HR.out.cell 3
      have rf0 := HR.out.frozen 0
      have rf1 := HR.out.frozen 1
      have rf2 := HR.out.frozen 2
      have rf3 := HR.out.frozen 3
      have rl := HR.out.lt
      simp at r0 r1 r2 r3
      go_wp2_with fail
      clear r0 r1 r2 r3 rf0 rf1 rf2 rf3 rl
      have hF := ((((HR.out.set_ 0 (.int .i64 0)).set_ 1 (.string ⟨#[]⟩)).set_ 2 (.int .i64 0)).set_ 3 (.int .i64 0))
      have f0 := hF.cell 0
      have f1 := hF.cell 1
      have f2 := hF.cell 2
      have f3 := hF.cell 3
      simp at f0 f1 f2 f3
      exact bodyPost_ret (v := .tuple #[.agg #[.int .i64 0, .string ⟨#[]⟩, .int .i64 0, .int .i64 0], .int .i64 0, .int .i64 2]) (by simp [results, Tryd.results30, go_sem, f0, f1, f2, f3]) rfl ⟨⟨Lx.zero, 0, by rw [HG.out]; rfl, fun h => by rw [HG.out] at h; cases h⟩, ((((HW.out.setCell (Nat.le_refl _) _).setCell (Nat.le_refl _) _).setCell (Nat.le_refl _) _).setCell (Nat.le_refl _) _)⟩
    | false =>
      have HG := Lib.hid (HE.out.2 rfl)
      clear HE
      have r0 := HR.out.cell 0
      have r1 := HR.out.cell 1
      have r2 := HR.out.cell 2
      have r3 := HR.out.cell 3
      have rf0 := HR.out.frozen 0
      have rf1 := HR.out.frozen 1
      have rf2 := HR.out.frozen 2
      have rf3 := HR.out.frozen 3
      have rl := HR.out.lt
      simp at r0 r1 r2 r3
      go_wp2_with fail
      clear r0 r1 r2 r3 rf0 rf1 rf2 rf3 rl
      have hF := ((((HR.out.set_ 0 (.int .i64 4)).set_ 1 (.string t)).set_ 2 (.int .i64 0)).set_ 3 (.int .i64 0))
      have f0 := hF.cell 0
      have f1 := hF.cell 1
      have f2 := hF.cell 2
      have f3 := hF.cell 3
      simp at f0 f1 f2 f3
      exact bodyPost_ret (v := .tuple #[.agg #[.int .i64 4, .string t, .int .i64 0, .int .i64 0], .int .i64 q, .int .i64 0]) (by simp [results, Tryd.results30, go_sem, f0, f1, f2, f3]) rfl ⟨⟨⟨4, t, 0, 0⟩, q, by rw [HG.out.1]; rfl, fun h => ⟨HG.out.2.1.symm, by rw [HG.out.2.2]⟩⟩, ((((HW.out.setCell (Nat.le_refl _) _).setCell (Nat.le_refl _) _).setCell (Nat.le_refl _) _).setCell (Nat.le_refl _) _)⟩
  · rw [hk]
    clear hk
    have hR0 : Blk (w.alloc (.cells #[.int .i64 0, .string ⟨#[]⟩, .int .i64 0, .int .i64 0] 30)) w.heap.size 30 #[.int .i64 0, .string ⟨#[]⟩, .int .i64 0, .int .i64 0] := Blk.new _ _ _
    have hW0 : Below w.heap.size w (w.alloc (.cells #[.int .i64 0, .string ⟨#[]⟩, .int .i64 0, .int .i64 0] 30)) := (Below.refl _ _).alloc (Nat.le_refl _) _
    generalize w.alloc (.cells #[.int .i64 0, .string ⟨#[]⟩, .int .i64 0, .int .i64 0] 30) = V0 at hR0 hW0 ⊢
    have HR := Lib.hid hR0
    have HW := Lib.hid hW0
    clear hR0 hW0
    go_wp2_with fail
    refine (MK.out _).mono ?_
    rintro e w1 ⟨rfl, rfl⟩
    cases b with
    | true =>
      have HG := Lib.hid (HE.out.1 rfl)
      clear HE
      have r0 := HR.out.cell 0
      have r1 := HR.out.cell 1
      have r2 := HR.out.cell 2
      have r3 := HR.out.cell 3
      have rf0 := HR.out.frozen 0
      have rf1 := HR.out.frozen 1
      have rf2 := HR.out.frozen 2
      have rf3 := HR.out.frozen 3
      have rl := HR.out.lt
      simp at r0 r1 r2 r3
      go_wp2_with fail
      clear r0 r1 r2 r3 rf0 rf1 rf2 rf3 rl
      have hF := ((((HR.out.set_ 0 (.int .i64 0)).set_ 1 (.string ⟨#[]⟩)).set_ 2 (.int .i64 0)).set_ 3 (.int .i64 0))
      have f0 := hF.cell 0
      have f1 := hF.cell 1
      have f2 := hF.cell 2
      have f3 := hF.cell 3
      simp at f0 f1 f2 f3
      exact bodyPost_ret (v := .tuple #[.agg #[.int .i64 0, .string ⟨#[]⟩, .int .i64 0, .int .i64 0], .int .i64 0, .int .i64 2]) (by simp [results, Tryd.results30, go_sem, f0, f1, f2, f3]) rfl ⟨⟨Lx.zero, 0, by rw [HG.out]; rfl, fun h => by rw [HG.out] at h; cases h⟩, ((((HW.out.setCell (Nat.le_refl _) _).setCell (Nat.le_refl _) _).setCell (Nat.le_refl _) _).setCell (Nat.le_refl _) _)⟩
    | false =>
      have HG := Lib.hid (HE.out.2 rfl)
      clear HE
      have r0 := HR.out.cell 0
      have r1 := HR.out.cell 1
      have r2 := HR.out.cell 2
      have r3 := HR.out.cell 3
      have rf0 := HR.out.frozen 0
      have rf1 := HR.out.frozen 1
      have rf2 := HR.out.frozen 2
      have rf3 := HR.out.frozen 3
      have rl := HR.out.lt
      simp at r0 r1 r2 r3
      go_wp2_with fail
      clear r0 r1 r2 r3 rf0 rf1 rf2 rf3 rl
      have hF := ((((HR.out.set_ 0 (.int .i64 4)).set_ 1 (.string t)).set_ 2 (.int .i64 0)).set_ 3 (.int .i64 0))
      have f0 := hF.cell 0
      have f1 := hF.cell 1
      have f2 := hF.cell 2
      have f3 := hF.cell 3
      simp at f0 f1 f2 f3
      exact bodyPost_ret (v := .tuple #[.agg #[.int .i64 4, .string t, .int .i64 0, .int .i64 0], .int .i64 q, .int .i64 0]) (by simp [results, Tryd.results30, go_sem, f0, f1, f2, f3]) rfl ⟨⟨⟨4, t, 0, 0⟩, q, by rw [HG.out.1]; rfl, fun h => ⟨HG.out.2.1.symm, by rw [HG.out.2.2]⟩⟩, ((((HW.out.setCell (Nat.le_refl _) _).setCell (Nat.le_refl _) _).setCell (Nat.le_refl _) _).setCell (Nat.le_refl _) _)⟩
set_option maxHeartbeats 1600000 in
theorem lex_other (s : ByteArray) (hs : s.size ≤ 10000) (h0 : 0 < s.size) (hE : lexE s 0 = 2) (hk : kindS (byt s 0) = 0 ∨ kindS (byt s 0) = 1 ∨ kindS (byt s 0) = 2 ∨ kindS (byt s 0) = 5) (w : World) : Calls Tryd.prog 30 #[.string s] w fun e w' => LexR s e ∧ Below w.heap.size w w' := by
  have hB := byt_bd s 0
  have hx := fun w => ix_at s 0 h0 (i := 0) rfl w
  have hwr := dec_nat (byt s 0) hB.1 hB.2
  have HE := Lib.hid hE
  clear hE
  have hk2 : (kindS (byt s 0) == 3) = false ∧ (kindS (byt s 0) == 4) = false ∧ (kindS (byt s 0) == 6) = false ∧ (kindS (byt s 0) == 7) = false ∧ (kindS (byt s 0) == 8) = false := ⟨beq_false_of_ne (by omega), beq_false_of_ne (by omega), beq_false_of_ne (by omega), beq_false_of_ne (by omega), beq_false_of_ne (by omega)⟩
  clear hk
  obtain ⟨k3, k4, k6, k7, k8⟩ := hk2
  go_enter Tryd.func30, Tryd.ntmps30
  go_wp2_with fail
  refine (kind_any _ (by omega) (by omega) _).mono ?_
  rintro e w' ⟨rfl, rfl⟩
  generalize kindS (byt s 0) = kd at *
  have hR0 : Blk (w.alloc (.cells #[.int .i64 0, .string ⟨#[]⟩, .int .i64 0, .int .i64 0] 30)) w.heap.size 30 #[.int .i64 0, .string ⟨#[]⟩, .int .i64 0, .int .i64 0] := Blk.new _ _ _
  have hW0 : Below w.heap.size w (w.alloc (.cells #[.int .i64 0, .string ⟨#[]⟩, .int .i64 0, .int .i64 0] 30)) := (Below.refl _ _).alloc (Nat.le_refl _) _
  generalize w.alloc (.cells #[.int .i64 0, .string ⟨#[]⟩, .int .i64 0, .int .i64 0] 30) = V0 at hR0 hW0 ⊢
  have HR := Lib.hid hR0
  have HW := Lib.hid hW0
  clear hR0 hW0
  have r0 := HR.out.cell 0
  have r1 := HR.out.cell 1
  have r2 := HR.out.cell 2
  have r3 := HR.out.cell 3
  have rf0 := HR.out.frozen 0
  have rf1 := HR.out.frozen 1
  have rf2 := HR.out.frozen 2
  have rf3 := HR.out.frozen 3
  have rl := HR.out.lt
  simp at r0 r1 r2 r3
  go_wp2_with fail
  clear r0 r1 r2 r3 rf0 rf1 rf2 rf3 rl
  have hF := ((((HR.out.set_ 0 (.int .i64 0)).set_ 1 (.string ⟨#[]⟩)).set_ 2 (.int .i64 0)).set_ 3 (.int .i64 0))
  have f0 := hF.cell 0
  have f1 := hF.cell 1
  have f2 := hF.cell 2
  have f3 := hF.cell 3
  simp at f0 f1 f2 f3
  exact bodyPost_ret (v := .tuple #[.agg #[.int .i64 0, .string ⟨#[]⟩, .int .i64 0, .int .i64 0], .int .i64 0, .int .i64 2]) (by simp [results, Tryd.results30, go_sem, f0, f1, f2, f3]) rfl ⟨⟨Lx.zero, 0, by rw [HE.out]; rfl, fun h => by rw [HE.out] at h; cases h⟩, ((((HW.out.setCell (Nat.le_refl _) _).setCell (Nat.le_refl _) _).setCell (Nat.le_refl _) _).setCell (Nat.le_refl _) _)⟩
end Go.Proofs.YtklogijbdpghpaaDoor
