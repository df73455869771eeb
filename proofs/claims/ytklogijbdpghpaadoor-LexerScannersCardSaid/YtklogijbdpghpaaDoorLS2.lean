/-
  CONTRACTS of the lexer: the program's scanners, made; nil scanners.
-/
import Derived.Test.YtklogijbdpghpaaDoorLS1
namespace Go.Proofs.YtklogijbdpghpaaDoor
open Go.RowKit
set_option linter.unusedVariables false
set_option linter.unusedSimpArgs false
theorem row_mono {w : World} {K K' : Nat} {e : TypeId} {z n : Nat} {v : Value} {xs : List Value} (h : w.ownsRow K e z v n xs) (hK : K' ≤ K) : w.ownsRow K' e z v n xs := by
  obtain ⟨h1, h2⟩ := h
  refine ⟨h1, ?_⟩
  rcases h2 with h2 | ⟨g, cap, cur, e, hb, h3⟩
  · exact .inl h2
  · exact .inr ⟨g, cap, cur, e, by omega, h3⟩
set_option maxHeartbeats 1600000 in
theorem pnew_ok (s : ByteArray) (hs : s.size ≤ 10000) (w : World) (hEr : Errs w) (h5 : 5 ≤ w.heap.size) {L : List Lx} {N : Nat} (hR : scS s = ⟨L, 0, 0⟩) (hG : Good L N) {K : Nat} (hK : K ≤ w.heap.size) : Calls Tryd.prog 17 #[.string s] w fun e w' => ∃ D v, e = .returned (.tuple #[.pointer (some ⟨D, 0, none⟩), .int .i64 0, .int .i64 0]) ∧ PRep w' K D v L 0 ∧ Below w.heap.size w w' := by
  have SC := Lib.hid (scan_any s hs w hEr h5 hR)
  have HLN : L.length ≤ 4001 := by have := scS_len s; rw [hR] at this; exact this
  have HG := Lib.hid hG
  have HK := Lib.hid hK
  have HL := Lib.hid HLN
  clear hR hG hK HLN
  go_enter Tryd.func17, Tryd.ntmps17
  go_wp2_with fail
  refine SC.out.mono ?_
  rintro e w1 ⟨v, rfl, ho, hb⟩
  have HO := Lib.hid ho
  have HB := Lib.hid hb
  clear ho hb
  simp only at HO
  obtain ⟨A, c, hv, -, -, -⟩ := row_form HO.out
  subst hv
  go_wp2_with fail
  exact bodyPost_ret (v := .tuple #[.pointer (some ⟨w1.heap.size, 0, none⟩), .int .i64 0, .int .i64 0]) (by simp [results, Tryd.results17, go_sem]) rfl (by
    have hal := (Below.refl w1.heap.size w1).alloc (Nat.le_refl _) (.cells #[.slice A L.length c, .int .i64 0] 57)
    have hlen := HG.out.len
    refine ⟨w1.heap.size, .slice A L.length c, rfl, ⟨Blk.new _ _ _, ?_, ?_, ?_, by omega, HL.out⟩, HB.out.alloc HB.out.size _⟩
    · exact row_alloc (row_mono HO.out HK.out) _
    · intro h; have := (row_lt HO.out h).2; omega
    · exact Nat.le_trans HK.out HB.out.size)
set_option maxHeartbeats 1600000 in
theorem pnew_bad (s : ByteArray) (hs : s.size ≤ 10000) (w : World) (hEr : Errs w) (h5 : 5 ≤ w.heap.size) {e0 : Int} {p0 : Nat} (hR : scS s = ⟨[], e0, p0⟩) (he : e0 ≠ 0) : Calls Tryd.prog 17 #[.string s] w fun e w' => e = .returned (.tuple #[.pointer none, .int .i64 e0, .int .i64 (p0 : Int)]) ∧ Below w.heap.size w w' := by
  have SC := Lib.hid (scan_any s hs w hEr h5 hR)
  have e1 : (e0 == 0) = false := beq_false_of_ne he
  have e2 : (e0 != 0) = true := by simp [he]
  clear hR he
  go_enter Tryd.func17, Tryd.ntmps17
  go_wp2_with fail
  refine SC.out.mono ?_
  rintro e w1 ⟨v, rfl, ho, hb⟩
  have HB := Lib.hid hb
  simp only at ho
  obtain ⟨A, c, hv, -, -, -⟩ := row_form ho
  subst hv
  clear ho hb
  go_wp2_with fail
  exact bodyPost_ret (v := .tuple #[.pointer none, .int .i64 e0, .int .i64 (p0 : Int)]) (by simp [results, Tryd.results17, go_sem]) rfl ⟨rfl, HB.out⟩
set_option maxHeartbeats 1600000 in
set_option maxRecDepth 10000 in
theorem pnil_peek (w : World) : Calls Tryd.prog 19 #[.pointer none] w fun e w' => e = .returned (lv Lx.zero) ∧ Below w.heap.size w w' := by
  go_enter Tryd.func19, Tryd.ntmps19
  go_wp2_with fail
  go_quiet (fail)
  go_wp2_with fail
  have hF := (((((Blk.new w 30 #[.int .i64 0, .string ⟨#[]⟩, .int .i64 0, .int .i64 0]).drewN nq).set_ 0 (.int .i64 0)).set_ 1 (.string ⟨#[]⟩)).set_ 2 (.int .i64 0)).set_ 3 (.int .i64 0)
  have f0 := hF.cell 0
  have f1 := hF.cell 1
  have f2 := hF.cell 2
  have f3 := hF.cell 3
  simp at f0 f1 f2 f3
  exact bodyPost_ret (v := .agg #[.int .i64 0, .string ⟨#[]⟩, .int .i64 0, .int .i64 0]) (by simp [results, Tryd.results19, go_sem, f0, f1, f2, f3]) rfl ⟨rfl, ((((bel_drewN ((Below.refl w.heap.size w).alloc (Nat.le_refl _) (.cells #[.int .i64 0, .string ⟨#[]⟩, .int .i64 0, .int .i64 0] 30)) nq).setCell (Nat.le_refl _) _).setCell (Nat.le_refl _) _).setCell (Nat.le_refl _) _).setCell (Nat.le_refl _) _⟩
set_option maxHeartbeats 1600000 in
set_option maxRecDepth 10000 in
theorem pnil_next (w : World) : Calls Tryd.prog 21 #[.pointer none] w fun e w' => e = .returned (lv Lx.zero) ∧ Below w.heap.size w w' := by
  have HR := Lib.hid (Blk.new w 30 #[.int .i64 0, .string ⟨#[]⟩, .int .i64 0, .int .i64 0])
  have HB := Lib.hid ((Below.refl w.heap.size w).alloc (Nat.le_refl _) (.cells #[.int .i64 0, .string ⟨#[]⟩, .int .i64 0, .int .i64 0] 30))
  go_enter Tryd.func21, Tryd.ntmps21
  go_wp2_with fail
  generalize w.alloc (.cells #[.int .i64 0, .string ⟨#[]⟩, .int .i64 0, .int .i64 0] 30) = V at *
  refine (pnil_peek V).mono ?_
  rintro e w2 ⟨rfl, hb⟩
  have HB2 := Lib.hid (HB.out.trans (hb.mono HB.out.size))
  have HR2 := Lib.hid (HR.out.below hb HR.out.lt)
  clear hb HB HR
  have r0 := HR2.out.cell 0
  have r1 := HR2.out.cell 1
  have r2 := HR2.out.cell 2
  have r3 := HR2.out.cell 3
  have rf0 := HR2.out.frozen 0
  have rf1 := HR2.out.frozen 1
  have rf2 := HR2.out.frozen 2
  have rf3 := HR2.out.frozen 3
  have rl := HR2.out.lt
  simp at r0 r1 r2 r3
  unfold lv Lx.zero
  go_wp2_with fail
  have hF := (((((HR2.out).set_ 0 (.int .i64 0)).set_ 1 (.string ⟨#[]⟩)).set_ 2 (.int .i64 0)).set_ 3 (.int .i64 0)).alloc (.cells #[.int .i64 0, .string ⟨#[]⟩, .int .i64 0, .int .i64 0] 30)
  have f0 := hF.cell 0
  have f1 := hF.cell 1
  have f2 := hF.cell 2
  have f3 := hF.cell 3
  simp at f0 f1 f2 f3
  exact bodyPost_ret (v := .agg #[.int .i64 0, .string ⟨#[]⟩, .int .i64 0, .int .i64 0]) (by simp [results, Tryd.results21, go_sem, f0, f1, f2, f3]) rfl ⟨rfl, (((((HB2.out).setCell (Nat.le_refl _) _).setCell (Nat.le_refl _) _).setCell (Nat.le_refl _) _).setCell (Nat.le_refl _) _).alloc ((((((HB2.out).setCell (Nat.le_refl _) _).setCell (Nat.le_refl _) _).setCell (Nat.le_refl _) _).setCell (Nat.le_refl _) _).size) _⟩
theorem pnil_pass (kind : Int) (hk : kind ≠ 0) (t : ByteArray) (w : World) : Calls Tryd.prog 38 #[.pointer none, .int .i64 kind, .string t] w fun e w' => e = .returned (.bool false) ∧ Below w.heap.size w w' := by
  have e1 : ((0 : Int) == kind) = false := beq_false_of_ne (fun h => hk h.symm)
  have e2 : ((0 : Int) != kind) = true := by unfold bne; rw [e1]; rfl
  clear hk
  go_enter Tryd.func38, Tryd.ntmps38
  go_wp2_with fail
  refine (pnil_peek w).mono ?_
  rintro e w2 ⟨rfl, hb⟩
  have HB := Lib.hid hb
  clear hb
  unfold lv Lx.zero
  go_wp2_with fail
  go_ret
  exact ⟨rfl, HB.out.alloc HB.out.size _⟩
theorem pnil_Mark (t : ByteArray) (w : World) : Calls Tryd.prog 23 #[.pointer none, .string t] w fun e w' => e = .returned (.bool false) ∧ Below w.heap.size w w' := by
  go_enter Tryd.func23, Tryd.ntmps23
  go_wp2_with fail
  refine (pnil_pass 4 (by decide) t w).mono ?_
  rintro e w2 ⟨rfl, hb⟩
  have HB := Lib.hid hb
  clear hb
  go_wp2_with fail
  go_ret
  exact ⟨rfl, HB.out⟩
theorem pnil_Word (t : ByteArray) (w : World) : Calls Tryd.prog 25 #[.pointer none, .string t] w fun e w' => e = .returned (.bool false) ∧ Below w.heap.size w w' := by
  go_enter Tryd.func25, Tryd.ntmps25
  go_wp2_with fail
  refine (pnil_pass 1 (by decide) t w).mono ?_
  rintro e w2 ⟨rfl, hb⟩
  have HB := Lib.hid hb
  clear hb
  go_wp2_with fail
  go_ret
  exact ⟨rfl, HB.out⟩
set_option maxHeartbeats 1600000 in
set_option maxRecDepth 10000 in
theorem rnil_peek (w : World) : Calls Tryd.prog 20 #[.pointer none] w fun e w' => e = .returned (lv Lx.zero) ∧ Below w.heap.size w w' := by
  go_enter Tryd.func20, Tryd.ntmps20
  go_wp2_with fail
  have hF := (Blk.new w 30 #[.int .i64 0, .string ⟨#[]⟩, .int .i64 0, .int .i64 0])
  have f0 := hF.cell 0
  have f1 := hF.cell 1
  have f2 := hF.cell 2
  have f3 := hF.cell 3
  simp at f0 f1 f2 f3
  exact bodyPost_ret (v := .agg #[.int .i64 0, .string ⟨#[]⟩, .int .i64 0, .int .i64 0]) (by simp [results, Tryd.results20, go_sem]) rfl ⟨rfl, (Below.refl w.heap.size w).alloc (Nat.le_refl _) (.cells #[.int .i64 0, .string ⟨#[]⟩, .int .i64 0, .int .i64 0] 30)⟩
set_option maxHeartbeats 1600000 in
set_option maxRecDepth 10000 in
theorem rnil_next (w : World) : Calls Tryd.prog 22 #[.pointer none] w fun e w' => e = .returned (lv Lx.zero) ∧ Below w.heap.size w w' := by
  have HR := Lib.hid (Blk.new w 30 #[.int .i64 0, .string ⟨#[]⟩, .int .i64 0, .int .i64 0])
  have HB := Lib.hid ((Below.refl w.heap.size w).alloc (Nat.le_refl _) (.cells #[.int .i64 0, .string ⟨#[]⟩, .int .i64 0, .int .i64 0] 30))
  go_enter Tryd.func22, Tryd.ntmps22
  go_wp2_with fail
  generalize w.alloc (.cells #[.int .i64 0, .string ⟨#[]⟩, .int .i64 0, .int .i64 0] 30) = V at *
  refine (rnil_peek V).mono ?_
  rintro e w2 ⟨rfl, hb⟩
  have HB2 := Lib.hid (HB.out.trans (hb.mono HB.out.size))
  have HR2 := Lib.hid (HR.out.below hb HR.out.lt)
  clear hb HB HR
  have r0 := HR2.out.cell 0
  have r1 := HR2.out.cell 1
  have r2 := HR2.out.cell 2
  have r3 := HR2.out.cell 3
  have rf0 := HR2.out.frozen 0
  have rf1 := HR2.out.frozen 1
  have rf2 := HR2.out.frozen 2
  have rf3 := HR2.out.frozen 3
  have rl := HR2.out.lt
  simp at r0 r1 r2 r3
  unfold lv Lx.zero
  go_wp2_with fail
  have hF := (((((HR2.out).set_ 0 (.int .i64 0)).set_ 1 (.string ⟨#[]⟩)).set_ 2 (.int .i64 0)).set_ 3 (.int .i64 0)).alloc (.cells #[.int .i64 0, .string ⟨#[]⟩, .int .i64 0, .int .i64 0] 30)
  have f0 := hF.cell 0
  have f1 := hF.cell 1
  have f2 := hF.cell 2
  have f3 := hF.cell 3
  simp at f0 f1 f2 f3
  exact bodyPost_ret (v := .agg #[.int .i64 0, .string ⟨#[]⟩, .int .i64 0, .int .i64 0]) (by simp [results, Tryd.results22, go_sem, f0, f1, f2, f3]) rfl ⟨rfl, (((((HB2.out).setCell (Nat.le_refl _) _).setCell (Nat.le_refl _) _).setCell (Nat.le_refl _) _).setCell (Nat.le_refl _) _).alloc ((((((HB2.out).setCell (Nat.le_refl _) _).setCell (Nat.le_refl _) _).setCell (Nat.le_refl _) _).setCell (Nat.le_refl _) _).size) _⟩
theorem rnil_pass (kind : Int) (hk : kind ≠ 0) (t : ByteArray) (w : World) : Calls Tryd.prog 39 #[.pointer none, .int .i64 kind, .string t] w fun e w' => e = .returned (.bool false) ∧ Below w.heap.size w w' := by
  have e1 : ((0 : Int) == kind) = false := beq_false_of_ne (fun h => hk h.symm)
  have e2 : ((0 : Int) != kind) = true := by unfold bne; rw [e1]; rfl
  clear hk
  go_enter Tryd.func39, Tryd.ntmps39
  go_wp2_with fail
  refine (rnil_peek w).mono ?_
  rintro e w2 ⟨rfl, hb⟩
  have HB := Lib.hid hb
  clear hb
  unfold lv Lx.zero
  go_wp2_with fail
  go_ret
  exact ⟨rfl, HB.out.alloc HB.out.size _⟩
theorem rnil_Mark (t : ByteArray) (w : World) : Calls Tryd.prog 24 #[.pointer none, .string t] w fun e w' => e = .returned (.bool false) ∧ Below w.heap.size w w' := by
  go_enter Tryd.func24, Tryd.ntmps24
  go_wp2_with fail
  refine (rnil_pass 4 (by decide) t w).mono ?_
  rintro e w2 ⟨rfl, hb⟩
  have HB := Lib.hid hb
  clear hb
  go_wp2_with fail
  go_ret
  exact ⟨rfl, HB.out⟩
theorem rnil_Word (t : ByteArray) (w : World) : Calls Tryd.prog 26 #[.pointer none, .string t] w fun e w' => e = .returned (.bool false) ∧ Below w.heap.size w w' := by
  go_enter Tryd.func26, Tryd.ntmps26
  go_wp2_with fail
  refine (rnil_pass 1 (by decide) t w).mono ?_
  rintro e w2 ⟨rfl, hb⟩
  have HB := Lib.hid hb
  clear hb
  go_wp2_with fail
  go_ret
  exact ⟨rfl, HB.out⟩
end Go.Proofs.YtklogijbdpghpaaDoor
