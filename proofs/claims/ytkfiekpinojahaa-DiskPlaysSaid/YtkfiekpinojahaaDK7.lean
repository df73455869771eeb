/-
  CONTRACTS of disk: Write.
-/
import Derived.Test.YtkfiekpinojahaaDK6
namespace Go.Proofs.Ytkfiekpinojahaa
open Go.RowKit
set_option linter.unusedVariables false
set_option linter.unusedSimpArgs false
def writeE (s : DSt) (n : Int) (t : ByteArray) : Int := if chkS s n ≠ 0 then chkS s n else if 64 < t.size then 3 else if 4096 ≤ s.pe.length then 12 else if s.steps = 1 then 13 else 0
def pushS (s : DSt) (n : Int) (t : ByteArray) : DSt := { s with pe := s.pe ++ [(n.toNat, t)], steps := s.steps - 1 }
def writeS (s : DSt) (n : Int) (t : ByteArray) : DSt := if chkS s n ≠ 0 ∨ 64 < t.size ∨ 4096 ≤ s.pe.length then s else if s.steps = 1 then crashS (pushS s n t) s.mask else pushS s n t
theorem write_info : (Try.prog.info? 65).map (fun i => (i.zero, i.size, i.bytes)) = some (some (.agg #[.int .i64 0, .string ⟨#[]⟩]), 2, 24) := by kernel_rfl
theorem cell_two_new (w : World) (x y : Value) (t : TypeId) : ∀ j u, [x, y][j]? = some u → (w.alloc (.cells #[x, y] t)).cell? ((⟨w.heap.size, 0, none⟩ : Addr).add j) = some u := fun j u hu => by
  have h : (⟨w.heap.size, 0, none⟩ : Addr).add j = ⟨w.heap.size, j, none⟩ := by unfold Addr.add; split <;> simp_all
  rw [h, (Blk.new w t #[x, y]).cell j]
  simpa using hu
theorem two_cells (n : Int) (t : ByteArray) : ∀ u ∈ [Value.int .i64 n, .string t], u.oneCell' = true := fun u hu => by
  simp at hu
  rcases hu with rfl | rfl <;> rfl
set_option maxRecDepth 5000 in
set_option maxHeartbeats 1600000 in
theorem write_any (K D B : Nat) (v : Value) (s : DSt) (w : World) (hr : Rep w K D B v s) (n : Int) (t : ByteArray) (ht : t.size ≤ 1000) : Calls Try.prog 26 #[.pointer (some ⟨D, 0, none⟩), .int .i64 n, .string t] w fun e w' => e = .returned (.int .i64 (writeE s n t)) ∧ ∃ v', Left w w' K D B v v' (writeS s n t) := by
  have CK := Lib.hid (check_any K D B v s w hr n)
  have HL := Lib.hid (Left.same hr (Below.refl _ _))
  have HR := Lib.hid hr
  by_cases hc : chkS s n = 0
  case neg =>
    have hcc : (chkS s n != 0) = true := by simpa using hc
    have HE : Hid (writeE s n t = chkS s n) := Lib.hid (by unfold writeE; rw [if_pos hc])
    have HT : Hid (writeS s n t = s) := Lib.hid (by unfold writeS; rw [if_pos (.inl hc)])
    generalize writeE s n t = c, chkS s n = k at *
    clear hr hc
    go_enter Try.func26, Try.ntmps26
    go_wp2_with fail
    refine CK.out.mono ?_
    rintro e w1 ⟨rfl, rfl⟩
    go_wp2_with fail
    go_ret
    exact ⟨ret_eq HE.out, _, by rw [HT.out]; exact HL.out⟩
  rw [hc] at CK
  obtain ⟨hdn, n0, nl⟩ := chk_zero hc
  by_cases h64 : 64 < t.size
  · have HE : Hid (writeE s n t = 3) := Lib.hid (by unfold writeE; rw [if_neg (by simp [hc]), if_pos h64])
    have HT : Hid (writeS s n t = s) := Lib.hid (by unfold writeS; rw [if_pos (.inr (.inl h64))])
    generalize writeE s n t = c at *
    clear hr hc
    go_enter Try.func26, Try.ntmps26
    go_wp2_with fail
    refine CK.out.mono ?_
    rintro e w1 ⟨rfl, rfl⟩
    go_wp2_with fail
    go_ret
    exact ⟨ret_eq HE.out, _, by rw [HT.out]; exact HL.out⟩
  obtain ⟨A, cap, rfl⟩ := row_form hr.row
  have d1 := hr.disk.cell 1
  simp at d1
  have l1 := hr.disk.lt
  have lp := hr.lp
  by_cases hf : 4096 ≤ s.pe.length
  · have HE : Hid (writeE s n t = 12) := Lib.hid (by unfold writeE; rw [if_neg (by simp [hc]), if_neg h64, if_pos hf])
    have HT : Hid (writeS s n t = s) := Lib.hid (by unfold writeS; rw [if_pos (.inr (.inr hf))])
    generalize writeE s n t = c at *
    clear hr hc
    generalize s.pe.length = P at *
    have hf' : (4096 : Int) ≤ (P : Int) := by omega
    clear hf lp
    go_enter Try.func26, Try.ntmps26
    go_wp2_with fail
    refine CK.out.mono ?_
    rintro e w1 ⟨rfl, rfl⟩
    go_wp2_with fail
    go_ret
    exact ⟨ret_eq HE.out, _, by rw [HT.out]; exact HL.out⟩
  have HE : Hid (writeE s n t = if s.steps = 1 then 13 else 0) := Lib.hid (by unfold writeE; rw [if_neg (by simp [hc]), if_neg h64, if_neg hf])
  have HT : Hid (writeS s n t = if s.steps = 1 then crashS (pushS s n t) s.mask else pushS s n t) := Lib.hid (by unfold writeS; rw [if_neg (by simp [hc]; omega)])
  generalize writeE s n t = c at *
  have hd := hr.disk
  have f1 := hd.frozen 1
  have HD := Lib.hid hd
  clear hr hc hd hdn
  generalize hP : s.pe.length = P at *
  have HP := Lib.hid hP
  have NZ := Lib.hid (And.intro n0 nl)
  clear n0 nl
  have hf' : decide ((4096 : Int) ≤ (P : Int)) = false := decide_eq_false (by omega)
  have HPL := Lib.hid (show P < 4096 by omega)
  clear hf lp hP
  have hrow := HR.out.row
  rw [HP.out] at hrow
  obtain ⟨i, hi, hz, h1, h2⟩ := info_parts write_info
  have hkd := HR.out.kd
  have HI := Lib.hid hi
  have HZ := Lib.hid hz
  have H1 := Lib.hid h1
  have H2 := Lib.hid h2
  have HO := Lib.hid hrow
  clear hi hz h1 h2 hrow
  go_enter Try.func26, Try.ntmps26
  go_wp2_with fail
  refine CK.out.mono ?_
  rintro e w1 ⟨rfl, rfl⟩
  go_wp2_with (at_builtin; refine wpList_append_own_at _ rfl _ _ 57 rfl K 65 i (.agg #[.int .i64 0, .string ⟨#[]⟩]) 2 24 Try.underlying57 HI.out HZ.out H1.out H2.out rfl (by decide) _ P (wcells s.pe) rfl (row_alloc HO.out _) ⟨w.heap.size, 0, none⟩ 1 1 [.int .i64 n, .string t] rfl rfl (cell_two_new _ _ _ _) (two_cells _ _) (by have := HPL.out; unfold maxLen; omega) (by have := HPL.out; omega) (by simp; omega) ?_; intro v' w5 ho hg hnil hl; obtain ⟨A5, k5, rfl⟩ := row_form ho; have hD5 := Lib.hid ((HD.out.alloc (.cells #[.int .i64 n, .string t] 65)).grown hg (fun e => HR.out.dv e.symm)); have g1 := hD5.out.cell 1; have gf1 := hD5.out.frozen 1; have gl := hD5.out.lt; simp at g1; have HG := Lib.hid hg; have HOO := Lib.hid ho; have HLL := Lib.hid hl; clear hg ho hl hnil)
  refine world_of (P := fun W => Calls Try.prog 33 #[.pointer (some ⟨D, 0, none⟩)] W _) (fun W => Left w W K D B (.slice A P cap) (.slice A5 (P + 1) k5) { s with pe := s.pe ++ [(n.toNat, t)] }) ?_ ?_
  · have hr := HR.out
    have hB5 := (hr.blocks.alloc (.cells #[.int .i64 n, .string t] 65)).grown HG.out (fun e => hr.bv e.symm)
    have hown : ∀ k, (Value.slice A5 (P + 1) k5).ownBlock = some k → (Value.slice A P cap).ownBlock = some k ∨ w.heap.size ≤ k := fun k hk => by
      rcases HLL.out with h | h
      · exact .inl (h ▸ hk)
      · rw [h] at hk
        injection hk with hk
        right
        rw [← hk]
        simp
    have hne : ∀ g, Own D B (Value.slice A P cap) g → g < w.heap.size → (Value.slice A P cap).ownBlock ≠ some g → (Value.slice A5 (P + 1) k5).ownBlock ≠ some g := fun g ho hg hn e => by
      rcases hown g e with h | h
      · exact hn h
      · omega
    refine ⟨⟨?_, hB5.far (Ne.symm hr.db) _, ?_, hr.db, hne D (.inl rfl) hr.disk.lt hr.dv, hne B (.inr (.inl rfl)) hr.blocks.lt hr.bv, hr.kd, hr.kb, ?_, hr.lb, ?_, hr.ls, hr.lm⟩, ?_, hown⟩
    · have := hD5.out.set_ 1 (.slice A5 (P + 1) k5)
      exact this
    · have h1 := row_set HOO.out (p := ⟨D, 1, none⟩) (hne D (.inl rfl) hr.disk.lt hr.dv) (.slice A5 (P + 1) k5)
      simp only [List.length_append, List.length_cons, List.length_nil, wcells_snoc, HP.out]
      have hnn : ((n.toNat : Nat) : Int) = n := by have := NZ.out; omega
      rw [hnn]
      exact h1
    · intro x hx
      rcases List.mem_append.1 hx with hx | hx
      · exact hr.inb x hx
      · rw [List.mem_singleton.1 hx]
        have := NZ.out
        simp only
        omega
    · have := HPL.out
      simp only [List.length_append, List.length_cons, List.length_nil, HP.out]
      omega
    · refine ((((Kp.refl _ w).alloc _).grown HG.out (fun k hk => .inl (.inr (.inr hk)))).set (.inl (.inl rfl)) _)
  rintro W hL
  have NW := Lib.hid (now_any K D B _ _ W hL.rep)
  have HL5 := Lib.hid hL
  clear hL
  by_cases h1 : s.steps = 1
  · simp only [h1, decide_true] at NW
    rw [if_pos h1] at HE HT
    have HS1 := Lib.hid h1
    clear h1 g1 gf1 gl d1 f1 l1
    refine NW.out.mono ?_
    rintro e w2 ⟨rfl, h2⟩
    have HL2 := Lib.hid h2
    have hr2 := h2.rep
    have HM := Lib.hid hr2.lm
    have CC := Lib.hid (crash_any K D B _ _ w2 hr2 (Nat.le_of_lt (Nat.lt_of_le_of_lt hr2.kd hr2.disk.lt)) s.mask HM.out)
    have a4 := hr2.disk.cell 4
    simp at a4
    have l1 := hr2.disk.lt
    clear h2 hr2
    go_wp2_with fail
    refine CC.out.mono ?_
    rintro e w3 ⟨rfl, h3⟩
    go_wp2
    go_ret
    have h4 : crashS ({ s with pe := s.pe ++ [(n.toNat, t)], steps := 1 - 1 } : DSt) s.mask = crashS (pushS s n t) s.mask := by
      unfold pushS
      rw [HS1.out]
    refine ⟨ret_eq HE.out, .slice none 0 0, ?_⟩
    rw [HT.out, ← h4]
    exact (HL5.out.trans HL2.out).trans h3
  · simp only [decide_eq_false h1] at NW
    rw [if_neg h1] at HE HT
    clear h1 g1 gf1 gl d1 f1 l1
    refine NW.out.mono ?_
    rintro e w2 ⟨rfl, h2⟩
    have HL2 := Lib.hid h2
    clear h2
    go_wp2_with fail
    go_ret
    refine ⟨ret_eq HE.out, .slice A5 (P + 1) k5, ?_⟩
    rw [HT.out]
    exact HL5.out.trans HL2.out
end Go.Proofs.Ytkfiekpinojahaa
