/-
  CONTRACTS of disk's specification: what its disk is, its small functions.
-/
import Derived.Test.YtkfiekpinojahaaDK11
namespace Go.Proofs.Ytkfiekpinojahaa.R
open Go.RowKit
set_option linter.unusedVariables false
set_option linter.unusedSimpArgs false
structure Rep (w : World) (K D B : Nat) (v : Value) (s : DSt) : Prop where
  disk : Blk w D 62 #[.slice (some ⟨B, 0, none⟩) s.bl.length s.bl.length, v, .bool s.down, .int .i64 (s.steps : Int), .int .u64 (s.mask : Int)]
  blocks : Blk w B 9 (strs s.bl)
  row : w.ownsRow K 68 2 v s.pe.length (wcells s.pe)
  db : D ≠ B
  dv : v.ownBlock ≠ some D
  bv : v.ownBlock ≠ some B
  kd : K ≤ D
  kb : K ≤ B
  inb : ∀ x ∈ s.pe, x.1 < s.bl.length
  lb : s.bl.length ≤ 4096
  lp : s.pe.length ≤ 4096
  ls : s.steps ≤ 1000000
  lm : s.mask < 18446744073709551616
/-- What a call leaves: the disk in a new state, and the rest of the world as it was. -/
structure Left (w w' : World) (K D B : Nat) (v v' : Value) (s' : DSt) : Prop where
  rep : Rep w' K D B v' s'
  kp : Kp (Own D B v) w w'
  own : ∀ k, v'.ownBlock = some k → v.ownBlock = some k ∨ w.heap.size ≤ k
theorem Rep.kp {w w' : World} {K D B : Nat} {v : Value} {s : DSt} (h : Rep w K D B v s) {S : Nat → Prop} (k : Kp S w w') (hn : ∀ i, Own D B v i → ¬ S i) : Rep w' K D B v s :=
  ⟨k.blk h.disk (hn D (.inl rfl)), k.blk h.blocks (hn B (.inr (.inl rfl))), k.row h.row (fun i hi => hn i (.inr (.inr hi))), h.db, h.dv, h.bv, h.kd, h.kb, h.inb, h.lb, h.lp, h.ls, h.lm⟩
theorem Rep.lt {w : World} {K D B : Nat} {v : Value} {s : DSt} (h : Rep w K D B v s) {i : Nat} (hi : Own D B v i) : K ≤ i ∧ i < w.heap.size := by
  rcases hi with rfl | rfl | hi
  · exact ⟨h.kd, h.disk.lt⟩
  · exact ⟨h.kb, h.blocks.lt⟩
  · exact row_lt h.row hi
theorem Rep.below {w w' : World} {K D B : Nat} {v : Value} {s : DSt} (h : Rep w K D B v s) (k : Below w.heap.size w w') : Rep w' K D B v s :=
  h.kp (S := fun _ => False) (Kp.of k) (fun _ _ h => h)
theorem Left.same {w w' : World} {K D B : Nat} {v : Value} {s : DSt} (h : Rep w K D B v s) (k : Below w.heap.size w w') : Left w w' K D B v v s :=
  ⟨h.below k, Kp.of k, fun _ hk => .inl hk⟩
theorem Left.trans {a b c : World} {K D B : Nat} {v v' v'' : Value} {s' s'' : DSt} (h : Left a b K D B v v' s') (k : Left b c K D B v' v'' s'') : Left a c K D B v v'' s'' :=
  ⟨k.rep, h.kp.then k.kp (fun i hi ho => by
    rcases ho with e | e | e
    · exact .inl e
    · exact .inr (.inl e)
    · rcases h.own i e with h1 | h1
      · exact .inr (.inr h1)
      · omega),
   fun i hi => by
    rcases k.own i hi with h1 | h1
    · exact h.own i h1
    · exact .inr (Nat.le_trans h.kp.size h1)⟩
/-- A block of others is kept, and stays of others. -/
theorem Left.far {w w' : World} {K D B : Nat} {v v' : Value} {s' : DSt} (h : Left w w' K D B v v' s') {g : Nat} (hg : g < w.heap.size) (hn : ¬ Own D B v g) : w'.heap[g]? = w.heap[g]? ∧ ¬ Own D B v' g :=
  ⟨h.kp.block g hg hn, fun ho => by
    rcases ho with e | e | e
    · exact hn (.inl e)
    · exact hn (.inr (.inl e))
    · rcases h.own g e with h1 | h1
      · exact hn (.inr (.inr h1))
      · omega⟩
theorem Left.below {w w' : World} {K D B : Nat} {v v' : Value} {s s' : DSt} (h : Left w w' K D B v v' s') (hr : Rep w K D B v s) {C : Nat} (hC : C ≤ K) (hw : C ≤ w.heap.size) : Below C w w' :=
  h.kp.below (fun k hk ho => by have := hr.lt ho; omega) hw
theorem blocks_any (K D B : Nat) (v : Value) (s : DSt) (w : World) (hr : Rep w K D B v s) : Calls Try.prog 13 #[.pointer (some ⟨D, 0, none⟩)] w fun e w' => e = .returned (.int .i64 (s.bl.length : Int)) ∧ w = w' := by
  have hd := hr.disk
  have hlt := hd.lt
  have d0 := hd.cell 0
  have d1 := hd.cell 1
  have d2 := hd.cell 2
  have d3 := hd.cell 3
  have d4 := hd.cell 4
  have f2 := hd.frozen 2
  have f3 := hd.frozen 3
  have f4 := hd.frozen 4
  simp at d0 d1 d2 d3 d4
  clear hr hd
  go_enter Try.func13, Try.ntmps13
  go_wp2
  go_ret
  exact ⟨rfl, rfl⟩
theorem down_any (K D B : Nat) (v : Value) (s : DSt) (w : World) (hr : Rep w K D B v s) : Calls Try.prog 17 #[.pointer (some ⟨D, 0, none⟩)] w fun e w' => e = .returned (.bool s.down) ∧ w = w' := by
  have hd := hr.disk
  have hlt := hd.lt
  have d0 := hd.cell 0
  have d1 := hd.cell 1
  have d2 := hd.cell 2
  have d3 := hd.cell 3
  have d4 := hd.cell 4
  have f2 := hd.frozen 2
  have f3 := hd.frozen 3
  have f4 := hd.frozen 4
  simp at d0 d1 d2 d3 d4
  clear hr hd
  go_enter Try.func17, Try.ntmps17
  go_wp2
  go_ret
  exact ⟨rfl, rfl⟩
theorem pending_any (K D B : Nat) (v : Value) (s : DSt) (w : World) (hr : Rep w K D B v s) : Calls Try.prog 15 #[.pointer (some ⟨D, 0, none⟩)] w fun e w' => e = .returned (.int .i64 (s.pe.length : Int)) ∧ w = w' := by
  obtain ⟨A, cap, hv⟩ := row_form hr.row
  have hd := hr.disk
  have hlt := hd.lt
  have d0 := hd.cell 0
  have d1 := hd.cell 1
  have d2 := hd.cell 2
  have d3 := hd.cell 3
  have d4 := hd.cell 4
  have f2 := hd.frozen 2
  have f3 := hd.frozen 3
  have f4 := hd.frozen 4
  simp at d0 d1 d2 d3 d4
  clear hr hd
  subst hv
  go_enter Try.func15, Try.ntmps15
  go_wp2
  go_ret
  exact ⟨rfl, rfl⟩
/-- A store of a new steps, mask, down. -/
theorem Rep.field {K D B : Nat} {v : Value} {s s' : DSt} {w w' : World} (hr : Rep w K D B v s) (hd : Blk w' D 62 #[.slice (some ⟨B, 0, none⟩) s'.bl.length s'.bl.length, v, .bool s'.down, .int .i64 (s'.steps : Int), .int .u64 (s'.mask : Int)]) (hk : Kp (fun k => k = D) w w') (h1 : s'.bl = s.bl) (h2 : s'.pe = s.pe) (h3 : s'.steps ≤ 1000000) (h4 : s'.mask < 18446744073709551616) : Left w w' K D B v v s' :=
  ⟨⟨hd, by rw [h1]; exact hk.blk hr.blocks hr.db.symm, by rw [h2]; exact hk.row hr.row (fun k hk e => hr.dv (e ▸ hk)), hr.db, hr.dv, hr.bv, hr.kd, hr.kb, by rw [h1, h2]; exact hr.inb, by rw [h1]; exact hr.lb, by rw [h2]; exact hr.lp, h3, h4⟩, hk.weak (fun k hk => .inl hk), fun k hk => .inl hk⟩
theorem recover_any (K D B : Nat) (v : Value) (s : DSt) (w : World) (hr : Rep w K D B v s) : Calls Try.prog 32 #[.pointer (some ⟨D, 0, none⟩)] w fun e w' => e = .returned (.int .i64 (if s.down = true then 0 else 8)) ∧ Left w w' K D B v v { s with down := false } := by
  have hd := hr.disk
  have hlt := hd.lt
  have d0 := hd.cell 0
  have d1 := hd.cell 1
  have d2 := hd.cell 2
  have d3 := hd.cell 3
  have d4 := hd.cell 4
  have f2 := hd.frozen 2
  have f3 := hd.frozen 3
  have f4 := hd.frozen 4
  simp at d0 d1 d2 d3 d4
  have HR := Lib.hid hr
  have HD := Lib.hid hd
  have HL := Lib.hid (Left.same hr (Below.refl _ _))
  have ls := Lib.hid hr.ls
  have lm := Lib.hid hr.lm
  obtain ⟨bl, pe, down, steps, mask⟩ := s
  simp only at *
  clear hr hd
  cases down
  · go_enter Try.func32, Try.ntmps32
    go_wp2
    go_ret
    exact ⟨rfl, HL.out⟩
  · go_enter Try.func32, Try.ntmps32
    go_wp2
    go_ret
    exact ⟨rfl, HR.out.field (HD.out.set_ 2 _) ((Kp.refl (fun k => k = D) w).set (.inl rfl) _) rfl rfl ls.out lm.out⟩
theorem arm_any (K D B : Nat) (v : Value) (s : DSt) (w : World) (hr : Rep w K D B v s) (n : Int) (m : Nat) (hm : m < 18446744073709551616) : Calls Try.prog 31 #[.pointer (some ⟨D, 0, none⟩), .int .i64 n, .int .u64 (m : Int)] w fun e w' => e = .returned (.int .i64 (armE s n)) ∧ Left w w' K D B v v (armS s n m) := by
  have hd := hr.disk
  have hlt := hd.lt
  have d0 := hd.cell 0
  have d1 := hd.cell 1
  have d2 := hd.cell 2
  have d3 := hd.cell 3
  have d4 := hd.cell 4
  have f2 := hd.frozen 2
  have f3 := hd.frozen 3
  have f4 := hd.frozen 4
  simp at d0 d1 d2 d3 d4
  have HR := Lib.hid hr
  have HD := Lib.hid hd
  have HL := Lib.hid (Left.same hr (Below.refl _ _))
  have HM := Lib.hid hm
  clear hm
  have HE : Hid (armE s n = if s.down = true then 13 else if n < 0 ∨ 1000000 < n then 4 else 0) := Lib.hid rfl
  have HS : Hid (armS s n m = if s.down = true ∨ n < 0 ∨ 1000000 < n then s else { s with steps := n.toNat, mask := m }) := Lib.hid rfl
  generalize armE s n = c, armS s n m = s' at *
  obtain ⟨bl, pe, down, steps, mask⟩ := s
  simp only at *
  clear hr hd
  cases down
  · by_cases h1 : n < 0
    · have HX : Hid (c = 4) := Lib.hid (by rw [HE.out, if_neg (by simp), if_pos (.inl h1)])
      go_enter Try.func31, Try.ntmps31
      go_wp2
      go_ret
      exact ⟨ret_eq HX.out, by rw [HS.out, if_pos (.inr (.inl h1))]; exact HL.out⟩
    · by_cases h2 : 1000000 < n
      · have HX : Hid (c = 4) := Lib.hid (by rw [HE.out, if_neg (by simp), if_pos (.inr h2)])
        go_enter Try.func31, Try.ntmps31
        go_wp2
        go_ret
        exact ⟨ret_eq HX.out, by rw [HS.out, if_pos (.inr (.inr h2))]; exact HL.out⟩
      · have hn : ((n.toNat : Nat) : Int) = n := by omega
        have HN := Lib.hid hn
        have HX : Hid (c = 0) := Lib.hid (by rw [HE.out, if_neg (by simp), if_neg (by omega)])
        go_enter Try.func31, Try.ntmps31
        go_wp2
        go_ret
        refine ⟨ret_eq HX.out, ?_⟩
        rw [HS.out, if_neg (by simp; omega)]
        refine HR.out.field ?_ (((Kp.refl (fun k => k = D) w).set (.inl rfl) _).set (.inl rfl) _) rfl rfl (by simp only; omega) HM.out
        have := (HD.out.set_ 3 (.int .i64 n)).set_ 4 (.int .u64 (m : Int))
        simp only [HN.out]
        exact this
  · have HX : Hid (c = 13) := Lib.hid (by rw [HE.out, if_pos rfl])
    have HY := Lib.hid (HS.out.trans (if_pos (.inl rfl)))
    clear HS
    go_enter Try.func31, Try.ntmps31
    go_wp2
    go_ret
    exact ⟨ret_eq HX.out, by rw [HY.out]; exact HL.out⟩
/-- fails counts a step. -/
theorem now_any (K D B : Nat) (v : Value) (s : DSt) (w : World) (hr : Rep w K D B v s) : Calls Try.prog 36 #[.pointer (some ⟨D, 0, none⟩)] w fun e w' => e = .returned (.bool (decide (s.steps = 1))) ∧ Left w w' K D B v v { s with steps := s.steps - 1 } := by
  have hd := hr.disk
  have hlt := hd.lt
  have d0 := hd.cell 0
  have d1 := hd.cell 1
  have d2 := hd.cell 2
  have d3 := hd.cell 3
  have d4 := hd.cell 4
  have f2 := hd.frozen 2
  have f3 := hd.frozen 3
  have f4 := hd.frozen 4
  simp at d0 d1 d2 d3 d4
  have HR := Lib.hid hr
  have HD := Lib.hid hd
  have HL := Lib.hid (Left.same hr (Below.refl _ _))
  have ls := hr.ls
  have lm := Lib.hid hr.lm
  obtain ⟨bl, pe, down, steps, mask⟩ := s
  simp only at *
  clear hr hd
  by_cases h0 : steps = 0
  · subst h0
    go_enter Try.func36, Try.ntmps36
    go_wp2
    go_ret
    exact ⟨rfl, HL.out⟩
  · have h1 : ((steps : Int) == 0) = false := beq_false_of_ne (by omega)
    have HN : Hid (((steps - 1 : Nat) : Int) = (steps : Int) - 1) := Lib.hid (by omega)
    by_cases h2 : steps = 1
    · subst h2
      go_enter Try.func36, Try.ntmps36
      go_wp2
      go_ret
      exact ⟨rfl, HR.out.field (HD.out.set_ 3 _) ((Kp.refl (fun k => k = D) w).set (.inl rfl) _) rfl rfl (by simp) lm.out⟩
    · have HD2 := Lib.hid (decide_eq_false h2)
      have h3 : ((steps : Int) - 1 == 0) = false := beq_false_of_ne (by omega)
      go_enter Try.func36, Try.ntmps36
      go_wp2
      go_ret
      refine ⟨congrArg (fun b => Ending.returned (.bool b)) HD2.out.symm, HR.out.field ?_ ((Kp.refl (fun k => k = D) w).set (.inl rfl) _) rfl rfl (by simp only; omega) lm.out⟩
      simp only [HN.out]
      exact HD.out.set_ 3 _
end Go.Proofs.Ytkfiekpinojahaa.R
