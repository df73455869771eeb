/-
  CONTRACTS of disk: the small functions of the program.
-/
import Derived.Test.YtkfiekpinojahaaDK1
namespace Go.Proofs.Ytkfiekpinojahaa
open Go.RowKit
set_option linter.unusedVariables false
set_option linter.unusedSimpArgs false
theorem ret_eq {c d : Int} (h : c = d) : Ending.returned (.int .i64 d) = Ending.returned (.int .i64 c) := by rw [h]
/-- What check answers. -/
def chkS (s : DSt) (n : Int) : Int := if s.down = true then 13 else if n < 0 ∨ (s.bl.length : Int) ≤ n then 4 else 0
theorem check_any (K D B : Nat) (v : Value) (s : DSt) (w : World) (hr : Rep w K D B v s) (n : Int) : Calls Try.prog 35 #[.pointer (some ⟨D, 0, none⟩), .int .i64 n] w fun e w' => e = .returned (.int .i64 (chkS s n)) ∧ w = w' := by
  have hd := hr.disk
  have hlt := hd.lt
  have d0 := hd.cell 0
  have d1 := hd.cell 1
  have d2 := hd.cell 2
  have d3 := hd.cell 3
  have d4 := hd.cell 4
  have f2 := hd.frozen 2
  have f3 := hd.frozen 3
  have f4 := hd.frozen 4
  simp at d0 d1 d2 d3 d4
  have lb := hr.lb
  have HC : Hid (chkS s n = if s.down = true then 13 else if n < 0 ∨ (s.bl.length : Int) ≤ n then 4 else 0) := Lib.hid rfl
  generalize chkS s n = c at *
  obtain ⟨bl, pe, down, steps, mask⟩ := s
  simp only at *
  clear hr hd
  generalize bl.length = L at *
  cases down
  · by_cases h1 : n < 0
    · have HX : Hid (c = 4) := Lib.hid (by rw [HC.out, if_neg (by simp), if_pos (.inl h1)])
      go_enter Try.func35, Try.ntmps35
      go_wp2
      go_ret
      exact ⟨ret_eq HX.out, rfl⟩
    · by_cases h2 : (L : Int) ≤ n
      · have HX : Hid (c = 4) := Lib.hid (by rw [HC.out, if_neg (by simp), if_pos (.inr h2)])
        go_enter Try.func35, Try.ntmps35
        go_wp2
        go_ret
        exact ⟨ret_eq HX.out, rfl⟩
      · have HX : Hid (c = 0) := Lib.hid (by rw [HC.out, if_neg (by simp), if_neg (by omega)])
        go_enter Try.func35, Try.ntmps35
        go_wp2
        go_ret
        exact ⟨ret_eq HX.out, rfl⟩
  · have HX : Hid (c = 13) := Lib.hid (by rw [HC.out, if_pos rfl])
    go_enter Try.func35, Try.ntmps35
    go_wp2
    go_ret
    exact ⟨ret_eq HX.out, rfl⟩
theorem blocks_any (K D B : Nat) (v : Value) (s : DSt) (w : World) (hr : Rep w K D B v s) : Calls Try.prog 12 #[.pointer (some ⟨D, 0, none⟩)] w fun e w' => e = .returned (.int .i64 (s.bl.length : Int)) ∧ w = w' := by
  have hd := hr.disk
  have hlt := hd.lt
  have d0 := hd.cell 0
  have d1 := hd.cell 1
  have d2 := hd.cell 2
  have d3 := hd.cell 3
  have d4 := hd.cell 4
  have f2 := hd.frozen 2
  have f3 := hd.frozen 3
  have f4 := hd.frozen 4
  simp at d0 d1 d2 d3 d4
  clear hr hd
  go_enter Try.func12, Try.ntmps12
  go_wp2
  go_ret
  exact ⟨rfl, rfl⟩
theorem down_any (K D B : Nat) (v : Value) (s : DSt) (w : World) (hr : Rep w K D B v s) : Calls Try.prog 16 #[.pointer (some ⟨D, 0, none⟩)] w fun e w' => e = .returned (.bool s.down) ∧ w = w' := by
  have hd := hr.disk
  have hlt := hd.lt
  have d0 := hd.cell 0
  have d1 := hd.cell 1
  have d2 := hd.cell 2
  have d3 := hd.cell 3
  have d4 := hd.cell 4
  have f2 := hd.frozen 2
  have f3 := hd.frozen 3
  have f4 := hd.frozen 4
  simp at d0 d1 d2 d3 d4
  clear hr hd
  go_enter Try.func16, Try.ntmps16
  go_wp2
  go_ret
  exact ⟨rfl, rfl⟩
theorem row_form {w : World} {K : Nat} {e : TypeId} {z n : Nat} {v : Value} {xs : List Value} (hr : w.ownsRow K e z v n xs) : ∃ A cap, v = .slice A n cap := by
  obtain ⟨h1, ⟨rfl, rfl⟩ | ⟨g, cap, cur, rfl, _⟩⟩ := hr
  · exact ⟨none, 0, rfl⟩
  · exact ⟨_, _, rfl⟩
theorem pending_any (K D B : Nat) (v : Value) (s : DSt) (w : World) (hr : Rep w K D B v s) : Calls Try.prog 14 #[.pointer (some ⟨D, 0, none⟩)] w fun e w' => e = .returned (.int .i64 (s.pe.length : Int)) ∧ w = w' := by
  obtain ⟨A, cap, hv⟩ := row_form hr.row
  have hd := hr.disk
  have hlt := hd.lt
  have d0 := hd.cell 0
  have d1 := hd.cell 1
  have d2 := hd.cell 2
  have d3 := hd.cell 3
  have d4 := hd.cell 4
  have f2 := hd.frozen 2
  have f3 := hd.frozen 3
  have f4 := hd.frozen 4
  simp at d0 d1 d2 d3 d4
  clear hr hd
  subst hv
  go_enter Try.func14, Try.ntmps14
  go_wp2
  go_ret
  exact ⟨rfl, rfl⟩
/-- A store of a new steps, mask, down. -/
theorem Rep.field {K D B : Nat} {v : Value} {s s' : DSt} {w w' : World} (hr : Rep w K D B v s) (hd : Blk w' D 59 #[.slice (some ⟨B, 0, none⟩) s'.bl.length s'.bl.length, v, .bool s'.down, .int .i64 (s'.steps : Int), .int .u64 (s'.mask : Int)]) (hk : Kp (fun k => k = D) w w') (h1 : s'.bl = s.bl) (h2 : s'.pe = s.pe) (h3 : s'.steps ≤ 1000000) (h4 : s'.mask < 18446744073709551616) : Left w w' K D B v v s' :=
  ⟨⟨hd, by rw [h1]; exact hk.blk hr.blocks hr.db.symm, by rw [h2]; exact hk.row hr.row (fun k hk e => hr.dv (e ▸ hk)), hr.db, hr.dv, hr.bv, hr.kd, hr.kb, by rw [h1, h2]; exact hr.inb, by rw [h1]; exact hr.lb, by rw [h2]; exact hr.lp, h3, h4⟩, hk.weak (fun k hk => .inl hk), fun k hk => .inl hk⟩
theorem recover_any (K D B : Nat) (v : Value) (s : DSt) (w : World) (hr : Rep w K D B v s) : Calls Try.prog 24 #[.pointer (some ⟨D, 0, none⟩)] w fun e w' => e = .returned (.int .i64 (if s.down = true then 0 else 8)) ∧ Left w w' K D B v v { s with down := false } := by
  have hd := hr.disk
  have hlt := hd.lt
  have d0 := hd.cell 0
  have d1 := hd.cell 1
  have d2 := hd.cell 2
  have d3 := hd.cell 3
  have d4 := hd.cell 4
  have f2 := hd.frozen 2
  have f3 := hd.frozen 3
  have f4 := hd.frozen 4
  simp at d0 d1 d2 d3 d4
  have HR := Lib.hid hr
  have HD := Lib.hid hd
  have HL := Lib.hid (Left.same hr (Below.refl _ _))
  have ls := Lib.hid hr.ls
  have lm := Lib.hid hr.lm
  obtain ⟨bl, pe, down, steps, mask⟩ := s
  simp only at *
  clear hr hd
  cases down
  · go_enter Try.func24, Try.ntmps24
    go_wp2
    go_ret
    exact ⟨rfl, HL.out⟩
  · go_enter Try.func24, Try.ntmps24
    go_wp2
    go_ret
    exact ⟨rfl, HR.out.field (HD.out.set_ 2 _) ((Kp.refl (fun k => k = D) w).set (.inl rfl) _) rfl rfl ls.out lm.out⟩
/-- What Arm leaves. -/
def armS (s : DSt) (n : Int) (m : Nat) : DSt := if s.down = true ∨ n < 0 ∨ 1000000 < n then s else { s with steps := n.toNat, mask := m }
def armE (s : DSt) (n : Int) : Int := if s.down = true then 13 else if n < 0 ∨ 1000000 < n then 4 else 0
theorem arm_any (K D B : Nat) (v : Value) (s : DSt) (w : World) (hr : Rep w K D B v s) (n : Int) (m : Nat) (hm : m < 18446744073709551616) : Calls Try.prog 25 #[.pointer (some ⟨D, 0, none⟩), .int .i64 n, .int .u64 (m : Int)] w fun e w' => e = .returned (.int .i64 (armE s n)) ∧ Left w w' K D B v v (armS s n m) := by
  have hd := hr.disk
  have hlt := hd.lt
  have d0 := hd.cell 0
  have d1 := hd.cell 1
  have d2 := hd.cell 2
  have d3 := hd.cell 3
  have d4 := hd.cell 4
  have f2 := hd.frozen 2
  have f3 := hd.frozen 3
  have f4 := hd.frozen 4
  simp at d0 d1 d2 d3 d4
  have HR := Lib.hid hr
  have HD := Lib.hid hd
  have HL := Lib.hid (Left.same hr (Below.refl _ _))
  have HM := Lib.hid hm
  clear hm
  have HE : Hid (armE s n = if s.down = true then 13 else if n < 0 ∨ 1000000 < n then 4 else 0) := Lib.hid rfl
  have HS : Hid (armS s n m = if s.down = true ∨ n < 0 ∨ 1000000 < n then s else { s with steps := n.toNat, mask := m }) := Lib.hid rfl
  generalize armE s n = c, armS s n m = s' at *
  obtain ⟨bl, pe, down, steps, mask⟩ := s
  simp only at *
  clear hr hd
  cases down
  · by_cases h1 : n < 0
    · have HX : Hid (c = 4) := Lib.hid (by rw [HE.out, if_neg (by simp), if_pos (.inl h1)])
      go_enter Try.func25, Try.ntmps25
      go_wp2
      go_ret
      exact ⟨ret_eq HX.out, by rw [HS.out, if_pos (.inr (.inl h1))]; exact HL.out⟩
    · by_cases h2 : 1000000 < n
      · have HX : Hid (c = 4) := Lib.hid (by rw [HE.out, if_neg (by simp), if_pos (.inr h2)])
        go_enter Try.func25, Try.ntmps25
        go_wp2
        go_ret
        exact ⟨ret_eq HX.out, by rw [HS.out, if_pos (.inr (.inr h2))]; exact HL.out⟩
      · have hn : ((n.toNat : Nat) : Int) = n := by omega
        have HN := Lib.hid hn
        have HX : Hid (c = 0) := Lib.hid (by rw [HE.out, if_neg (by simp), if_neg (by omega)])
        go_enter Try.func25, Try.ntmps25
        go_wp2
        go_ret
        refine ⟨ret_eq HX.out, ?_⟩
        rw [HS.out, if_neg (by simp; omega)]
        refine HR.out.field ?_ (((Kp.refl (fun k => k = D) w).set (.inl rfl) _).set (.inl rfl) _) rfl rfl (by simp only; omega) HM.out
        have := (HD.out.set_ 3 (.int .i64 n)).set_ 4 (.int .u64 (m : Int))
        simp only [HN.out]
        exact this
  · have HX : Hid (c = 13) := Lib.hid (by rw [HE.out, if_pos rfl])
    have HY := Lib.hid (HS.out.trans (if_pos (.inl rfl)))
    clear HS
    go_enter Try.func25, Try.ntmps25
    go_wp2
    go_ret
    exact ⟨ret_eq HX.out, by rw [HY.out]; exact HL.out⟩
/-- crashesNow counts a step. -/
theorem now_any (K D B : Nat) (v : Value) (s : DSt) (w : World) (hr : Rep w K D B v s) : Calls Try.prog 33 #[.pointer (some ⟨D, 0, none⟩)] w fun e w' => e = .returned (.bool (decide (s.steps = 1))) ∧ Left w w' K D B v v { s with steps := s.steps - 1 } := by
  have hd := hr.disk
  have hlt := hd.lt
  have d0 := hd.cell 0
  have d1 := hd.cell 1
  have d2 := hd.cell 2
  have d3 := hd.cell 3
  have d4 := hd.cell 4
  have f2 := hd.frozen 2
  have f3 := hd.frozen 3
  have f4 := hd.frozen 4
  simp at d0 d1 d2 d3 d4
  have HR := Lib.hid hr
  have HD := Lib.hid hd
  have HL := Lib.hid (Left.same hr (Below.refl _ _))
  have ls := hr.ls
  have lm := Lib.hid hr.lm
  obtain ⟨bl, pe, down, steps, mask⟩ := s
  simp only at *
  clear hr hd
  by_cases h0 : steps = 0
  · subst h0
    go_enter Try.func33, Try.ntmps33
    go_wp2
    go_ret
    exact ⟨rfl, HL.out⟩
  · have h1 : ((steps : Int) == 0) = false := beq_false_of_ne (by omega)
    have HN : Hid (((steps - 1 : Nat) : Int) = (steps : Int) - 1) := Lib.hid (by omega)
    by_cases h2 : steps = 1
    · subst h2
      go_enter Try.func33, Try.ntmps33
      go_wp2
      go_ret
      exact ⟨rfl, HR.out.field (HD.out.set_ 3 _) ((Kp.refl (fun k => k = D) w).set (.inl rfl) _) rfl rfl (by simp) lm.out⟩
    · have HD2 := Lib.hid (decide_eq_false h2)
      have h3 : ((steps : Int) - 1 == 0) = false := beq_false_of_ne (by omega)
      go_enter Try.func33, Try.ntmps33
      go_wp2
      go_ret
      refine ⟨congrArg (fun b => Ending.returned (.bool b)) HD2.out.symm, HR.out.field ?_ ((Kp.refl (fun k => k = D) w).set (.inl rfl) _) rfl rfl (by simp only; omega) lm.out⟩
      simp only [HN.out]
      exact HD.out.set_ 3 _
end Go.Proofs.Ytkfiekpinojahaa
