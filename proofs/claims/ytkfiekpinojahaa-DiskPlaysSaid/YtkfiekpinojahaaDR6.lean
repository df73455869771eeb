/-
  CONTRACTS of disk, both: a nil disk; what one disk does and the other.
-/
import Derived.Test.YtkfiekpinojahaaDR3
import Derived.Test.YtkfiekpinojahaaDR4
import Derived.Test.YtkfiekpinojahaaDR5
namespace Go.Proofs.Ytkfiekpinojahaa
open Go.RowKit
set_option linter.unusedVariables false
set_option linter.unusedSimpArgs false
theorem nil_check (n : Int) (w : World) : Calls Try.prog 35 #[.pointer none, .int .i64 n] w fun e w' => e = .returned (.int .i64 6) ∧ w = w' := by
  go_enter Try.func35, Try.ntmps35
  go_wp2
  go_ret
  exact ⟨rfl, rfl⟩
theorem nil_write (n : Int) (t : ByteArray) (w : World) : Calls Try.prog 26 #[.pointer none, .int .i64 n, .string t] w fun e w' => e = .returned (.int .i64 6) ∧ w = w' := by
  go_enter Try.func26, Try.ntmps26
  go_wp2_with fail
  refine (nil_check _ _).mono ?_
  rintro e w1 ⟨rfl, rfl⟩
  go_wp2
  go_ret
  exact ⟨rfl, rfl⟩
theorem nil_read (n : Int) (w : World) : Calls Try.prog 23 #[.pointer none, .int .i64 n] w fun e w' => e = .returned (.tuple #[.string ⟨#[]⟩, .int .i64 6]) ∧ w = w' := by
  go_enter Try.func23, Try.ntmps23
  go_wp2_with fail
  refine (nil_check _ _).mono ?_
  rintro e w1 ⟨rfl, rfl⟩
  go_wp2
  go_ret2
  exact ⟨rfl, rfl⟩
theorem nil_flush (w : World) : Calls Try.prog 21 #[.pointer none] w fun e w' => e = .returned (.int .i64 6) ∧ w = w' := by
  go_enter Try.func21, Try.ntmps21
  go_wp2
  go_ret
  exact ⟨rfl, rfl⟩
theorem nil_crash (m : Int) (w : World) : Calls Try.prog 22 #[.pointer none, .int .u64 m] w fun e w' => e = .returned (.int .i64 6) ∧ w = w' := by
  go_enter Try.func22, Try.ntmps22
  go_wp2
  go_ret
  exact ⟨rfl, rfl⟩
theorem nil_arm (n m : Int) (w : World) : Calls Try.prog 25 #[.pointer none, .int .i64 n, .int .u64 m] w fun e w' => e = .returned (.int .i64 6) ∧ w = w' := by
  go_enter Try.func25, Try.ntmps25
  go_wp2
  go_ret
  exact ⟨rfl, rfl⟩
theorem nil_recover (w : World) : Calls Try.prog 24 #[.pointer none] w fun e w' => e = .returned (.int .i64 6) ∧ w = w' := by
  go_enter Try.func24, Try.ntmps24
  go_wp2
  go_ret
  exact ⟨rfl, rfl⟩
theorem nil_blocks (w : World) : Calls Try.prog 12 #[.pointer none] w fun e w' => e = .returned (.int .i64 0) ∧ w = w' := by
  go_enter Try.func12, Try.ntmps12
  go_wp2
  go_ret
  exact ⟨rfl, rfl⟩
theorem nil_pending (w : World) : Calls Try.prog 14 #[.pointer none] w fun e w' => e = .returned (.int .i64 0) ∧ w = w' := by
  go_enter Try.func14, Try.ntmps14
  go_wp2
  go_ret
  exact ⟨rfl, rfl⟩
theorem nil_down (w : World) : Calls Try.prog 16 #[.pointer none] w fun e w' => e = .returned (.bool false) ∧ w = w' := by
  go_enter Try.func16, Try.ntmps16
  go_wp2
  go_ret
  exact ⟨rfl, rfl⟩
theorem rnil_flush (w : World) : Calls Try.prog 29 #[.pointer none] w fun e w' => e = .returned (.int .i64 6) ∧ w = w' := by
  go_enter Try.func29, Try.ntmps29
  go_wp2
  go_ret
  exact ⟨rfl, rfl⟩
theorem rnil_crash (m : Int) (w : World) : Calls Try.prog 30 #[.pointer none, .int .u64 m] w fun e w' => e = .returned (.int .i64 6) ∧ w = w' := by
  go_enter Try.func30, Try.ntmps30
  go_wp2
  go_ret
  exact ⟨rfl, rfl⟩
theorem rnil_arm (n m : Int) (w : World) : Calls Try.prog 31 #[.pointer none, .int .i64 n, .int .u64 m] w fun e w' => e = .returned (.int .i64 6) ∧ w = w' := by
  go_enter Try.func31, Try.ntmps31
  go_wp2
  go_ret
  exact ⟨rfl, rfl⟩
theorem rnil_recover (w : World) : Calls Try.prog 32 #[.pointer none] w fun e w' => e = .returned (.int .i64 6) ∧ w = w' := by
  go_enter Try.func32, Try.ntmps32
  go_wp2
  go_ret
  exact ⟨rfl, rfl⟩
theorem rnil_blocks (w : World) : Calls Try.prog 13 #[.pointer none] w fun e w' => e = .returned (.int .i64 0) ∧ w = w' := by
  go_enter Try.func13, Try.ntmps13
  go_wp2
  go_ret
  exact ⟨rfl, rfl⟩
theorem rnil_pending (w : World) : Calls Try.prog 15 #[.pointer none] w fun e w' => e = .returned (.int .i64 0) ∧ w = w' := by
  go_enter Try.func15, Try.ntmps15
  go_wp2
  go_ret
  exact ⟨rfl, rfl⟩
theorem rnil_down (w : World) : Calls Try.prog 17 #[.pointer none] w fun e w' => e = .returned (.bool false) ∧ w = w' := by
  go_enter Try.func17, Try.ntmps17
  go_wp2
  go_ret
  exact ⟨rfl, rfl⟩
theorem rnil_write (n : Int) (t : ByteArray) (w : World) : Calls Try.prog 27 #[.pointer none, .int .i64 n, .string t] w fun e w' => e = .returned (.int .i64 6) ∧ w = w' := by
  go_enter Try.func27, Try.ntmps27
  go_wp2
  go_ret
  exact ⟨rfl, rfl⟩
theorem rnil_read (n : Int) (w : World) : Calls Try.prog 28 #[.pointer none, .int .i64 n] w fun e w' => e = .returned (.tuple #[.string ⟨#[]⟩, .int .i64 6]) ∧ w = w' := by
  go_enter Try.func28, Try.ntmps28
  go_wp2
  go_ret2
  exact ⟨rfl, rfl⟩
/-- The two states say the same. -/
structure Sim (s r : DSt) : Prop where
  bl : s.bl = r.bl
  pe : s.pe = r.pe
  down : s.down = r.down
  steps : s.steps = r.steps
  mask : s.steps = 0 ∨ s.mask = r.mask
theorem Sim.refl (s : DSt) : Sim s s := ⟨rfl, rfl, rfl, rfl, .inr rfl⟩
theorem Sim.chk {s r : DSt} (h : Sim s r) (n : Int) : chkS s n = chkS r n := by unfold chkS; rw [h.down, h.bl]
theorem Sim.read {s r : DSt} (h : Sim s r) (n : Int) : readT s n = readT r n := by unfold readT curS; rw [h.chk, h.bl, h.pe]
theorem Sim.form {s r : DSt} (h : Sim s r) : ∃ m', r = { s with mask := m' } ∧ (s.steps = 0 ∨ s.mask = m') := by
  obtain ⟨bl, pe, down, steps, mask⟩ := s
  obtain ⟨bl', pe', down', steps', mask'⟩ := r
  obtain ⟨h1, h2, h3, h4, h5⟩ := h
  simp only at h1 h2 h3 h4 h5
  subst h1 h2 h3 h4
  exact ⟨mask', rfl, h5⟩
theorem Sim.crash {s r : DSt} (h : Sim s r) (m : Nat) : Sim (crashS s m) (R.crashR r m) := by
  obtain ⟨m', rfl, h5⟩ := h.form
  exact ⟨rfl, rfl, rfl, rfl, .inl rfl⟩
theorem Sim.crashT {s r : DSt} (h : Sim s r) (m : Nat) : Sim (crashT s m) (R.crashU r m) := by
  have hc := h.crash m
  obtain ⟨m', rfl, h5⟩ := h.form
  unfold Go.Proofs.Ytkfiekpinojahaa.crashT R.crashU
  by_cases hd : s.down = true
  · rw [if_pos hd, if_pos hd]; exact h
  · rw [if_neg hd, if_neg hd]; exact hc
theorem Sim.flush {s r : DSt} (h : Sim s r) : flushE s = flushE r ∧ Sim (flushS s) (R.flushR r) := by
  obtain ⟨m', rfl, h5⟩ := h.form
  refine ⟨rfl, ?_⟩
  unfold flushS R.flushR
  by_cases hd : s.down = true
  · rw [if_pos hd, if_pos hd]; exact h
  · rw [if_neg hd, if_neg hd]
    by_cases h1 : s.steps = 1
    · rw [if_pos h1, if_pos h1]
      have hm : s.mask = m' := by rcases h5 with h3 | h3; omega; exact h3
      have hq := Sim.crash (s := { s with steps := s.steps - 1 }) (r := { s with steps := s.steps - 1, mask := m' }) ⟨rfl, rfl, rfl, rfl, .inr hm⟩ s.mask
      rw [hm] at hq ⊢
      exact hq
    · rw [if_neg h1, if_neg h1]
      exact ⟨rfl, rfl, rfl, rfl, by rcases h5 with h3 | h3; left; simp only; omega; exact .inr h3⟩
theorem Sim.write {s r : DSt} (h : Sim s r) (n : Int) (t : ByteArray) : writeE s n t = writeE r n t ∧ Sim (writeS s n t) (R.writeR r n t) := by
  obtain ⟨m', rfl, h5⟩ := h.form
  refine ⟨rfl, ?_⟩
  unfold writeS R.writeR
  have hk : chkS { s with mask := m' } n = chkS s n := rfl
  rw [hk]
  by_cases hc : chkS s n ≠ 0 ∨ 64 < t.size ∨ 4096 ≤ s.pe.length
  · rw [if_pos hc, if_pos hc]; exact h
  · rw [if_neg hc, if_neg hc]
    by_cases h1 : s.steps = 1
    · rw [if_pos h1, if_pos h1]
      have hm : s.mask = m' := by rcases h5 with h3 | h3; omega; exact h3
      have hq := Sim.crash (s := pushS s n t) (r := pushS { s with mask := m' } n t) ⟨rfl, rfl, rfl, rfl, .inr hm⟩ s.mask
      rw [hm] at hq ⊢
      exact hq
    · rw [if_neg h1, if_neg h1]
      exact ⟨rfl, rfl, rfl, rfl, by rcases h5 with h3 | h3; left; unfold pushS; simp only; omega; exact .inr h3⟩
theorem Sim.arm {s r : DSt} (h : Sim s r) (n : Int) (m : Nat) : armE s n = armE r n ∧ Sim (armS s n m) (armS r n m) := by
  obtain ⟨m', rfl, h5⟩ := h.form
  refine ⟨rfl, ?_⟩
  unfold armS
  by_cases hc : s.down = true ∨ n < 0 ∨ 1000000 < n
  · rw [if_pos hc, if_pos hc]; exact h
  · rw [if_neg hc, if_neg hc]
    exact ⟨rfl, rfl, rfl, rfl, .inr rfl⟩
theorem Sim.recover {s r : DSt} (h : Sim s r) : Sim { s with down := false } { r with down := false } := ⟨h.bl, h.pe, rfl, h.steps, h.mask⟩
theorem R.Rep.mono {w : World} {K K' D B : Nat} {v : Value} {s : DSt} (h : R.Rep w K D B v s) (hK : K' ≤ K) : R.Rep w K' D B v s :=
  ⟨h.disk, h.blocks, by
    obtain ⟨h1, h2⟩ := h.row
    refine ⟨h1, ?_⟩
    rcases h2 with h2 | ⟨g, cap, cur, e, hb, h3⟩
    · exact .inl h2
    · exact .inr ⟨g, cap, cur, e, by omega, h3⟩, h.db, h.dv, h.bv, by have := h.kd; omega, by have := h.kb; omega, h.inb, h.lb, h.lp, h.ls, h.lm⟩
/-- Two disks side by side. -/
structure Pair (w0 W : World) (K D B E F : Nat) (v u : Value) (s r : DSt) : Prop where
  ra : Rep W K D B v s
  rb : R.Rep W K E F u r
  kp : Kp (fun i => K ≤ i) w0 W
  sep : ∀ i, Own D B v i → ¬ Own E F u i
section
variable {w0 W W' : World} {K D B E F : Nat} {v u v' u' : Value} {s r s' r' : DSt}
theorem Pair.stepA (h : Pair w0 W K D B E F v u s r) (k : Left W W' K D B v v' s') : Pair w0 W' K D B E F v' u s' r :=
  ⟨k.rep, h.rb.kp k.kp (fun i hi ho => h.sep i ho hi), h.kp.trans (k.kp.weak (fun i hi => (h.ra.lt hi).1)), fun i hi ho => by
    have h1 := (h.rb.lt ho).2
    rcases hi with e | e | e
    · exact h.sep i (.inl e) ho
    · exact h.sep i (.inr (.inl e)) ho
    · rcases k.own i e with h2 | h2
      · exact h.sep i (.inr (.inr h2)) ho
      · omega⟩
theorem Pair.stepB (h : Pair w0 W K D B E F v u s r) (k : R.Left W W' K E F u u' r') : Pair w0 W' K D B E F v u' s r' :=
  ⟨h.ra.kp k.kp (fun i hi ho => h.sep i hi ho), k.rep, h.kp.trans (k.kp.weak (fun i hi => (h.rb.lt hi).1)), fun i hi ho => by
    have h1 := (h.ra.lt hi).2
    rcases ho with e | e | e
    · exact h.sep i hi (.inl e)
    · exact h.sep i hi (.inr (.inl e))
    · rcases k.own i e with h2 | h2
      · exact h.sep i hi (.inr (.inr h2))
      · omega⟩
theorem Pair.drew (h : Pair w0 W K D B E F v u s r) : Pair w0 W.drew K D B E F v u s r :=
  ⟨h.ra.below (Below.refl _ _).drew, h.rb.below (Below.refl _ _).drew, h.kp.drew, h.sep⟩
theorem Pair.alloc (h : Pair w0 W K D B E F v u s r) (o : Obj) : Pair w0 (W.alloc o) K D B E F v u s r :=
  ⟨h.ra.below ((Below.refl _ _).alloc (Nat.le_refl _) o), h.rb.below ((Below.refl _ _).alloc (Nat.le_refl _) o), h.kp.alloc o, h.sep⟩
end
end Go.Proofs.Ytkfiekpinojahaa
