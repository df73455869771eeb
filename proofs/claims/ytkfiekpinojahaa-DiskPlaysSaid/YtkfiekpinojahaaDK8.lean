/-
  CONTRACTS of disk: New, and the examples.
-/
import Derived.Test.YtkfiekpinojahaaDK7
namespace Go.Proofs.Ytkfiekpinojahaa
open Go.RowKit
set_option linter.unusedVariables false
set_option linter.unusedSimpArgs false
def newS (n : Nat) : DSt := ⟨List.replicate n ⟨#[]⟩, [], false, 0, 0⟩
theorem str_info : (Try.prog.info? 9).map (fun i => (i.zero, i.size, i.bytes)) = some (some (.string ⟨#[]⟩), 1, 16) := by kernel_rfl
theorem makeN (n : Nat) (hn : n ≤ 4096) (w : World) : (Instr.makeSlice 56 (.int .i64 (n : Int)) (.int .i64 (n : Int))).run Try.prog w = .ok (.slice (some ⟨w.heap.size, 0, none⟩) n n) (w.alloc (.cells (strs (List.replicate n ⟨#[]⟩)) 9)) := by
  obtain ⟨i, hi, hz, h1, h2⟩ := info_parts str_info
  have h := run_make (P := Try.prog) w 56 9 i (.string ⟨#[]⟩) Try.underlying56 hi hz .i64 .i64 (n : Int) (n : Int) (by omega) (by omega) (by rw [h2]; omega) (by omega)
  rw [h1, show ((n : Int)).toNat = n by omega, Nat.mul_one] at h
  have hm : madeCells (Value.string ⟨#[]⟩).cells n = strs (List.replicate n ⟨#[]⟩) := by
    apply Array.ext'
    rw [show (Value.string ⟨#[]⟩).cells = #[Value.string ⟨#[]⟩] from rfl, toList_madeCells_one]
    simp [strs]
  rw [hm] at h
  exact h
theorem new_bad (n : Int) (h : n < 1 ∨ 4096 < n) (w : World) : Calls Try.prog 9 #[.int .i64 n] w fun e w' => e = .returned (.tuple #[.pointer none, .int .i64 4]) ∧ w = w' := by
  rcases h with h | h
  · go_enter Try.func9, Try.ntmps9
    go_wp2
    go_ret2
    exact ⟨rfl, rfl⟩
  · have h' : ¬ n < 1 := by omega
    have h2 : decide ((4096 : Int) < n) = true := decide_eq_true h
    clear h
    go_enter Try.func9, Try.ntmps9
    go_wp2
    go_ret2
    exact ⟨rfl, rfl⟩
theorem new_any (n : Nat) (h1 : 1 ≤ n) (h2 : n ≤ 4096) (w : World) : Calls Try.prog 9 #[.int .i64 (n : Int)] w fun e w' => ∃ D B, e = .returned (.tuple #[.pointer (some ⟨D, 0, none⟩), .int .i64 0]) ∧ Rep w' w.heap.size D B (.slice none 0 0) (newS n) ∧ Below w.heap.size w w' := by
  have hmk := makeN n h2
  have a1 : decide ((n : Int) < 1) = false := decide_eq_false (by omega)
  have a2 : decide ((4096 : Int) < (n : Int)) = false := decide_eq_false (by omega)
  have H2 := Lib.hid h2
  clear h1 h2
  go_enter Try.func9, Try.ntmps9
  go_wp2
  go_ret2
  refine ⟨w.heap.size + 1, w.heap.size, rfl, ⟨?_, ?_, World.ownsRow_nil _ _ _ _, by omega, by simp [Value.ownBlock], by simp [Value.ownBlock], by omega, Nat.le_refl _, by simp [newS], by simp [newS]; exact H2.out, by simp [newS], by simp [newS], by simp [newS]⟩, ?_⟩
  · have := Blk.new (w.alloc (.cells (strs (List.replicate n ⟨#[]⟩)) 9)) 59 #[.slice (some ⟨w.heap.size, 0, none⟩) n n, .slice none 0 0, .bool false, .int .i64 0, .int .u64 0]
    simp only [newS, List.length_replicate]
    simpa using this
  · exact (Blk.new w 9 (strs (List.replicate n ⟨#[]⟩))).alloc _
  · exact ((Below.refl _ _).alloc (Nat.le_refl _) _).alloc (by simp) _
section
variable {K D B : Nat} {v : Value} {s s' : DSt} {w : World} {n c : Int} {t : ByteArray} {m : Nat}
theorem write_eq (hr : Rep w K D B v s) (ht : t.size ≤ 1000) (hE : writeE s n t = c) (hS : writeS s n t = s') : Calls Try.prog 26 #[.pointer (some ⟨D, 0, none⟩), .int .i64 n, .string t] w fun e w' => e = .returned (.int .i64 c) ∧ ∃ v', Left w w' K D B v v' s' := by
  subst hE hS
  exact write_any K D B v s w hr n t ht
theorem flush_eq (hr : Rep w K D B v s) (hE : flushE s = c) (hS : flushS s = s') : Calls Try.prog 21 #[.pointer (some ⟨D, 0, none⟩)] w fun e w' => e = .returned (.int .i64 c) ∧ ∃ v', Left w w' K D B v v' s' := by
  subst hE hS
  exact flush_any K D B v s w hr
theorem crash_eq (hr : Rep w K D B v s) (hm : m < 18446744073709551616) {x : Int} (hx : x = (m : Int)) (hE : (if s.down = true then (13 : Int) else 0) = c) (hS : crashT s m = s') : Calls Try.prog 22 #[.pointer (some ⟨D, 0, none⟩), .int .u64 x] w fun e w' => e = .returned (.int .i64 c) ∧ ∃ v', Left w w' K D B v v' s' := by
  subst hE hS hx
  exact Crash_any K D B v s w hr m hm
theorem recover_eq (hr : Rep w K D B v s) (hE : (if s.down = true then (0 : Int) else 8) = c) (hS : { s with down := false } = s') : Calls Try.prog 24 #[.pointer (some ⟨D, 0, none⟩)] w fun e w' => e = .returned (.int .i64 c) ∧ ∃ v', Left w w' K D B v v' s' := by
  subst hE hS
  exact (recover_any K D B v s w hr).mono fun e w' h => ⟨h.1, v, h.2⟩
theorem arm_eq (hr : Rep w K D B v s) (hm : m < 18446744073709551616) {x : Int} (hx : x = (m : Int)) (hE : armE s n = c) (hS : armS s n m = s') : Calls Try.prog 25 #[.pointer (some ⟨D, 0, none⟩), .int .i64 n, .int .u64 x] w fun e w' => e = .returned (.int .i64 c) ∧ ∃ v', Left w w' K D B v v' s' := by
  subst hE hS hx
  exact (arm_any K D B v s w hr n m hm).mono fun e w' h => ⟨h.1, v, h.2⟩
theorem read_eq (hr : Rep w K D B v s) (hE : chkS s n = c) (hT : readT s n = t) : Calls Try.prog 23 #[.pointer (some ⟨D, 0, none⟩), .int .i64 n] w fun e w' => e = .returned (.tuple #[.string t, .int .i64 c]) ∧ w = w' :=
  read_any K D B v s w hr n (Lib.hid hT) (Lib.hid hE)
theorem down_eq (hr : Rep w K D B v s) {b : Bool} (h : s.down = b) : Calls Try.prog 16 #[.pointer (some ⟨D, 0, none⟩)] w fun e w' => e = .returned (.bool b) ∧ w = w' := by
  subst h
  exact down_any K D B v s w hr
theorem pending_eq (hr : Rep w K D B v s) (h : (s.pe.length : Int) = c) : Calls Try.prog 14 #[.pointer (some ⟨D, 0, none⟩)] w fun e w' => e = .returned (.int .i64 c) ∧ w = w' := by
  subst h
  exact pending_any K D B v s w hr
end
set_option maxRecDepth 5000 in
set_option maxHeartbeats 1600000 in
theorem awake_any (w : World) : Calls Try.prog 8 #[] w fun e w' => e = .returned (.bool true) ∧ Below w.heap.size w w' := by
  go_enter Try.func8, Try.ntmps8
  go_wp2_with fail
  refine (new_any 2 (by omega) (by omega) _).mono ?_
  rintro e w1 ⟨D, B, rfl, hr, hB⟩
  have HL := Lib.hid (Left.same hr (Below.refl _ _))
  have HR0 := Lib.hid hr
  have HB := Lib.hid hB
  clear hB hr
  go_wp2_with fail
  refine (write_eq (s' := (⟨[⟨#[]⟩, ⟨#[]⟩], [(0, ⟨#[97]⟩)], false, 0, 0⟩ : DSt)) HL.out.rep (by decide) (c := 0) (by kernel_rfl) (by kernel_rfl)).mono ?_
  rintro e w2 ⟨rfl, v2, hL⟩
  have HL2 := Lib.hid (HL.out.trans hL)
  clear HL hL
  have HL := HL2
  clear HL2
  go_wp2_with fail
  refine (flush_eq (s' := (⟨[⟨#[97]⟩, ⟨#[]⟩], [], false, 0, 0⟩ : DSt)) HL.out.rep (c := 0) (by kernel_rfl) (by kernel_rfl)).mono ?_
  rintro e w2 ⟨rfl, v2, hL⟩
  have HL2 := Lib.hid (HL.out.trans hL)
  clear HL hL
  have HL := HL2
  clear HL2
  go_wp2_with fail
  refine (write_eq (s' := (⟨[⟨#[97]⟩, ⟨#[]⟩], [(0, ⟨#[98]⟩)], false, 0, 0⟩ : DSt)) HL.out.rep (by decide) (c := 0) (by kernel_rfl) (by kernel_rfl)).mono ?_
  rintro e w2 ⟨rfl, v2, hL⟩
  have HL2 := Lib.hid (HL.out.trans hL)
  clear HL hL
  have HL := HL2
  clear HL2
  go_wp2_with fail
  refine (write_eq (s' := (⟨[⟨#[97]⟩, ⟨#[]⟩], [(0, ⟨#[98]⟩), (1, ⟨#[99]⟩)], false, 0, 0⟩ : DSt)) HL.out.rep (by decide) (c := 0) (by kernel_rfl) (by kernel_rfl)).mono ?_
  rintro e w2 ⟨rfl, v2, hL⟩
  have HL2 := Lib.hid (HL.out.trans hL)
  clear HL hL
  have HL := HL2
  clear HL2
  go_wp2_with fail
  refine (crash_eq (s' := (⟨[⟨#[97]⟩, ⟨#[99]⟩], [], true, 0, 0⟩ : DSt)) HL.out.rep (m := 2) (by decide) rfl (c := 0) (by kernel_rfl) (by kernel_rfl)).mono ?_
  rintro e w2 ⟨rfl, v2, hL⟩
  have HL2 := Lib.hid (HL.out.trans hL)
  clear HL hL
  have HL := HL2
  clear HL2
  go_wp2_with fail
  refine (down_eq HL.out.rep (b := true) rfl).mono ?_
  rintro e w2 ⟨rfl, rfl⟩
  go_wp2_with fail
  refine (recover_eq (s' := (⟨[⟨#[97]⟩, ⟨#[99]⟩], [], false, 0, 0⟩ : DSt)) HL.out.rep (c := 0) (by kernel_rfl) (by kernel_rfl)).mono ?_
  rintro e w2 ⟨rfl, v2, hL⟩
  have HL2 := Lib.hid (HL.out.trans hL)
  clear HL hL
  have HL := HL2
  clear HL2
  go_wp2_with fail
  refine (read_eq HL.out.rep (c := 0) (t := ⟨#[97]⟩) (by kernel_rfl) (by kernel_rfl)).mono ?_
  rintro e w2 ⟨rfl, rfl⟩
  go_wp2_with fail
  refine (read_eq HL.out.rep (c := 0) (t := ⟨#[99]⟩) (by kernel_rfl) (by kernel_rfl)).mono ?_
  rintro e w2 ⟨rfl, rfl⟩
  go_wp2_with fail
  go_ret
  exact ⟨rfl, HB.out.trans (HL.out.below HR0.out (Nat.le_refl _) HB.out.size)⟩
end Go.Proofs.Ytkfiekpinojahaa
