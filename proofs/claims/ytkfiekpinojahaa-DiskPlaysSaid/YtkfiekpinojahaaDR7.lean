/-
  CONTRACTS of DiskPlays: a call of both disks.
-/
import Derived.Test.YtkfiekpinojahaaDR6
namespace Go.Proofs.Ytkfiekpinojahaa
open Go.RowKit
set_option linter.unusedVariables false
set_option linter.unusedSimpArgs false
theorem write_sim {w : World} {K E F : Nat} {u : Value} {s r : DSt} (hr : R.Rep w K E F u r) (hs : Sim s r) (n : Int) (t : ByteArray) (ht : t.size ≤ 1000) {c : Int} (hc : writeE s n t = c) : Calls Try.prog 27 #[.pointer (some ⟨E, 0, none⟩), .int .i64 n, .string t] w fun e w' => e = .returned (.int .i64 c) ∧ ∃ u', R.Left w w' K E F u u' (R.writeR r n t) := by
  subst hc
  rw [(hs.write n t).1]
  exact R.write_any K E F u r w hr n t ht
theorem flush_sim {w : World} {K E F : Nat} {u : Value} {s r : DSt} (hr : R.Rep w K E F u r) (hs : Sim s r) {c : Int} (hc : flushE s = c) : Calls Try.prog 29 #[.pointer (some ⟨E, 0, none⟩)] w fun e w' => e = .returned (.int .i64 c) ∧ ∃ u', R.Left w w' K E F u u' (R.flushR r) := by
  subst hc
  rw [hs.flush.1]
  exact R.flush_any K E F u r w hr
theorem crash_sim {w : World} {K E F : Nat} {u : Value} {s r : DSt} (hr : R.Rep w K E F u r) (hs : Sim s r) (m : Nat) (hm : m < 18446744073709551616) {c : Int} (hc : (if s.down = true then (13 : Int) else 0) = c) : Calls Try.prog 30 #[.pointer (some ⟨E, 0, none⟩), .int .u64 (m : Int)] w fun e w' => e = .returned (.int .i64 c) ∧ ∃ u', R.Left w w' K E F u u' (R.crashU r m) := by
  subst hc
  rw [hs.down]
  exact R.Crash_any K E F u r w hr m hm
theorem arm_sim {w : World} {K E F : Nat} {u : Value} {s r : DSt} (hr : R.Rep w K E F u r) (hs : Sim s r) (n : Int) (m : Nat) (hm : m < 18446744073709551616) {c : Int} (hc : armE s n = c) : Calls Try.prog 31 #[.pointer (some ⟨E, 0, none⟩), .int .i64 n, .int .u64 (m : Int)] w fun e w' => e = .returned (.int .i64 c) ∧ ∃ u', R.Left w w' K E F u u' (armS r n m) := by
  subst hc
  rw [(hs.arm n m).1]
  exact (R.arm_any K E F u r w hr n m hm).mono fun e w' h => ⟨h.1, u, h.2⟩
theorem recover_sim {w : World} {K E F : Nat} {u : Value} {s r : DSt} (hr : R.Rep w K E F u r) (hs : Sim s r) {c : Int} (hc : (if s.down = true then (0 : Int) else 8) = c) : Calls Try.prog 32 #[.pointer (some ⟨E, 0, none⟩)] w fun e w' => e = .returned (.int .i64 c) ∧ ∃ u', R.Left w w' K E F u u' { r with down := false } := by
  subst hc
  rw [hs.down]
  exact (R.recover_any K E F u r w hr).mono fun e w' h => ⟨h.1, u, h.2⟩
def PlayP (w0 W' : World) (K D B E F : Nat) : Prop := ∃ v' u' s' r', Pair w0 W' K D B E F v' u' s' r' ∧ Sim s' r'
set_option maxRecDepth 5000 in
set_option maxHeartbeats 3200000 in
theorem play0 {w0 W : World} {K D B E F : Nat} {v u : Value} {s r : DSt} (h : Pair w0 W K D B E F v u s r) (hs : Sim s r) (n : Int) (t : ByteArray) (ht : t.size ≤ 1000) (m : Nat) (hm : m < 18446744073709551616) : Calls Try.prog 11 #[.pointer (some ⟨D, 0, none⟩), .pointer (some ⟨E, 0, none⟩), .agg #[.int .u8 0, .int .i64 n, .string t, .int .u64 (m : Int)]] W fun e W' => e = .returned (.bool true) ∧ PlayP w0 W' K D B E F := by
  have hX : Blk (W.alloc (.cells #[.int .u8 0, .int .i64 n, .string t, .int .u64 (m : Int)] 35)) W.heap.size 35 #[.int .u8 0, .int .i64 n, .string t, .int .u64 (m : Int)] := Blk.new _ _ _
  have hP := h.alloc (.cells #[.int .u8 0, .int .i64 n, .string t, .int .u64 (m : Int)] 35)
  have hNX : ¬ Own D B v W.heap.size := fun ho => by have := (h.ra.lt ho).2; omega
  have NY : Hid (¬ Own E F u W.heap.size) := Lib.hid (fun ho => by have := (h.rb.lt ho).2; omega)
  have HT := Lib.hid ht
  have HM := Lib.hid hm
  have HS := Lib.hid hs
  clear h hs ht hm
  go_enter Try.func11, Try.ntmps11
  go_wp2_with fail
  generalize W.alloc (.cells #[.int .u8 0, .int .i64 n, .string t, .int .u64 (m : Int)] 35) = V, W.heap.size = X at *
  have XD : Hid (Blk V.drew X 35 _) := Lib.hid hX.drew
  have NX := Lib.hid hNX
  have PD := Lib.hid hP.drew
  have PV := Lib.hid hP
  have e1 := hX.cell 1
  have e2 := hX.cell 2
  simp at e1 e2
  have xl := hX.lt
  clear hX hNX hP
  go_region_held3 (fun W => W.cell? ⟨X, 1, none⟩ = some (.int .i64 n) ∧ W.cell? ⟨X, 2, none⟩ = some (.string t)) (exact ⟨by assumption, by assumption⟩) (first | (go_at_call 26; refine (write_any K D B v s V.drew PD.out.ra n t HT.out).mono ?_; rintro e w3 ⟨rfl, hQ⟩; obtain ⟨v3, hL⟩ := hQ; have PA := Lib.hid (PD.out.stepA hL); have X3 := Lib.hid (hL.kp.blk XD.out NX.out); have xl3 := X3.out.lt; have e1 := X3.out.cell 1; have e2 := X3.out.cell 2; simp at e1 e2; clear hL) | (go_at_call 27; refine (write_sim PA.out.rb HS.out n t HT.out rfl).mono ?_; rintro e w4 ⟨rfl, u4, hL⟩; have PB := Lib.hid (PA.out.stepB hL); have X4 := Lib.hid (hL.kp.blk X3.out NY.out); have f1 := X4.out.cell 1; have f2 := X4.out.cell 2; simp at f1 f2; clear hL))
  go_wp2
  go_ret
  exact ⟨rfl, _, _, _, _, PB.out, (HS.out.write n t).2⟩
set_option maxRecDepth 5000 in
set_option maxHeartbeats 3200000 in
theorem play2 {w0 W : World} {K D B E F : Nat} {v u : Value} {s r : DSt} (h : Pair w0 W K D B E F v u s r) (hs : Sim s r) (n : Int) (t : ByteArray) (ht : t.size ≤ 1000) (m : Nat) (hm : m < 18446744073709551616) : Calls Try.prog 11 #[.pointer (some ⟨D, 0, none⟩), .pointer (some ⟨E, 0, none⟩), .agg #[.int .u8 2, .int .i64 n, .string t, .int .u64 (m : Int)]] W fun e W' => e = .returned (.bool true) ∧ PlayP w0 W' K D B E F := by
  have hP := h.alloc (.cells #[.int .u8 2, .int .i64 n, .string t, .int .u64 (m : Int)] 35)
  have HT := Lib.hid ht
  have HM := Lib.hid hm
  have HS := Lib.hid hs
  clear h hs ht hm
  go_enter Try.func11, Try.ntmps11
  go_wp2_with fail
  generalize W.alloc (.cells #[.int .u8 2, .int .i64 n, .string t, .int .u64 (m : Int)] 35) = V at *
  have PD := Lib.hid hP
  clear hP
  refine (flush_any K D B v s V PD.out.ra).mono ?_
  rintro e w3 ⟨rfl, hQ⟩
  obtain ⟨v3, hL⟩ := hQ
  have PA := Lib.hid (PD.out.stepA hL)
  clear hL
  go_wp2_with fail
  refine (flush_sim PA.out.rb HS.out rfl).mono ?_
  rintro e w4 ⟨rfl, u4, hL⟩
  have PB := Lib.hid (PA.out.stepB hL)
  clear hL
  go_wp2
  go_ret
  exact ⟨rfl, _, _, _, _, PB.out, HS.out.flush.2⟩
set_option maxRecDepth 5000 in
set_option maxHeartbeats 3200000 in
theorem play3 {w0 W : World} {K D B E F : Nat} {v u : Value} {s r : DSt} (h : Pair w0 W K D B E F v u s r) (hs : Sim s r) (n : Int) (t : ByteArray) (ht : t.size ≤ 1000) (m : Nat) (hm : m < 18446744073709551616) : Calls Try.prog 11 #[.pointer (some ⟨D, 0, none⟩), .pointer (some ⟨E, 0, none⟩), .agg #[.int .u8 3, .int .i64 n, .string t, .int .u64 (m : Int)]] W fun e W' => e = .returned (.bool true) ∧ PlayP w0 W' K D B E F := by
  have hX : Blk (W.alloc (.cells #[.int .u8 3, .int .i64 n, .string t, .int .u64 (m : Int)] 35)) W.heap.size 35 #[.int .u8 3, .int .i64 n, .string t, .int .u64 (m : Int)] := Blk.new _ _ _
  have hP := h.alloc (.cells #[.int .u8 3, .int .i64 n, .string t, .int .u64 (m : Int)] 35)
  have hNX : ¬ Own D B v W.heap.size := fun ho => by have := (h.ra.lt ho).2; omega
  have NY : Hid (¬ Own E F u W.heap.size) := Lib.hid (fun ho => by have := (h.rb.lt ho).2; omega)
  have HT := Lib.hid ht
  have HM := Lib.hid hm
  have HS := Lib.hid hs
  clear h hs ht hm
  obtain ⟨z, hz⟩ : ∃ z, (if s.down = true then (13 : Int) else 0) = z := ⟨_, rfl⟩
  have HC := Lib.hid hz
  clear hz
  go_enter Try.func11, Try.ntmps11
  go_wp2_with fail
  generalize W.alloc (.cells #[.int .u8 3, .int .i64 n, .string t, .int .u64 (m : Int)] 35) = V, W.heap.size = X at *
  have XD : Hid (Blk V.drew X 35 _) := Lib.hid hX.drew
  have NX := Lib.hid hNX
  have PD := Lib.hid hP.drew
  have PV := Lib.hid hP
  have e3 := hX.cell 3
  simp at e3
  have xl := hX.lt
  clear hX hNX hP
  go_region_held3 (fun W => W.cell? ⟨X, 3, none⟩ = some (.int .u64 (m : Int))) (assumption) (first | (go_at_call 22; refine (crash_eq PD.out.ra HM.out rfl HC.out rfl).mono ?_; rintro e w3 ⟨rfl, hQ⟩; obtain ⟨v3, hL⟩ := hQ; have PA := Lib.hid (PD.out.stepA hL); have X3 := Lib.hid (hL.kp.blk XD.out NX.out); have xl3 := X3.out.lt; have e3 := X3.out.cell 3; simp at e3; clear hL) | (go_at_call 30; refine (crash_sim PA.out.rb HS.out m HM.out HC.out).mono ?_; rintro e w4 ⟨rfl, u4, hL⟩; have PB := Lib.hid (PA.out.stepB hL); have X4 := Lib.hid (hL.kp.blk X3.out NY.out); have f3 := X4.out.cell 3; simp at f3; clear hL))
  go_wp2
  go_ret
  exact ⟨rfl, _, _, _, _, PB.out, HS.out.crashT m⟩
set_option maxRecDepth 5000 in
set_option maxHeartbeats 3200000 in
theorem play4 {w0 W : World} {K D B E F : Nat} {v u : Value} {s r : DSt} (h : Pair w0 W K D B E F v u s r) (hs : Sim s r) (n : Int) (t : ByteArray) (ht : t.size ≤ 1000) (m : Nat) (hm : m < 18446744073709551616) : Calls Try.prog 11 #[.pointer (some ⟨D, 0, none⟩), .pointer (some ⟨E, 0, none⟩), .agg #[.int .u8 4, .int .i64 n, .string t, .int .u64 (m : Int)]] W fun e W' => e = .returned (.bool true) ∧ PlayP w0 W' K D B E F := by
  have hX : Blk (W.alloc (.cells #[.int .u8 4, .int .i64 n, .string t, .int .u64 (m : Int)] 35)) W.heap.size 35 #[.int .u8 4, .int .i64 n, .string t, .int .u64 (m : Int)] := Blk.new _ _ _
  have hP := h.alloc (.cells #[.int .u8 4, .int .i64 n, .string t, .int .u64 (m : Int)] 35)
  have hNX : ¬ Own D B v W.heap.size := fun ho => by have := (h.ra.lt ho).2; omega
  have NY : Hid (¬ Own E F u W.heap.size) := Lib.hid (fun ho => by have := (h.rb.lt ho).2; omega)
  have HT := Lib.hid ht
  have HM := Lib.hid hm
  have HS := Lib.hid hs
  clear h hs ht hm
  go_enter Try.func11, Try.ntmps11
  go_wp2_with fail
  generalize W.alloc (.cells #[.int .u8 4, .int .i64 n, .string t, .int .u64 (m : Int)] 35) = V, W.heap.size = X at *
  have XD : Hid (Blk V.drew X 35 _) := Lib.hid hX.drew
  have NX := Lib.hid hNX
  have PD := Lib.hid hP.drew
  have PV := Lib.hid hP
  have e1 := hX.cell 1
  have e3 := hX.cell 3
  simp at e1 e3
  have xl := hX.lt
  clear hX hNX hP
  go_region_held3 (fun W => W.cell? ⟨X, 1, none⟩ = some (.int .i64 n) ∧ W.cell? ⟨X, 3, none⟩ = some (.int .u64 (m : Int))) (exact ⟨by assumption, by assumption⟩) (first | (go_at_call 25; refine (arm_eq PD.out.ra HM.out rfl rfl rfl).mono ?_; rintro e w3 ⟨rfl, hQ⟩; obtain ⟨v3, hL⟩ := hQ; have PA := Lib.hid (PD.out.stepA hL); have X3 := Lib.hid (hL.kp.blk XD.out NX.out); have xl3 := X3.out.lt; have e1 := X3.out.cell 1; have e3 := X3.out.cell 3; simp at e1 e3; clear hL) | (go_at_call 31; refine (arm_sim PA.out.rb HS.out n m HM.out rfl).mono ?_; rintro e w4 ⟨rfl, u4, hL⟩; have PB := Lib.hid (PA.out.stepB hL); have X4 := Lib.hid (hL.kp.blk X3.out NY.out); have f1 := X4.out.cell 1; have f3 := X4.out.cell 3; simp at f1 f3; clear hL))
  go_wp2
  go_ret
  exact ⟨rfl, _, _, _, _, PB.out, (HS.out.arm n m).2⟩
set_option maxRecDepth 5000 in
set_option maxHeartbeats 3200000 in
theorem play5 {w0 W : World} {K D B E F : Nat} {v u : Value} {s r : DSt} (h : Pair w0 W K D B E F v u s r) (hs : Sim s r) (c : Nat) (hc5 : 5 ≤ c) (hc : c < 256) (n : Int) (t : ByteArray) (ht : t.size ≤ 1000) (m : Nat) (hm : m < 18446744073709551616) : Calls Try.prog 11 #[.pointer (some ⟨D, 0, none⟩), .pointer (some ⟨E, 0, none⟩), .agg #[.int .u8 (c : Int), .int .i64 n, .string t, .int .u64 (m : Int)]] W fun e W' => e = .returned (.bool true) ∧ PlayP w0 W' K D B E F := by
  have hP := h.alloc (.cells #[.int .u8 (c : Int), .int .i64 n, .string t, .int .u64 (m : Int)] 35)
  have HT := Lib.hid ht
  have HM := Lib.hid hm
  have HS := Lib.hid hs
  clear h hs ht hm
  have k0 : ((c : Int) == 0) = false := beq_false_of_ne (by omega)
  have k1 : ((c : Int) == 1) = false := beq_false_of_ne (by omega)
  have k2 : ((c : Int) == 2) = false := beq_false_of_ne (by omega)
  have k3 : ((c : Int) == 3) = false := beq_false_of_ne (by omega)
  have k4 : ((c : Int) == 4) = false := beq_false_of_ne (by omega)
  clear hc5 hc
  obtain ⟨z, hz⟩ : ∃ z, (if s.down = true then (0 : Int) else 8) = z := ⟨_, rfl⟩
  have HC := Lib.hid hz
  clear hz
  go_enter Try.func11, Try.ntmps11
  go_wp2_with fail
  generalize W.alloc (.cells #[.int .u8 (c : Int), .int .i64 n, .string t, .int .u64 (m : Int)] 35) = V at *
  have PD := Lib.hid hP
  clear hP
  refine (recover_eq PD.out.ra HC.out rfl).mono ?_
  rintro e w3 ⟨rfl, hQ⟩
  obtain ⟨v3, hL⟩ := hQ
  have PA := Lib.hid (PD.out.stepA hL)
  clear hL
  go_wp2_with fail
  refine (recover_sim PA.out.rb HS.out HC.out).mono ?_
  rintro e w4 ⟨rfl, u4, hL⟩
  have PB := Lib.hid (PA.out.stepB hL)
  clear hL
  go_wp2
  go_ret
  exact ⟨rfl, _, _, _, _, PB.out, HS.out.recover⟩
end Go.Proofs.Ytkfiekpinojahaa
