/-
  CONTRACTS of DiskPlays: Read of both disks; any call of both disks.
-/
import Derived.Test.YtkfiekpinojahaaDR7
namespace Go.Proofs.Ytkfiekpinojahaa
open Go.RowKit
set_option linter.unusedVariables false
set_option linter.unusedSimpArgs false
set_option maxRecDepth 5000 in
set_option maxHeartbeats 3200000 in
theorem play1 {w0 W : World} {K D B E F : Nat} {v u : Value} {s r : DSt} (h : Pair w0 W K D B E F v u s r) (hs : Sim s r) (n : Int) (t : ByteArray) (ht : t.size ≤ 1000) (m : Nat) (hm : m < 18446744073709551616) : Calls Try.prog 11 #[.pointer (some ⟨D, 0, none⟩), .pointer (some ⟨E, 0, none⟩), .agg #[.int .u8 1, .int .i64 n, .string t, .int .u64 (m : Int)]] W fun e W' => e = .returned (.bool true) ∧ PlayP w0 W' K D B E F := by
  have hX : Blk (W.alloc (.cells #[.int .u8 1, .int .i64 n, .string t, .int .u64 (m : Int)] 35)) W.heap.size 35 #[.int .u8 1, .int .i64 n, .string t, .int .u64 (m : Int)] := Blk.new _ _ _
  have hP := h.alloc (.cells #[.int .u8 1, .int .i64 n, .string t, .int .u64 (m : Int)] 35)
  have HS := Lib.hid hs
  obtain ⟨y, hy⟩ : ∃ y, readT s n = y := ⟨_, rfl⟩
  obtain ⟨c, hc⟩ : ∃ c, chkS s n = c := ⟨_, rfl⟩
  have hy2 : readT r n = y := by rw [← hs.read]; exact hy
  have hc2 : chkS r n = c := by rw [← hs.chk]; exact hc
  have CA := Lib.hid (read_any K D B v s _ hP.ra n (Lib.hid hy) (Lib.hid hc))
  have CB := Lib.hid (R.read_any K E F u r _ hP.rb n (Lib.hid hy2) (Lib.hid hc2))
  clear h hs ht hm hy hc hy2 hc2
  go_enter Try.func11, Try.ntmps11
  go_wp2_with fail
  generalize W.alloc (.cells #[.int .u8 1, .int .i64 n, .string t, .int .u64 (m : Int)] 35) = V, W.heap.size = X at *
  have e1 := hX.cell 1
  simp at e1
  have xl := hX.lt
  have PV := Lib.hid hP
  clear hX hP
  go_wp2_with fail
  refine CA.out.mono ?_
  rintro e w3 ⟨rfl, rfl⟩
  go_wp2_with fail
  refine CB.out.mono ?_
  rintro e w4 ⟨rfl, rfl⟩
  go_wp2_with fail
  go_ret
  exact ⟨rfl, _, _, _, _, PV.out, HS.out⟩
theorem play_all {w0 W : World} {K D B E F : Nat} {v u : Value} {s r : DSt} (h : Pair w0 W K D B E F v u s r) (hs : Sim s r) (c : Nat) (hc : c < 256) (n : Int) (t : ByteArray) (ht : t.size ≤ 1000) (m : Nat) (hm : m < 18446744073709551616) : Calls Try.prog 11 #[.pointer (some ⟨D, 0, none⟩), .pointer (some ⟨E, 0, none⟩), .agg #[.int .u8 (c : Int), .int .i64 n, .string t, .int .u64 (m : Int)]] W fun e W' => e = .returned (.bool true) ∧ PlayP w0 W' K D B E F := by
  rcases (show c = 0 ∨ c = 1 ∨ c = 2 ∨ c = 3 ∨ c = 4 ∨ 5 ≤ c by omega) with rfl | rfl | rfl | rfl | rfl | h5
  · exact play0 h hs n t ht m hm
  · exact play1 h hs n t ht m hm
  · exact play2 h hs n t ht m hm
  · exact play3 h hs n t ht m hm
  · exact play4 h hs n t ht m hm
  · exact play5 h hs c h5 hc n t ht m hm
end Go.Proofs.Ytkfiekpinojahaa
