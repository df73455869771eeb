/-
  CONTRACTS of wire: a reader's read, whatever function takes the bytes.
-/
import Derived.Test.YtjemljhfopgmiaaGreatDoorZ12
namespace Go.Proofs.YtjemljhfopgmiaaGreatDoor
open Go.RowKit
set_option linter.unusedVariables false
set_option linter.unusedSimpArgs false
set_option maxHeartbeats 1600000 in
set_option maxRecDepth 5000 in
/-- read of a reader without an error: what the function answers, n bytes and c; R is what the function left in the world besides, kept by writing to the reader's cells. -/
theorem read_alpha (x y : Addr) (b B : Nat) (s : ByteArray) (R : Nat → Int → World → Prop) (hR : ∀ n c W o u, R n c W → R n c (W.setCell ⟨b, o, none⟩ u)) (hs : s.size ≤ 281474976710656) (w : World) (hb : Blk w b 42 #[.string s, .int .i64 0]) (bB : B ≤ b)
    (C : Hid (Calls Tryz.prog 28 #[.string s, .pointer (some x), .pointer (some y)] w fun e w' => ∃ (n : Nat) (c : Int), R n c w' ∧ (c = 0 → n ≤ s.size) ∧ e = .returned (.tuple #[.int .i64 (n : Int), .int .i64 c]) ∧ Below (b + 1) w w')) :
    Calls Tryz.prog 25 #[.pointer (some ⟨b, 0, none⟩), .func (Fn.func 28) #[] #[.pointer (some x), .pointer (some y)]] w fun e w' => ∃ (n : Nat) (c : Int), R n c w' ∧ (c = 0 → n ≤ s.size) ∧ (∃ t, e = .returned t) ∧ Blk w' b 42 #[.string (if c = 0 then s.extract n s.size else s), .int .i64 c] ∧ Below B w w' := by
  have b0 := hb.cell 0
  have b1 := hb.cell 1
  simp at b0 b1
  have HR := Lib.hid hR
  clear hR
  go_enter Tryz.func25, Tryz.ntmps25
  go_wp2_with fail
  refine C.out.mono ?_
  rintro e w1 ⟨n, c, hr, hn, rfl, hw1⟩
  have hb2 := hb.below hw1 (Nat.lt_succ_self b)
  have c0 := hb2.cell 0
  have c1 := hb2.cell 1
  have f0 := hb2.frozen 0
  have f1 := hb2.frozen 1
  simp at c0 c1
  have HN := Lib.hid hn
  have Hr := Lib.hid hr
  clear hn hr
  by_cases hc : c = 0
  · subst hc
    have hsl := fun w => sl_l s n (HN.out rfl) (i := (n : Int)) rfl w
    go_wp2
    go_end0
    exact ⟨n, 0, HR.out n 0 _ 0 _ Hr.out, fun _ => HN.out trivial, ⟨_, rfl⟩, by rw [if_pos rfl]; exact hb2.set_ 0 _, (hw1.mono (by omega)).setCell (p := ⟨b, 0, none⟩) bB _⟩
  · have hcc : (c == 0) = false := by simpa using hc
    have hcc2 : (c != 0) = true := by simpa using hc
    have HC := Lib.hid hc
    go_wp2
    refine bodyPost_ret (results_none rfl _ _ _) rfl ?_
    exact ⟨n, c, HR.out n c _ 1 _ Hr.out, HN.out, ⟨_, rfl⟩, by rw [if_neg HC.out]; exact hb2.set_ 1 _, (hw1.mono (by omega)).setCell (p := ⟨b, 1, none⟩) bB _⟩
set_option maxHeartbeats 1600000 in
set_option maxRecDepth 5000 in
/-- read of a reader without an error: what the function answers, n bytes and c; R is what the function left in the world besides, kept by writing to the reader's cells. -/
theorem read_var (x y z : Addr) (b B : Nat) (s : ByteArray) (R : Nat → Int → World → Prop) (hR : ∀ n c W o u, R n c W → R n c (W.setCell ⟨b, o, none⟩ u)) (hs : s.size ≤ 281474976710656) (w : World) (hb : Blk w b 42 #[.string s, .int .i64 0]) (bB : B ≤ b)
    (C : Hid (Calls Tryz.prog 31 #[.string s, .pointer (some x), .pointer (some y), .pointer (some z)] w fun e w' => ∃ (n : Nat) (c : Int), R n c w' ∧ (c = 0 → n ≤ s.size) ∧ e = .returned (.tuple #[.int .i64 (n : Int), .int .i64 c]) ∧ Below (b + 1) w w')) :
    Calls Tryz.prog 25 #[.pointer (some ⟨b, 0, none⟩), .func (Fn.func 31) #[] #[.pointer (some x), .pointer (some y), .pointer (some z)]] w fun e w' => ∃ (n : Nat) (c : Int), R n c w' ∧ (c = 0 → n ≤ s.size) ∧ (∃ t, e = .returned t) ∧ Blk w' b 42 #[.string (if c = 0 then s.extract n s.size else s), .int .i64 c] ∧ Below B w w' := by
  have b0 := hb.cell 0
  have b1 := hb.cell 1
  simp at b0 b1
  have HR := Lib.hid hR
  clear hR
  go_enter Tryz.func25, Tryz.ntmps25
  go_wp2_with fail
  refine C.out.mono ?_
  rintro e w1 ⟨n, c, hr, hn, rfl, hw1⟩
  have hb2 := hb.below hw1 (Nat.lt_succ_self b)
  have c0 := hb2.cell 0
  have c1 := hb2.cell 1
  have f0 := hb2.frozen 0
  have f1 := hb2.frozen 1
  simp at c0 c1
  have HN := Lib.hid hn
  have Hr := Lib.hid hr
  clear hn hr
  by_cases hc : c = 0
  · subst hc
    have hsl := fun w => sl_l s n (HN.out rfl) (i := (n : Int)) rfl w
    go_wp2
    go_end0
    exact ⟨n, 0, HR.out n 0 _ 0 _ Hr.out, fun _ => HN.out trivial, ⟨_, rfl⟩, by rw [if_pos rfl]; exact hb2.set_ 0 _, (hw1.mono (by omega)).setCell (p := ⟨b, 0, none⟩) bB _⟩
  · have hcc : (c == 0) = false := by simpa using hc
    have hcc2 : (c != 0) = true := by simpa using hc
    have HC := Lib.hid hc
    go_wp2
    refine bodyPost_ret (results_none rfl _ _ _) rfl ?_
    exact ⟨n, c, HR.out n c _ 1 _ Hr.out, HN.out, ⟨_, rfl⟩, by rw [if_neg HC.out]; exact hb2.set_ 1 _, (hw1.mono (by omega)).setCell (p := ⟨b, 1, none⟩) bB _⟩
set_option maxHeartbeats 800000 in
/-- read of a reader that has an error: nothing. -/
theorem read_no (f : Value) (b : Nat) (s : ByteArray) (c : Int) (hc : c ≠ 0) (w : World) (hb : Blk w b 42 #[.string s, .int .i64 c]) :
    Calls Tryz.prog 25 #[.pointer (some ⟨b, 0, none⟩), f] w fun e w' => (∃ t, e = .returned t) ∧ w = w' := by
  have b1 := hb.cell 1
  simp at b1
  have hcc : (c == 0) = false := by simpa using hc
  have hcc2 : (c != 0) = true := by simpa using hc
  go_enter Tryz.func25, Tryz.ntmps25
  go_wp2
  refine bodyPost_ret (results_none rfl _ _ _) rfl ?_
  exact ⟨⟨_, rfl⟩, rfl⟩
set_option maxHeartbeats 800000 in
/-- read of no reader: nothing. -/
theorem read_nil (f : Value) (w : World) :
    Calls Tryz.prog 25 #[.pointer none, f] w fun e w' => (∃ t, e = .returned t) ∧ w = w' := by
  go_enter Tryz.func25, Tryz.ntmps25
  go_wp2
  refine bodyPost_ret (results_none rfl _ _ _) rfl ?_
  exact ⟨⟨_, rfl⟩, rfl⟩
end Go.Proofs.YtjemljhfopgmiaaGreatDoor
