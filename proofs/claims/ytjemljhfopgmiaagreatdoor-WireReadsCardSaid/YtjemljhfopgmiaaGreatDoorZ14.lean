/-
  CONTRACTS of wire: a text of variable length from a reader: the function that takes it.
-/
import Derived.Test.YtjemljhfopgmiaaGreatDoorZ13
namespace Go.Proofs.YtjemljhfopgmiaaGreatDoor
open Go.RowKit
set_option linter.unusedVariables false
set_option linter.unusedSimpArgs false
theorem ret_ic {a b c : Int} (h : a = b) : Ending.returned (.tuple #[.int .i64 a, .int .i64 c]) = .returned (.tuple #[.int .i64 b, .int .i64 c]) := by rw [h]
theorem sl_lh (s : ByteArray) (a b : Nat) (h1 : a ≤ b) (h2 : b ≤ s.size) {i j : Int} (hi : i = a) (hj : j = b) (w : World) : (Instr.slice 9 (.string s) (some (.int .i64 i)) (some (.int .i64 j)) none).run Tryz.prog w = .ok (.string (s.extract a b)) w := by
  subst hi
  subst hj
  rw [run_slice_string w 9 s .i64 .i64 (a : Int) (b : Int) Tryz.underlying9 (by omega) (by omega) (by omega)]
  rfl
/-- What reading a text of variable length takes: n bytes, the error c, the text t. -/
def VarR (s : ByteArray) (d : Nat) (m : Int) (n : Nat) (c : Int) (t : ByteArray) : Prop :=
  ∃ v e, NumbP s d v e ∧
    ((e ≠ 0 ∧ n = 0 ∧ c = e ∧ t = ByteArray.empty) ∨
     (e = 0 ∧ (m < v ∨ 255 < v) ∧ n = 0 ∧ c = 3 ∧ t = ByteArray.empty) ∨
     (e = 0 ∧ v ≤ m ∧ v ≤ 255 ∧ (s.size : Int) < d + v ∧ n = 0 ∧ c = 1 ∧ t = ByteArray.empty) ∨
     (e = 0 ∧ v ≤ m ∧ v ≤ 255 ∧ (d : Int) + v ≤ s.size ∧ n = d + v.toNat ∧ c = 0 ∧ t = s.extract d (d + v.toNat)))
theorem NumbP.bd {s : ByteArray} {k : Nat} {v c : Int} (h : NumbP s k v c) (hk : k ≤ 3) : 0 ≤ v ∧ v < 1000 := by
  rcases h with h | h | h
  · omega
  · omega
  · obtain ⟨h1, h2, rfl, _⟩ := h
    have hz : (s.extract 0 k).size = k := by rw [size_extract' _ _ _ (by omega)]; omega
    have hbd := numOf_bd (s.extract 0 k) 0 k (fun j hj => by rw [Nat.zero_add]; exact h2 j (by omega))
    have hp := Nat.pow_le_pow_right (show 0 < 10 by decide) hk
    have : ((10 : Int) ^ k) = ((10 ^ k : Nat) : Int) := by simp
    omega
set_option maxHeartbeats 1600000 in
theorem var1_2 (s : ByteArray) (m : Int) (m0 : 0 ≤ m) (hs : s.size ≤ 281474976710656) (B g f h : Nat) (w : World) (hg : Blk w g 3 #[.int .i64 2]) (hf : Blk w f 3 #[.int .i64 m]) (hh : Blk w h 9 #[.string ByteArray.empty]) (gh : ¬ g = h) (fh : ¬ f = h) (Bh : B ≤ h) (BW : B ≤ w.heap.size) :
    Calls Tryz.prog 31 #[.string s, .pointer (some ⟨g, 0, none⟩), .pointer (some ⟨f, 0, none⟩), .pointer (some ⟨h, 0, none⟩)] w fun e w' => ∃ (n : Nat) (c : Int), (∃ t, VarR s 2 m n c t ∧ Blk w' h 9 #[.string t]) ∧ (c = 0 → n ≤ s.size) ∧ e = .returned (.tuple #[.int .i64 (n : Int), .int .i64 c]) ∧ Below B w w' := by
  have C := Lib.hid (number_any s 2 (by omega) (by omega) hs w)
  have g0 := hg.cell 0
  have f0 := hf.cell 0
  simp at g0 f0
  have hm0 : ¬ m < 0 := by omega
  go_enter Tryz.func31, Tryz.ntmps31
  go_wp2_with fail
  go_at_call 27
  refine C.out.mono ?_
  rintro e w1 ⟨⟨v, e, hN, rfl⟩, hb1⟩
  have hg1 := hg.below hb1 hg.lt
  have hf1 := hf.below hb1 hf.lt
  have hh1 := hh.below hb1 hh.lt
  have g1 := hg1.cell 0
  have f1 := hf1.cell 0
  have z1 := hh1.frozen 0
  have h1 := hh1.cell 0
  simp at g1 f1 h1
  obtain ⟨v0, v1⟩ := hN.bd (by decide)
  have HN := Lib.hid hN
  clear hN
  have gh1 : ¬ h = g := fun h => gh h.symm
  have fh1 : ¬ h = f := fun h => fh h.symm
  by_cases he : e = 0
  · subst he
    by_cases h2 : m < v
    · go_wp2
      go_ret2
      exact ⟨0, 3, ⟨_, ⟨v, 0, HN.out, .inr (.inl ⟨rfl, .inl h2, rfl, rfl, rfl⟩)⟩, hh1⟩, fun h => absurd h (by decide), rfl, hb1.mono BW⟩
    by_cases h3 : 255 < v
    · go_wp2
      go_ret2
      exact ⟨0, 3, ⟨_, ⟨v, 0, HN.out, .inr (.inl ⟨rfl, .inr h3, rfl, rfl, rfl⟩)⟩, hh1⟩, fun h => absurd h (by decide), rfl, hb1.mono BW⟩
    by_cases h4 : (s.size : Int) < 2 + v
    · go_wp2
      go_ret2
      exact ⟨0, 1, ⟨_, ⟨v, 0, HN.out, .inr (.inr (.inl ⟨rfl, by omega, by omega, h4, rfl, rfl, rfl⟩))⟩, hh1⟩, fun h => absurd h (by decide), rfl, hb1.mono BW⟩
    · have hsl := fun w => sl_lh s 2 (2 + v.toNat) (by omega) (by omega) (i := 2) (j := 2 + v) rfl (by omega) w
      have HV : Hid (VarR s 2 m (2 + v.toNat) 0 (s.extract 2 (2 + v.toNat))) := Lib.hid ⟨v, 0, HN.out, .inr (.inr (.inr ⟨rfl, by omega, by omega, by omega, rfl, rfl, rfl⟩))⟩
      have HE : Hid (2 + v = ((2 + v.toNat : Nat) : Int)) := Lib.hid (by omega)
      have HZ : Hid (2 + v.toNat ≤ s.size) := Lib.hid (by omega)
      generalize s.extract 2 (2 + v.toNat) = t at *
      go_wp2
      go_ret2
      exact ⟨2 + v.toNat, 0, ⟨_, HV.out, hh1.set_ 0 _⟩, fun _ => HZ.out, ret_ic HE.out, (hb1.mono BW).setCell (p := ⟨h, 0, none⟩) Bh _⟩
  · have hcc : (e == 0) = false := by simpa using he
    have hcc2 : (e != 0) = true := by simpa using he
    have HC := Lib.hid he
    go_wp2
    go_ret2
    exact ⟨0, e, ⟨_, ⟨v, e, HN.out, .inl ⟨HC.out, rfl, rfl, rfl⟩⟩, hh1⟩, fun h => absurd h HC.out, rfl, hb1.mono BW⟩
set_option maxHeartbeats 1600000 in
theorem var1_3 (s : ByteArray) (m : Int) (m0 : 0 ≤ m) (hs : s.size ≤ 281474976710656) (B g f h : Nat) (w : World) (hg : Blk w g 3 #[.int .i64 3]) (hf : Blk w f 3 #[.int .i64 m]) (hh : Blk w h 9 #[.string ByteArray.empty]) (gh : ¬ g = h) (fh : ¬ f = h) (Bh : B ≤ h) (BW : B ≤ w.heap.size) :
    Calls Tryz.prog 31 #[.string s, .pointer (some ⟨g, 0, none⟩), .pointer (some ⟨f, 0, none⟩), .pointer (some ⟨h, 0, none⟩)] w fun e w' => ∃ (n : Nat) (c : Int), (∃ t, VarR s 3 m n c t ∧ Blk w' h 9 #[.string t]) ∧ (c = 0 → n ≤ s.size) ∧ e = .returned (.tuple #[.int .i64 (n : Int), .int .i64 c]) ∧ Below B w w' := by
  have C := Lib.hid (number_any s 3 (by omega) (by omega) hs w)
  have g0 := hg.cell 0
  have f0 := hf.cell 0
  simp at g0 f0
  have hm0 : ¬ m < 0 := by omega
  go_enter Tryz.func31, Tryz.ntmps31
  go_wp2_with fail
  go_at_call 27
  refine C.out.mono ?_
  rintro e w1 ⟨⟨v, e, hN, rfl⟩, hb1⟩
  have hg1 := hg.below hb1 hg.lt
  have hf1 := hf.below hb1 hf.lt
  have hh1 := hh.below hb1 hh.lt
  have g1 := hg1.cell 0
  have f1 := hf1.cell 0
  have z1 := hh1.frozen 0
  have h1 := hh1.cell 0
  simp at g1 f1 h1
  obtain ⟨v0, v1⟩ := hN.bd (by decide)
  have HN := Lib.hid hN
  clear hN
  have gh1 : ¬ h = g := fun h => gh h.symm
  have fh1 : ¬ h = f := fun h => fh h.symm
  by_cases he : e = 0
  · subst he
    by_cases h2 : m < v
    · go_wp2
      go_ret2
      exact ⟨0, 3, ⟨_, ⟨v, 0, HN.out, .inr (.inl ⟨rfl, .inl h2, rfl, rfl, rfl⟩)⟩, hh1⟩, fun h => absurd h (by decide), rfl, hb1.mono BW⟩
    by_cases h3 : 255 < v
    · go_wp2
      go_ret2
      exact ⟨0, 3, ⟨_, ⟨v, 0, HN.out, .inr (.inl ⟨rfl, .inr h3, rfl, rfl, rfl⟩)⟩, hh1⟩, fun h => absurd h (by decide), rfl, hb1.mono BW⟩
    by_cases h4 : (s.size : Int) < 3 + v
    · go_wp2
      go_ret2
      exact ⟨0, 1, ⟨_, ⟨v, 0, HN.out, .inr (.inr (.inl ⟨rfl, by omega, by omega, h4, rfl, rfl, rfl⟩))⟩, hh1⟩, fun h => absurd h (by decide), rfl, hb1.mono BW⟩
    · have hsl := fun w => sl_lh s 3 (3 + v.toNat) (by omega) (by omega) (i := 3) (j := 3 + v) rfl (by omega) w
      have HV : Hid (VarR s 3 m (3 + v.toNat) 0 (s.extract 3 (3 + v.toNat))) := Lib.hid ⟨v, 0, HN.out, .inr (.inr (.inr ⟨rfl, by omega, by omega, by omega, rfl, rfl, rfl⟩))⟩
      have HE : Hid (3 + v = ((3 + v.toNat : Nat) : Int)) := Lib.hid (by omega)
      have HZ : Hid (3 + v.toNat ≤ s.size) := Lib.hid (by omega)
      generalize s.extract 3 (3 + v.toNat) = t at *
      go_wp2
      go_ret2
      exact ⟨3 + v.toNat, 0, ⟨_, HV.out, hh1.set_ 0 _⟩, fun _ => HZ.out, ret_ic HE.out, (hb1.mono BW).setCell (p := ⟨h, 0, none⟩) Bh _⟩
  · have hcc : (e == 0) = false := by simpa using he
    have hcc2 : (e != 0) = true := by simpa using he
    have HC := Lib.hid he
    go_wp2
    go_ret2
    exact ⟨0, e, ⟨_, ⟨v, e, HN.out, .inl ⟨HC.out, rfl, rfl, rfl⟩⟩, hh1⟩, fun h => absurd h HC.out, rfl, hb1.mono BW⟩
end Go.Proofs.YtjemljhfopgmiaaGreatDoor
