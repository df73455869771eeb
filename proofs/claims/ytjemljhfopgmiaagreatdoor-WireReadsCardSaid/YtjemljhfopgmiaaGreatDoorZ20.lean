/-
  CONTRACTS of wire: reading leaves every other block as it was: read, for each of its functions.
-/
import Derived.Test.YtjemljhfopgmiaaGreatDoorZ19
namespace Go.Proofs.YtjemljhfopgmiaaGreatDoor
open Go.RowKit
set_option linter.unusedVariables false
set_option linter.unusedSimpArgs false
/-- w' is w, but for the reader's block b, and for blocks from B on. -/
structure Bes (b B : Nat) (w w' : World) : Prop where
  os : w'.os = w.os
  tape : w'.tape = w.tape
  output : w'.output = w.output
  size : w.heap.size ≤ w'.heap.size
  block : ∀ k, k < B → k ≠ b → w'.heap[k]? = w.heap[k]?
theorem Bes.below {b B C : Nat} {w w' : World} (h : Bes b B w w') (hb : C ≤ b) (hB : C ≤ B) : Below C w w' :=
  ⟨h.os, h.tape, h.output, h.size, fun k hk => h.block k (by omega) (by omega)⟩
theorem Bes.of {b B : Nat} {w v : World} (h : Below B w v) : Bes b B w v := ⟨h.os, h.tape, h.output, h.size, fun k hk _ => h.block k hk⟩
theorem Bes.set {b B : Nat} {w v : World} (h : Below B w v) (o : Nat) (u : Value) : Bes b B w (v.setCell ⟨b, o, none⟩ u) :=
  have hz : (v.setCell ⟨b, o, none⟩ u).heap.size = v.heap.size := by simp
  ⟨h.os, h.tape, h.output, by rw [hz]; exact h.size, fun k hk hn => (Below.heap_setCell v ⟨b, o, none⟩ u k hn).trans (h.block k hk)⟩
theorem Bes.after {b B : Nat} {w v w' : World} (h0 : Below B w v) (h : Bes b B v w') : Bes b B w w' :=
  ⟨h.os.trans h0.os, h.tape.trans h0.tape, h.output.trans h0.output, Nat.le_trans h0.size h.size, fun k hk hn => (h.block k hk hn).trans (h0.block k hk)⟩
theorem Bes.blk {b B : Nat} {w w' : World} (h : Bes b B w w') {g : Nat} {T : TypeId} {cs : Array Value} (hg : Blk w g T cs) (h1 : g < B) (h2 : g ≠ b) : Blk w' g T cs := (h.block g h1 h2).trans hg
set_option maxHeartbeats 1600000 in
set_option maxRecDepth 5000 in
/-- read of a reader without an error: what the function answers, n bytes and c; R is what the function left in the world besides, kept by writing to the reader's cells. -/
theorem readb_num (x y : Addr) (b B : Nat) (s : ByteArray) (R : Nat → Int → World → Prop) (hR : ∀ n c W o u, R n c W → R n c (W.setCell ⟨b, o, none⟩ u)) (hs : s.size ≤ 281474976710656) (w : World) (hb : Blk w b 42 #[.string s, .int .i64 0]) (bB : b < B)
    (C : Hid (Calls Tryz.prog 26 #[.string s, .pointer (some x), .pointer (some y)] w fun e w' => ∃ (n : Nat) (c : Int), R n c w' ∧ (c = 0 → n ≤ s.size) ∧ e = .returned (.tuple #[.int .i64 (n : Int), .int .i64 c]) ∧ Below B w w')) :
    Calls Tryz.prog 25 #[.pointer (some ⟨b, 0, none⟩), .func (Fn.func 26) #[] #[.pointer (some x), .pointer (some y)]] w fun e w' => ∃ (n : Nat) (c : Int), R n c w' ∧ (c = 0 → n ≤ s.size) ∧ (∃ t, e = .returned t) ∧ Blk w' b 42 #[.string (if c = 0 then s.extract n s.size else s), .int .i64 c] ∧ Bes b B w w' := by
  have b0 := hb.cell 0
  have b1 := hb.cell 1
  simp at b0 b1
  have HR := Lib.hid hR
  clear hR
  go_enter Tryz.func25, Tryz.ntmps25
  go_wp2_with fail
  refine C.out.mono ?_
  rintro e w1 ⟨n, c, hr, hn, rfl, hw1⟩
  have hb2 := hb.below hw1 bB
  have c0 := hb2.cell 0
  have c1 := hb2.cell 1
  have f0 := hb2.frozen 0
  have f1 := hb2.frozen 1
  simp at c0 c1
  have HN := Lib.hid hn
  have Hr := Lib.hid hr
  clear hn hr
  by_cases hc : c = 0
  · subst hc
    have hsl := fun w => sl_l s n (HN.out rfl) (i := (n : Int)) rfl w
    go_wp2
    go_end0
    exact ⟨n, 0, HR.out n 0 _ 0 _ Hr.out, fun _ => HN.out trivial, ⟨_, rfl⟩, by rw [if_pos rfl]; exact hb2.set_ 0 _, Bes.set hw1 0 _⟩
  · have hcc : (c == 0) = false := by simpa using hc
    have hcc2 : (c != 0) = true := by simpa using hc
    have HC := Lib.hid hc
    go_wp2
    refine bodyPost_ret (results_none rfl _ _ _) rfl ?_
    exact ⟨n, c, HR.out n c _ 1 _ Hr.out, HN.out, ⟨_, rfl⟩, by rw [if_neg HC.out]; exact hb2.set_ 1 _, Bes.set hw1 1 _⟩
set_option maxHeartbeats 1600000 in
set_option maxRecDepth 5000 in
/-- read of a reader without an error: what the function answers, n bytes and c; R is what the function left in the world besides, kept by writing to the reader's cells. -/
theorem readb_alpha (x y : Addr) (b B : Nat) (s : ByteArray) (R : Nat → Int → World → Prop) (hR : ∀ n c W o u, R n c W → R n c (W.setCell ⟨b, o, none⟩ u)) (hs : s.size ≤ 281474976710656) (w : World) (hb : Blk w b 42 #[.string s, .int .i64 0]) (bB : b < B)
    (C : Hid (Calls Tryz.prog 28 #[.string s, .pointer (some x), .pointer (some y)] w fun e w' => ∃ (n : Nat) (c : Int), R n c w' ∧ (c = 0 → n ≤ s.size) ∧ e = .returned (.tuple #[.int .i64 (n : Int), .int .i64 c]) ∧ Below B w w')) :
    Calls Tryz.prog 25 #[.pointer (some ⟨b, 0, none⟩), .func (Fn.func 28) #[] #[.pointer (some x), .pointer (some y)]] w fun e w' => ∃ (n : Nat) (c : Int), R n c w' ∧ (c = 0 → n ≤ s.size) ∧ (∃ t, e = .returned t) ∧ Blk w' b 42 #[.string (if c = 0 then s.extract n s.size else s), .int .i64 c] ∧ Bes b B w w' := by
  have b0 := hb.cell 0
  have b1 := hb.cell 1
  simp at b0 b1
  have HR := Lib.hid hR
  clear hR
  go_enter Tryz.func25, Tryz.ntmps25
  go_wp2_with fail
  refine C.out.mono ?_
  rintro e w1 ⟨n, c, hr, hn, rfl, hw1⟩
  have hb2 := hb.below hw1 bB
  have c0 := hb2.cell 0
  have c1 := hb2.cell 1
  have f0 := hb2.frozen 0
  have f1 := hb2.frozen 1
  simp at c0 c1
  have HN := Lib.hid hn
  have Hr := Lib.hid hr
  clear hn hr
  by_cases hc : c = 0
  · subst hc
    have hsl := fun w => sl_l s n (HN.out rfl) (i := (n : Int)) rfl w
    go_wp2
    go_end0
    exact ⟨n, 0, HR.out n 0 _ 0 _ Hr.out, fun _ => HN.out trivial, ⟨_, rfl⟩, by rw [if_pos rfl]; exact hb2.set_ 0 _, Bes.set hw1 0 _⟩
  · have hcc : (c == 0) = false := by simpa using hc
    have hcc2 : (c != 0) = true := by simpa using hc
    have HC := Lib.hid hc
    go_wp2
    refine bodyPost_ret (results_none rfl _ _ _) rfl ?_
    exact ⟨n, c, HR.out n c _ 1 _ Hr.out, HN.out, ⟨_, rfl⟩, by rw [if_neg HC.out]; exact hb2.set_ 1 _, Bes.set hw1 1 _⟩
set_option maxHeartbeats 1600000 in
set_option maxRecDepth 5000 in
/-- read of a reader without an error: what the function answers, n bytes and c; R is what the function left in the world besides, kept by writing to the reader's cells. -/
theorem readb_take (x y : Addr) (b B : Nat) (s : ByteArray) (R : Nat → Int → World → Prop) (hR : ∀ n c W o u, R n c W → R n c (W.setCell ⟨b, o, none⟩ u)) (hs : s.size ≤ 281474976710656) (w : World) (hb : Blk w b 42 #[.string s, .int .i64 0]) (bB : b < B)
    (C : Hid (Calls Tryz.prog 32 #[.string s, .pointer (some x), .pointer (some y)] w fun e w' => ∃ (n : Nat) (c : Int), R n c w' ∧ (c = 0 → n ≤ s.size) ∧ e = .returned (.tuple #[.int .i64 (n : Int), .int .i64 c]) ∧ Below B w w')) :
    Calls Tryz.prog 25 #[.pointer (some ⟨b, 0, none⟩), .func (Fn.func 32) #[] #[.pointer (some x), .pointer (some y)]] w fun e w' => ∃ (n : Nat) (c : Int), R n c w' ∧ (c = 0 → n ≤ s.size) ∧ (∃ t, e = .returned t) ∧ Blk w' b 42 #[.string (if c = 0 then s.extract n s.size else s), .int .i64 c] ∧ Bes b B w w' := by
  have b0 := hb.cell 0
  have b1 := hb.cell 1
  simp at b0 b1
  have HR := Lib.hid hR
  clear hR
  go_enter Tryz.func25, Tryz.ntmps25
  go_wp2_with fail
  refine C.out.mono ?_
  rintro e w1 ⟨n, c, hr, hn, rfl, hw1⟩
  have hb2 := hb.below hw1 bB
  have c0 := hb2.cell 0
  have c1 := hb2.cell 1
  have f0 := hb2.frozen 0
  have f1 := hb2.frozen 1
  simp at c0 c1
  have HN := Lib.hid hn
  have Hr := Lib.hid hr
  clear hn hr
  by_cases hc : c = 0
  · subst hc
    have hsl := fun w => sl_l s n (HN.out rfl) (i := (n : Int)) rfl w
    go_wp2
    go_end0
    exact ⟨n, 0, HR.out n 0 _ 0 _ Hr.out, fun _ => HN.out trivial, ⟨_, rfl⟩, by rw [if_pos rfl]; exact hb2.set_ 0 _, Bes.set hw1 0 _⟩
  · have hcc : (c == 0) = false := by simpa using hc
    have hcc2 : (c != 0) = true := by simpa using hc
    have HC := Lib.hid hc
    go_wp2
    refine bodyPost_ret (results_none rfl _ _ _) rfl ?_
    exact ⟨n, c, HR.out n c _ 1 _ Hr.out, HN.out, ⟨_, rfl⟩, by rw [if_neg HC.out]; exact hb2.set_ 1 _, Bes.set hw1 1 _⟩
set_option maxHeartbeats 1600000 in
set_option maxRecDepth 5000 in
/-- read of a reader without an error: what the function answers, n bytes and c; R is what the function left in the world besides, kept by writing to the reader's cells. -/
theorem readb_var (x y z : Addr) (b B : Nat) (s : ByteArray) (R : Nat → Int → World → Prop) (hR : ∀ n c W o u, R n c W → R n c (W.setCell ⟨b, o, none⟩ u)) (hs : s.size ≤ 281474976710656) (w : World) (hb : Blk w b 42 #[.string s, .int .i64 0]) (bB : b < B)
    (C : Hid (Calls Tryz.prog 31 #[.string s, .pointer (some x), .pointer (some y), .pointer (some z)] w fun e w' => ∃ (n : Nat) (c : Int), R n c w' ∧ (c = 0 → n ≤ s.size) ∧ e = .returned (.tuple #[.int .i64 (n : Int), .int .i64 c]) ∧ Below B w w')) :
    Calls Tryz.prog 25 #[.pointer (some ⟨b, 0, none⟩), .func (Fn.func 31) #[] #[.pointer (some x), .pointer (some y), .pointer (some z)]] w fun e w' => ∃ (n : Nat) (c : Int), R n c w' ∧ (c = 0 → n ≤ s.size) ∧ (∃ t, e = .returned t) ∧ Blk w' b 42 #[.string (if c = 0 then s.extract n s.size else s), .int .i64 c] ∧ Bes b B w w' := by
  have b0 := hb.cell 0
  have b1 := hb.cell 1
  simp at b0 b1
  have HR := Lib.hid hR
  clear hR
  go_enter Tryz.func25, Tryz.ntmps25
  go_wp2_with fail
  refine C.out.mono ?_
  rintro e w1 ⟨n, c, hr, hn, rfl, hw1⟩
  have hb2 := hb.below hw1 bB
  have c0 := hb2.cell 0
  have c1 := hb2.cell 1
  have f0 := hb2.frozen 0
  have f1 := hb2.frozen 1
  simp at c0 c1
  have HN := Lib.hid hn
  have Hr := Lib.hid hr
  clear hn hr
  by_cases hc : c = 0
  · subst hc
    have hsl := fun w => sl_l s n (HN.out rfl) (i := (n : Int)) rfl w
    go_wp2
    go_end0
    exact ⟨n, 0, HR.out n 0 _ 0 _ Hr.out, fun _ => HN.out trivial, ⟨_, rfl⟩, by rw [if_pos rfl]; exact hb2.set_ 0 _, Bes.set hw1 0 _⟩
  · have hcc : (c == 0) = false := by simpa using hc
    have hcc2 : (c != 0) = true := by simpa using hc
    have HC := Lib.hid hc
    go_wp2
    refine bodyPost_ret (results_none rfl _ _ _) rfl ?_
    exact ⟨n, c, HR.out n c _ 1 _ Hr.out, HN.out, ⟨_, rfl⟩, by rw [if_neg HC.out]; exact hb2.set_ 1 _, Bes.set hw1 1 _⟩
set_option maxHeartbeats 1600000 in
theorem num1_bad (s : ByteArray) (d : Int) (hd : ¬ (1 ≤ d ∧ d ≤ 15)) (B g h : Nat) (w : World) (hg : Blk w g 3 #[.int .i64 d]) (hh : Blk w h 2 #[.int .i64 0]) :
    Calls Tryz.prog 26 #[.string s, .pointer (some ⟨g, 0, none⟩), .pointer (some ⟨h, 0, none⟩)] w fun e w' => ∃ (n : Nat) (c : Int), (c = 4 ∧ Blk w' h 2 #[.int .i64 0]) ∧ (c = 0 → n ≤ s.size) ∧ e = .returned (.tuple #[.int .i64 (n : Int), .int .i64 c]) ∧ Below B w w' := by
  have g0 := hg.cell 0
  simp at g0
  by_cases h1 : d < 1
  · skip
    go_enter Tryz.func26, Tryz.ntmps26
    go_wp2
    go_ret2
    exact ⟨0, 4, ⟨rfl, hh⟩, fun h => absurd h (by decide), rfl, Below.refl _ _⟩
  · have h2 : 15 < d := by omega
    go_enter Tryz.func26, Tryz.ntmps26
    go_wp2
    go_ret2
    exact ⟨0, 4, ⟨rfl, hh⟩, fun h => absurd h (by decide), rfl, Below.refl _ _⟩
set_option maxHeartbeats 1600000 in
theorem alpha1_bad (s : ByteArray) (d : Int) (hd : ¬ (1 ≤ d ∧ d ≤ 255)) (B g h : Nat) (w : World) (hg : Blk w g 3 #[.int .i64 d]) (hh : Blk w h 9 #[.string ByteArray.empty]) :
    Calls Tryz.prog 28 #[.string s, .pointer (some ⟨g, 0, none⟩), .pointer (some ⟨h, 0, none⟩)] w fun e w' => ∃ (n : Nat) (c : Int), (c = 4 ∧ Blk w' h 9 #[.string ByteArray.empty]) ∧ (c = 0 → n ≤ s.size) ∧ e = .returned (.tuple #[.int .i64 (n : Int), .int .i64 c]) ∧ Below B w w' := by
  have g0 := hg.cell 0
  simp at g0
  by_cases h1 : d < 1
  · skip
    go_enter Tryz.func28, Tryz.ntmps28
    go_wp2
    go_ret2
    exact ⟨0, 4, ⟨rfl, hh⟩, fun h => absurd h (by decide), rfl, Below.refl _ _⟩
  · have h2 : 255 < d := by omega
    go_enter Tryz.func28, Tryz.ntmps28
    go_wp2
    go_ret2
    exact ⟨0, 4, ⟨rfl, hh⟩, fun h => absurd h (by decide), rfl, Below.refl _ _⟩
set_option maxHeartbeats 1600000 in
theorem take1_bad (s : ByteArray) (d : Int) (hd : d < 0) (B g h : Nat) (w : World) (hg : Blk w g 3 #[.int .i64 d]) (hh : Blk w h 9 #[.string ByteArray.empty]) :
    Calls Tryz.prog 32 #[.string s, .pointer (some ⟨g, 0, none⟩), .pointer (some ⟨h, 0, none⟩)] w fun e w' => ∃ (n : Nat) (c : Int), (c = 4 ∧ Blk w' h 9 #[.string ByteArray.empty]) ∧ (c = 0 → n ≤ s.size) ∧ e = .returned (.tuple #[.int .i64 (n : Int), .int .i64 c]) ∧ Below B w w' := by
  have g0 := hg.cell 0
  simp at g0
  skip
  go_enter Tryz.func32, Tryz.ntmps32
  go_wp2
  go_ret2
  exact ⟨0, 4, ⟨rfl, hh⟩, fun h => absurd h (by decide), rfl, Below.refl _ _⟩
set_option maxHeartbeats 1600000 in
theorem var1_bad (s : ByteArray) (d m : Int) (hd : ¬ ((d = 2 ∨ d = 3) ∧ 0 ≤ m)) (B g f h : Nat) (w : World) (hg : Blk w g 3 #[.int .i64 d]) (hf : Blk w f 3 #[.int .i64 m]) (hh : Blk w h 9 #[.string ByteArray.empty]) :
    Calls Tryz.prog 31 #[.string s, .pointer (some ⟨g, 0, none⟩), .pointer (some ⟨f, 0, none⟩), .pointer (some ⟨h, 0, none⟩)] w fun e w' => ∃ (n : Nat) (c : Int), (c = 4 ∧ Blk w' h 9 #[.string ByteArray.empty]) ∧ (c = 0 → n ≤ s.size) ∧ e = .returned (.tuple #[.int .i64 (n : Int), .int .i64 c]) ∧ Below B w w' := by
  have g0 := hg.cell 0
  have f0 := hf.cell 0
  simp at g0 f0
  by_cases h2 : d = 2
  · subst h2
    have hm : m < 0 := by omega
    go_enter Tryz.func31, Tryz.ntmps31
    go_wp2
    go_ret2
    exact ⟨0, 4, ⟨rfl, hh⟩, fun h => absurd h (by decide), rfl, Below.refl _ _⟩
  · by_cases h3 : d = 3
    · subst h3
      have hm : m < 0 := by omega
      go_enter Tryz.func31, Tryz.ntmps31
      go_wp2
      go_ret2
      exact ⟨0, 4, ⟨rfl, hh⟩, fun h => absurd h (by decide), rfl, Below.refl _ _⟩
    · have z2 : (d == 2) = false := by simpa using h2
      have z3 : (d == 3) = false := by simpa using h3
      go_enter Tryz.func31, Tryz.ntmps31
      go_wp2
      go_ret2
      exact ⟨0, 4, ⟨rfl, hh⟩, fun h => absurd h (by decide), rfl, Below.refl _ _⟩
/-- What taking bytes takes: n bytes, the error c, the text t. -/
def TkR (s : ByteArray) (d : Nat) (n : Nat) (c : Int) (t : ByteArray) : Prop :=
  (s.size < d ∧ n = 0 ∧ c = 1 ∧ t = ByteArray.empty) ∨ (d ≤ s.size ∧ n = d ∧ c = 0 ∧ t = s.extract 0 d)
set_option maxHeartbeats 1600000 in
theorem take1 (s : ByteArray) (d : Nat) (d2 : d ≤ 9223372036854775807) (hs : s.size ≤ 281474976710656) (B g h : Nat) (w : World) (hg : Blk w g 3 #[.int .i64 (d : Int)]) (hh : Blk w h 9 #[.string ByteArray.empty]) (gh : ¬ g = h) (Bh : B ≤ h) (BW : B ≤ w.heap.size) :
    Calls Tryz.prog 32 #[.string s, .pointer (some ⟨g, 0, none⟩), .pointer (some ⟨h, 0, none⟩)] w fun e w' => ∃ (n : Nat) (c : Int), (∃ t, TkR s d n c t ∧ Blk w' h 9 #[.string t]) ∧ (c = 0 → n ≤ s.size) ∧ e = .returned (.tuple #[.int .i64 (n : Int), .int .i64 c]) ∧ Below B w w' := by
  have g0 := hg.cell 0
  simp at g0
  have z1 := hh.frozen 0
  have h1 := hh.cell 0
  simp at h1
  have gh1 : ¬ h = g := fun h => gh h.symm
  by_cases hlt : s.size < d
  · go_enter Tryz.func32, Tryz.ntmps32
    go_wp2
    go_ret2
    exact ⟨0, 1, ⟨_, .inl ⟨hlt, rfl, rfl, rfl⟩, hh⟩, fun h => absurd h (by decide), rfl, Below.refl _ _⟩
  have hsl := fun w => sl_h s d (by omega) (j := (d : Int)) rfl w
  have HG : Hid (TkR s d d 0 (s.extract 0 d)) := Lib.hid (.inr ⟨by omega, rfl, rfl, rfl⟩)
  generalize s.extract 0 d = q at *
  go_enter Tryz.func32, Tryz.ntmps32
  go_wp2
  go_ret2
  exact ⟨d, 0, ⟨_, HG.out, hh.set_ 0 _⟩, fun _ => by omega, rfl, (Below.refl _ _).setCell (p := ⟨h, 0, none⟩) Bh _⟩
end Go.Proofs.YtjemljhfopgmiaaGreatDoor
