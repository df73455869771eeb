/-
  CONTRACTS of wire: the reader, a number of a width.
-/
import Derived.Test.YtjemljhfopgmiaaGreatDoorZ8
import Derived.Below
import Derived.OwnWalk
import Derived.WalkLawsBesides
import Derived.Deep.QuietTactic
import Derived.BigQuiet
namespace Go.Proofs.YtjemljhfopgmiaaGreatDoor
open Go.RowKit
set_option linter.unusedVariables false
set_option linter.unusedSimpArgs false
def Blk (w : World) (g : Nat) (t : TypeId) (cs : Array Value) : Prop := w.heap[g]? = some (.cells cs t (0, 0))

section
variable {w w' : World} {g : Nat} {t : TypeId} {cs : Array Value}
theorem Blk.lt (h : Blk w g t cs) : g < w.heap.size := by
  rcases Nat.lt_or_ge g w.heap.size with hlt | hge
  · exact hlt
  · unfold Blk at h; rw [Array.getElem?_eq_none hge] at h; cases h
theorem Blk.cell (h : Blk w g t cs) (i : Nat) : w.cell? ⟨g, i, none⟩ = cs[i]? := cell_of_row w g i cs t (0, 0) h
theorem Blk.frozen (h : Blk w g t cs) (i : Nat) : w.frozen? ⟨g, i, none⟩ = false := by
  unfold Blk at h
  simp [World.frozen?, h]
theorem Blk.new (w : World) (t : TypeId) (cs : Array Value) : Blk (w.alloc (.cells cs t)) w.heap.size t cs := heap_alloc_new w _
theorem Blk.drew (h : Blk w g t cs) : Blk w.drew g t cs := h
theorem Blk.drewN (h : Blk w g t cs) (n : Nat) : Blk (w.drewN n) g t cs := h
theorem Blk.alloc (h : Blk w g t cs) (o : Obj) : Blk (w.alloc o) g t cs := (Below.heap_alloc w o g h.lt).trans h
theorem Blk.set_ (h : Blk w g t cs) (i : Nat) (u : Value) : Blk (w.setCell ⟨g, i, none⟩ u) g t (cs.setIfInBounds i u) := by
  unfold Blk at h ⊢
  simp [World.setCell, Array.getElem?_modify, h]
theorem Blk.far (h : Blk w g t cs) {p : Addr} (hp : g ≠ p.block) (u : Value) : Blk (w.setCell p u) g t cs := (Below.heap_setCell w p u g hp).trans h
theorem Blk.below {B : Nat} (h : Blk w g t cs) (hb : Below B w w') (hg : g < B) : Blk w' g t cs := (hb.block g hg).trans h
theorem Blk.grown {row : Option Nat} (h : Blk w g t cs) (hb : w.grownBy w' row) (hg : some g ≠ row) : Blk w' g t cs := (hb.block g h.lt hg).trans h
end

theorem newReader_any (s : ByteArray) (w : World) : Calls Tryz.prog 5 #[.string s] w fun e w' => e = .returned (.pointer (some ⟨w.heap.size, 0, none⟩)) ∧ Blk w' w.heap.size 42 #[.string s, .int .i64 0] ∧ Below w.heap.size w w' := by
  go_enter Tryz.func5, Tryz.ntmps5
  go_wp2
  go_ret
  exact ⟨rfl, Blk.new _ _ _, (Below.refl _ _).alloc (Nat.le_refl _) _⟩
theorem NumbP.zero {s : ByteArray} {k : Nat} {v c : Int} (h : NumbP s k v c) (hc : c ≠ 0) : v = 0 := by
  rcases h with h | h | h
  · exact h.2.1
  · exact h.2.2.1
  · exact absurd h.2.2.2 hc
theorem NumbP.fits {s : ByteArray} {k : Nat} {v c : Int} (h : NumbP s k v c) (hc : c = 0) : k ≤ s.size := by
  rcases h with h | h | h
  · exact absurd (hc ▸ h.2.2) (by decide)
  · exact h.1
  · exact h.1
set_option maxHeartbeats 1600000 in
theorem num1_any (s : ByteArray) (k : Nat) (k1 : 1 ≤ k) (k2 : k ≤ 15) (hs : s.size ≤ 281474976710656) (B g h : Nat) (w : World) (hg : Blk w g 3 #[.int .i64 (k : Int)]) (hh : Blk w h 2 #[.int .i64 0]) (gh : ¬ g = h) (Bh : B ≤ h) (BW : B ≤ w.heap.size) :
    Calls Tryz.prog 26 #[.string s, .pointer (some ⟨g, 0, none⟩), .pointer (some ⟨h, 0, none⟩)] w fun e w' => ∃ v c, NumbP s k v c ∧ e = .returned (.tuple #[.int .i64 (k : Int), .int .i64 c]) ∧ Blk w' h 2 #[.int .i64 v] ∧ Below B w w' := by
  have C := Lib.hid (number_any s k k1 k2 hs w)
  have g0 := hg.cell 0
  simp at g0
  go_enter Tryz.func26, Tryz.ntmps26
  go_wp2_with fail
  go_at_call 27
  refine C.out.mono ?_
  rintro e w1 ⟨⟨v, c, hN, rfl⟩, hb1⟩
  have hg1 := hg.below hb1 hg.lt
  have hh1 := hh.below hb1 hh.lt
  have g1 := hg1.cell 0
  have f1 := hh1.frozen 0
  have h1 := hh1.cell 0
  simp at g1 h1
  have HN := Lib.hid hN
  clear hN
  have gh1 : ¬ h = g := fun h => gh h.symm
  by_cases hc : c = 0
  · subst hc
    go_wp2
    go_ret2
    exact ⟨v, 0, HN.out, rfl, hh1.set_ 0 _, (hb1.mono BW).setCell (p := ⟨h, 0, none⟩) Bh _⟩
  · have hz := HN.out.zero hc
    subst hz
    have hcc : (c == 0) = false := by simpa using hc
    go_wp2
    go_ret2
    exact ⟨0, c, HN.out, rfl, hh1, hb1.mono BW⟩
set_option maxHeartbeats 1600000 in
theorem read_num (b g h : Nat) (s : ByteArray) (k : Nat) (k1 : 1 ≤ k) (k2 : k ≤ 15) (hs : s.size ≤ 281474976710656) (B : Nat) (w : World) (hb : Blk w b 42 #[.string s, .int .i64 0]) (hg : Blk w g 3 #[.int .i64 (k : Int)]) (hh : Blk w h 2 #[.int .i64 0]) (bB : B ≤ b) (bh : b < h) (gh : ¬ g = h) :
    Calls Tryz.prog 25 #[.pointer (some ⟨b, 0, none⟩), .func (Fn.func 26) #[] #[.pointer (some ⟨g, 0, none⟩), .pointer (some ⟨h, 0, none⟩)]] w fun e w' => ∃ v c, NumbP s k v c ∧ (∃ t, e = .returned t) ∧ Blk w' h 2 #[.int .i64 v] ∧ Blk w' b 42 #[.string (if c = 0 then s.extract k s.size else s), .int .i64 c] ∧ Below B w w' := by
  have b0 := hb.cell 0
  have b1 := hb.cell 1
  simp at b0 b1
  have C := Lib.hid (num1_any s k k1 k2 hs (b + 1) g h w hg hh gh (by omega) hb.lt)
  go_enter Tryz.func25, Tryz.ntmps25
  go_wp2_with fail
  refine C.out.mono ?_
  rintro e w1 ⟨v, c, hN, rfl, hh1, hw1⟩
  have hb2 := hb.below hw1 (Nat.lt_succ_self b)
  have c0 := hb2.cell 0
  have c1 := hb2.cell 1
  have f0 := hb2.frozen 0
  have f1 := hb2.frozen 1
  simp at c0 c1
  have HN := Lib.hid hN
  clear hN
  by_cases hc : c = 0
  · subst hc
    have hsl := fun w => sl_l s k (HN.out.fits rfl) (i := (k : Int)) rfl w
    go_wp2
    go_end0
    exact ⟨v, 0, HN.out, ⟨_, rfl⟩, hh1.far (by show h ≠ b; omega) _, by rw [if_pos rfl]; exact hb2.set_ 0 _, (hw1.mono (by omega)).setCell (p := ⟨b, 0, none⟩) bB _⟩
  · have hcc : (c == 0) = false := by simpa using hc
    have hcc2 : (c != 0) = true := by simpa using hc
    have HC := Lib.hid hc
    go_wp2
    refine bodyPost_ret (results_none rfl _ _ _) rfl ?_
    exact ⟨v, c, HN.out, ⟨_, rfl⟩, hh1.far (p := ⟨b, 1, none⟩) (by show h ≠ b; omega) _, by rw [if_neg HC.out]; exact hb2.set_ 1 _, (hw1.mono (by omega)).setCell (p := ⟨b, 1, none⟩) bB _⟩
set_option maxHeartbeats 1600000 in
/-- Num of a reader without an error. -/
theorem rd_num (b : Nat) (s : ByteArray) (k : Nat) (k1 : 1 ≤ k) (k2 : k ≤ 15) (hs : s.size ≤ 281474976710656) (B : Nat) (w : World) (hb : Blk w b 42 #[.string s, .int .i64 0]) (bB : B ≤ b) :
    Calls Tryz.prog 7 #[.pointer (some ⟨b, 0, none⟩), .int .i64 (k : Int)] w fun e w' => ∃ v c, NumbP s k v c ∧ e = .returned (.int .i64 v) ∧ Blk w' b 42 #[.string (if c = 0 then s.extract k s.size else s), .int .i64 c] ∧ Below B w w' := by
  have hlt := hb.lt
  have C := Lib.hid (read_num b w.heap.size (w.heap.size + 1) s k k1 k2 hs B ((w.alloc (.cells #[.int .i64 (k : Int)] 3)).alloc (.cells #[.int .i64 0] 2)) ((hb.alloc _).alloc _) ((Blk.new _ _ _).alloc _) (by have := Blk.new (w.alloc (.cells #[.int .i64 (k : Int)] 3)) 2 #[.int .i64 0]; simpa using this) bB (by omega) (by omega))
  go_enter Tryz.func7, Tryz.ntmps7
  go_wp2_with fail
  refine C.out.mono ?_
  rintro e w1 ⟨v, c, hN, ⟨t, rfl⟩, hh1, hb1, hw1⟩
  have HN := Lib.hid hN
  clear hN
  have c0 := hh1.cell 0
  simp at c0
  go_wp2
  go_ret
  exact ⟨v, c, HN.out, rfl, hb1, (((Below.refl B w).alloc (by omega) _).alloc (by simp; omega) _).trans hw1⟩
end Go.Proofs.YtjemljhfopgmiaaGreatDoor
