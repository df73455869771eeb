/-
  CONTRACTS of disk: blocks of the call's own, kept worlds, and what a disk is.
-/
import Derived.Test.YtkfiekpinojahaaChecked
import Derived.Lib.Hide
import Derived.Below
import Derived.OwnWalk
import Derived.LoopN
import Derived.WalkLawsBesides
import Derived.Deep.QuietTactic
import Derived.BigQuiet
import Derived.Deep.RegionHeld3
import Derived.Deep.RegionWith
import Derived.Maps.AppendAt
import Derived.Deep.AppendLies
import Derived.RegionTactic
namespace Go.Proofs.Ytkfiekpinojahaa
open Go.RowKit
set_option linter.unusedVariables false
set_option linter.unusedSimpArgs false
def Blk (w : World) (g : Nat) (t : TypeId) (cs : Array Value) : Prop := w.heap[g]? = some (.cells cs t (0, 0))

section
variable {w w' : World} {g : Nat} {t : TypeId} {cs : Array Value}
theorem Blk.lt (h : Blk w g t cs) : g < w.heap.size := by
  rcases Nat.lt_or_ge g w.heap.size with hlt | hge
  · exact hlt
  · unfold Blk at h; rw [Array.getElem?_eq_none hge] at h; cases h
theorem Blk.cell (h : Blk w g t cs) (i : Nat) : w.cell? ⟨g, i, none⟩ = cs[i]? := cell_of_row w g i cs t (0, 0) h
theorem Blk.frozen (h : Blk w g t cs) (i : Nat) : w.frozen? ⟨g, i, none⟩ = false := by
  unfold Blk at h
  simp [World.frozen?, h]
theorem Blk.new (w : World) (t : TypeId) (cs : Array Value) : Blk (w.alloc (.cells cs t)) w.heap.size t cs := heap_alloc_new w _
theorem Blk.drew (h : Blk w g t cs) : Blk w.drew g t cs := h
theorem Blk.drewN (h : Blk w g t cs) (n : Nat) : Blk (w.drewN n) g t cs := h
theorem Blk.alloc (h : Blk w g t cs) (o : Obj) : Blk (w.alloc o) g t cs := (Below.heap_alloc w o g h.lt).trans h
theorem Blk.set_ (h : Blk w g t cs) (i : Nat) (u : Value) : Blk (w.setCell ⟨g, i, none⟩ u) g t (cs.setIfInBounds i u) := by
  unfold Blk at h ⊢
  simp [World.setCell, Array.getElem?_modify, h]
theorem Blk.far (h : Blk w g t cs) {p : Addr} (hp : g ≠ p.block) (u : Value) : Blk (w.setCell p u) g t cs := (Below.heap_setCell w p u g hp).trans h
theorem Blk.below {B : Nat} (h : Blk w g t cs) (hb : Below B w w') (hg : g < B) : Blk w' g t cs := (hb.block g hg).trans h
theorem Blk.grown {row : Option Nat} (h : Blk w g t cs) (hb : w.grownBy w' row) (hg : some g ≠ row) : Blk w' g t cs := (hb.block g h.lt hg).trans h
end

theorem world_of {P : World → Prop} {W : World} (F : World → Prop) (hF : F W) (h : ∀ W, F W → P W) : P W := h W hF
/-- w' is w, but for the blocks in S and new ones. -/
structure Kp (S : Nat → Prop) (w w' : World) : Prop where
  os : w'.os = w.os
  tape : w'.tape = w.tape
  output : w'.output = w.output
  size : w.heap.size ≤ w'.heap.size
  block : ∀ k, k < w.heap.size → ¬ S k → w'.heap[k]? = w.heap[k]?
section
variable {S S' : Nat → Prop} {a b c : World}
theorem Kp.refl (S : Nat → Prop) (w : World) : Kp S w w := ⟨rfl, rfl, rfl, Nat.le_refl _, fun _ _ _ => rfl⟩
theorem Kp.trans (h : Kp S a b) (k : Kp S b c) : Kp S a c :=
  ⟨k.os.trans h.os, k.tape.trans h.tape, k.output.trans h.output, Nat.le_trans h.size k.size, fun i hi hn => (k.block i (Nat.lt_of_lt_of_le hi h.size) hn).trans (h.block i hi hn)⟩
/-- The second step may write to what the first made. -/
theorem Kp.then (h : Kp S a b) (k : Kp S' b c) (hs : ∀ i, i < a.heap.size → S' i → S i) : Kp S a c :=
  ⟨k.os.trans h.os, k.tape.trans h.tape, k.output.trans h.output, Nat.le_trans h.size k.size, fun i hi hn => (k.block i (Nat.lt_of_lt_of_le hi h.size) (fun hk => hn (hs i hi hk))).trans (h.block i hi hn)⟩
theorem Kp.weak (h : Kp S a b) (hs : ∀ i, S i → S' i) : Kp S' a b := ⟨h.os, h.tape, h.output, h.size, fun i hi hn => h.block i hi (fun hk => hn (hs i hk))⟩
theorem Kp.alloc (h : Kp S a b) (o : Obj) : Kp S a (b.alloc o) :=
  h.trans ⟨rfl, rfl, rfl, by simp, fun k hk _ => Below.heap_alloc _ _ _ hk⟩
theorem Kp.drew (h : Kp S a b) : Kp S a b.drew := ⟨h.os, h.tape, h.output, h.size, h.block⟩
theorem Kp.drewN (h : Kp S a b) (n : Nat) : Kp S a (b.drewN n) := ⟨h.os, h.tape, h.output, h.size, h.block⟩
theorem Kp.set (h : Kp S a b) {p : Addr} (hp : S p.block ∨ a.heap.size ≤ p.block) (u : Value) : Kp S a (b.setCell p u) :=
  ⟨h.os, h.tape, h.output, by simpa [World.setCell] using h.size, fun k hk hn => (Below.heap_setCell b p u k (by rcases hp with hp | hp; exact fun e => hn (e ▸ hp); omega)).trans (h.block k hk hn)⟩
theorem Kp.grown (h : Kp S a b) {row : Option Nat} (hg : b.grownBy c row) (hr : ∀ k, row = some k → S k ∨ a.heap.size ≤ k) : Kp S a c :=
  ⟨hg.os.trans h.os, hg.tape.trans h.tape, hg.output.trans h.output, Nat.le_trans h.size hg.size, fun i hi hn => (hg.block i (Nat.lt_of_lt_of_le hi h.size) (fun e => by rcases hr i e.symm with h1 | h1; exact hn h1; omega)).trans (h.block i hi hn)⟩
theorem Kp.below (h : Kp S a b) {B : Nat} (hB : ∀ k, k < B → ¬ S k) (hs : B ≤ a.heap.size) : Below B a b := ⟨h.os, h.tape, h.output, h.size, fun k hk => h.block k (by omega) (hB k hk)⟩
theorem Kp.of (h : Below a.heap.size a b) : Kp S a b := ⟨h.os, h.tape, h.output, h.size, fun k hk _ => h.block k hk⟩
theorem Kp.blk (h : Kp S a b) {g : Nat} {t : TypeId} {cs : Array Value} (hg : Blk a g t cs) (hn : ¬ S g) : Blk b g t cs := (h.block g hg.lt hn).trans hg
theorem row_of {K : Nat} {e : TypeId} {z n : Nat} {v : Value} {xs : List Value} (hr : a.ownsRow K e z v n xs) (hk : ∀ k, v.ownBlock = some k → b.heap[k]? = a.heap[k]?) : b.ownsRow K e z v n xs := by
  obtain ⟨h1, h2⟩ := hr
  refine ⟨h1, ?_⟩
  rcases h2 with h2 | ⟨g, cap, cur, rfl, hb, hg, h3⟩
  · exact .inl h2
  · exact .inr ⟨g, cap, cur, rfl, hb, (hk g rfl).trans hg, h3⟩
theorem row_lt {K : Nat} {e : TypeId} {z n : Nat} {v : Value} {xs : List Value} (hr : a.ownsRow K e z v n xs) {k : Nat} (hk : v.ownBlock = some k) : K ≤ k ∧ k < a.heap.size := hr.lt k hk
theorem Kp.row (h : Kp S a b) {K : Nat} {e : TypeId} {z n : Nat} {v : Value} {xs : List Value} (hr : a.ownsRow K e z v n xs) (hn : ∀ k, v.ownBlock = some k → ¬ S k) : b.ownsRow K e z v n xs :=
  row_of hr fun k hk => h.block k (row_lt hr hk).2 (hn k hk)
theorem row_set {K : Nat} {e : TypeId} {z n : Nat} {v : Value} {xs : List Value} (hr : a.ownsRow K e z v n xs) {p : Addr} (hp : v.ownBlock ≠ some p.block) (u : Value) : (a.setCell p u).ownsRow K e z v n xs :=
  row_of hr fun k hk => Below.heap_setCell a p u k (fun e => hp (e ▸ hk))
theorem row_alloc {K : Nat} {e : TypeId} {z n : Nat} {v : Value} {xs : List Value} (hr : a.ownsRow K e z v n xs) (o : Obj) : (a.alloc o).ownsRow K e z v n xs :=
  row_of hr fun k hk => Below.heap_alloc a o k (row_lt hr hk).2
/-- The cells of a row. -/
theorem row_cells {K : Nat} {e : TypeId} {z n : Nat} {v : Value} {xs : List Value} (hr : a.ownsRow K e z v n xs) (hn : 0 < n) : ∃ g cap, v = .slice (some ⟨g, 0, none⟩) n cap ∧ K ≤ g ∧ g < a.heap.size ∧ ∀ i, i < n * z → a.cell? ⟨g, i, none⟩ = xs[i]? := by
  obtain ⟨h1, ⟨_, h2⟩ | ⟨g, cap, cur, rfl, hb, hg, h3, h4, h5, h6⟩⟩ := hr
  · omega
  · refine ⟨g, cap, rfl, hb, (Blk.lt (cs := cur) hg), fun i hi => ?_⟩
    rw [← h6, List.getElem?_take_of_lt hi]
    exact (cell_of_row a g i cur e (0, 0) hg).trans (by simp)
end
/-- A disk: its blocks, the writes that are pending, whether it is down, the steps until it crashes, the mask. -/
structure DSt where
  bl : List ByteArray
  pe : List (Nat × ByteArray)
  down : Bool
  steps : Nat
  mask : Nat
def strs (l : List ByteArray) : Array Value := (l.map Value.string).toArray
def wcells : List (Nat × ByteArray) → List Value
  | [] => []
  | x :: l => .int .i64 (x.1 : Int) :: .string x.2 :: wcells l
theorem wcells_len (l : List (Nat × ByteArray)) : (wcells l).length = l.length * 2 := by
  induction l with
  | nil => rfl
  | cons x l ih => simp [wcells, ih]; omega
theorem wcells_at (l : List (Nat × ByteArray)) {k : Nat} {x : Nat × ByteArray} (h : l[k]? = some x) : (wcells l)[k * 2]? = some (.int .i64 (x.1 : Int)) ∧ (wcells l)[k * 2 + 1]? = some (.string x.2) := by
  induction l generalizing k with
  | nil => simp at h
  | cons y l ih =>
    cases k with
    | zero =>
      simp at h
      subst h
      exact ⟨rfl, rfl⟩
    | succ k =>
      have := ih (by simpa using h)
      rw [show (k + 1) * 2 = k * 2 + 1 + 1 by omega]
      exact this
theorem wcells_snoc (l : List (Nat × ByteArray)) (x : Nat × ByteArray) : wcells (l ++ [x]) = wcells l ++ [.int .i64 (x.1 : Int), .string x.2] := by
  induction l with
  | nil => rfl
  | cons y l ih => simp [wcells, ih]
/-- The blocks that a disk owns. -/
def Own (D B : Nat) (v : Value) (k : Nat) : Prop := k = D ∨ k = B ∨ v.ownBlock = some k
structure Rep (w : World) (K D B : Nat) (v : Value) (s : DSt) : Prop where
  disk : Blk w D 59 #[.slice (some ⟨B, 0, none⟩) s.bl.length s.bl.length, v, .bool s.down, .int .i64 (s.steps : Int), .int .u64 (s.mask : Int)]
  blocks : Blk w B 9 (strs s.bl)
  row : w.ownsRow K 65 2 v s.pe.length (wcells s.pe)
  db : D ≠ B
  dv : v.ownBlock ≠ some D
  bv : v.ownBlock ≠ some B
  kd : K ≤ D
  kb : K ≤ B
  inb : ∀ x ∈ s.pe, x.1 < s.bl.length
  lb : s.bl.length ≤ 4096
  lp : s.pe.length ≤ 4096
  ls : s.steps ≤ 1000000
  lm : s.mask < 18446744073709551616
/-- What a call leaves: the disk in a new state, and the rest of the world as it was. -/
structure Left (w w' : World) (K D B : Nat) (v v' : Value) (s' : DSt) : Prop where
  rep : Rep w' K D B v' s'
  kp : Kp (Own D B v) w w'
  own : ∀ k, v'.ownBlock = some k → v.ownBlock = some k ∨ w.heap.size ≤ k
theorem Rep.kp {w w' : World} {K D B : Nat} {v : Value} {s : DSt} (h : Rep w K D B v s) {S : Nat → Prop} (k : Kp S w w') (hn : ∀ i, Own D B v i → ¬ S i) : Rep w' K D B v s :=
  ⟨k.blk h.disk (hn D (.inl rfl)), k.blk h.blocks (hn B (.inr (.inl rfl))), k.row h.row (fun i hi => hn i (.inr (.inr hi))), h.db, h.dv, h.bv, h.kd, h.kb, h.inb, h.lb, h.lp, h.ls, h.lm⟩
theorem Rep.lt {w : World} {K D B : Nat} {v : Value} {s : DSt} (h : Rep w K D B v s) {i : Nat} (hi : Own D B v i) : K ≤ i ∧ i < w.heap.size := by
  rcases hi with rfl | rfl | hi
  · exact ⟨h.kd, h.disk.lt⟩
  · exact ⟨h.kb, h.blocks.lt⟩
  · exact row_lt h.row hi
theorem Rep.below {w w' : World} {K D B : Nat} {v : Value} {s : DSt} (h : Rep w K D B v s) (k : Below w.heap.size w w') : Rep w' K D B v s :=
  h.kp (S := fun _ => False) (Kp.of k) (fun _ _ h => h)
theorem Left.same {w w' : World} {K D B : Nat} {v : Value} {s : DSt} (h : Rep w K D B v s) (k : Below w.heap.size w w') : Left w w' K D B v v s :=
  ⟨h.below k, Kp.of k, fun _ hk => .inl hk⟩
theorem Left.trans {a b c : World} {K D B : Nat} {v v' v'' : Value} {s' s'' : DSt} (h : Left a b K D B v v' s') (k : Left b c K D B v' v'' s'') : Left a c K D B v v'' s'' :=
  ⟨k.rep, h.kp.then k.kp (fun i hi ho => by
    rcases ho with e | e | e
    · exact .inl e
    · exact .inr (.inl e)
    · rcases h.own i e with h1 | h1
      · exact .inr (.inr h1)
      · omega),
   fun i hi => by
    rcases k.own i hi with h1 | h1
    · exact h.own i h1
    · exact .inr (Nat.le_trans h.kp.size h1)⟩
/-- A block of others is kept, and stays of others. -/
theorem Left.far {w w' : World} {K D B : Nat} {v v' : Value} {s' : DSt} (h : Left w w' K D B v v' s') {g : Nat} (hg : g < w.heap.size) (hn : ¬ Own D B v g) : w'.heap[g]? = w.heap[g]? ∧ ¬ Own D B v' g :=
  ⟨h.kp.block g hg hn, fun ho => by
    rcases ho with e | e | e
    · exact hn (.inl e)
    · exact hn (.inr (.inl e))
    · rcases h.own g e with h1 | h1
      · exact hn (.inr (.inr h1))
      · omega⟩
theorem Left.below {w w' : World} {K D B : Nat} {v v' : Value} {s s' : DSt} (h : Left w w' K D B v v' s') (hr : Rep w K D B v s) {C : Nat} (hC : C ≤ K) (hw : C ≤ w.heap.size) : Below C w w' :=
  h.kp.below (fun k hk ho => by have := hr.lt ho; omega) hw
end Go.Proofs.Ytkfiekpinojahaa
