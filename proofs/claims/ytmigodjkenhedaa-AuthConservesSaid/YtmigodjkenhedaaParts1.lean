/-
  THE WALK of the law AuthParts: its loop, with the relation that the round keeps.
-/
import Derived.Test.YtmigodjkenhedaaAuth8
import Derived.Laws.OwnMore
import Derived.Laws.Rows
namespace Go.Proofs.Ytmigodjkenhedaa
open Go.RowKit
set_option linter.unusedVariables false
/-- A block that is known whole. -/
def Blk (w : World) (g : Nat) (t : TypeId) (cs : Array Value) : Prop := w.heap[g]? = some (.cells cs t (0, 0))
section
variable {w w' : World} {g : Nat} {t : TypeId} {cs : Array Value}
theorem Blk.lt (h : Blk w g t cs) : g < w.heap.size := by
  rcases Nat.lt_or_ge g w.heap.size with hlt | hge
  · exact hlt
  · unfold Blk at h; rw [Array.getElem?_eq_none hge] at h; cases h
theorem Blk.cell (h : Blk w g t cs) (i : Nat) : w.cell? ⟨g, i, none⟩ = cs[i]? := cell_of_row w g i cs t (0, 0) h
theorem Blk.frozen (h : Blk w g t cs) (i : Nat) : w.frozen? ⟨g, i, none⟩ = false := by
  unfold Blk at h
  simp [World.frozen?, h]
theorem Blk.new (w : World) (t : TypeId) (cs : Array Value) : Blk (w.alloc (.cells cs t)) w.heap.size t cs := heap_alloc_new w _
theorem Blk.drewN (h : Blk w g t cs) (n : Nat) : Blk (w.drewN n) g t cs := h
theorem Blk.drew (h : Blk w g t cs) : Blk w.drew g t cs := h
theorem Blk.alloc (h : Blk w g t cs) (o : Obj) : Blk (w.alloc o) g t cs := (Below.heap_alloc w o g h.lt).trans h
theorem Blk.set_ (h : Blk w g t cs) (i : Nat) (u : Value) : Blk (w.setCell ⟨g, i, none⟩ u) g t (cs.setIfInBounds i u) := by
  unfold Blk at h ⊢
  simp [World.setCell, Array.getElem?_modify, h]
theorem Blk.below {B : Nat} (h : Blk w g t cs) (hb : Below B w w') (hg : g < B) : Blk w' g t cs := (hb.block g hg).trans h
theorem Blk.push (h : Blk w g t cs) (l : List Obj) : Blk (push w l) g t cs := h.below (Pushed.push (Pushed.refl w) l).below h.lt
end
abbrev sX : ByteArray := ⟨#[120]⟩
def sumUp (zs : List Int) (k : Nat) : Int := (zs.take k).foldl (· + ·) 0
structure PRel (w : World) (g : Nat) (amount : Int) (k : Nat) (S U : Int) (wr : World) : Prop where
  blk : Blk wr g 24 #[.string sX, .string sEur, .int .i64 amount, .int .i64 0, .int .i64 U, .int .i64 0, .int .i64 (auState amount 0 U 0), .int .i64 0, .int .i64 10, .int .i64 k]
  bel : Below w.heap.size w wr
  old : w.heap.size ≤ g
  b1 : 0 ≤ U ∧ U ≤ amount ∧ (k : Int) ≤ U ∧ (k = 0 → U = 0)
  b2 : (S ≤ amount → U = S) ∧ (amount ≤ S → U = amount)
  b3 : (k : Int) ≤ S ∧ S ≤ k * 999999999999
theorem parts_chk {amount U : Int} {k : Nat} (ha : 1 ≤ amount) (ha' : amount ≤ 999999999999) (hk : k ≤ 8) (h0 : 0 ≤ U) (h1 : U ≤ amount) (h2 : (k : Int) ≤ U) (h3 : k = 0 → U = 0) :
    auCheck (identB sX.data.toList 16) (curB sEur.data.toList) amount 0 U 0 (auState amount 0 U 0) 0 10 k = 0 :=
  auCheck_zero.2 ⟨by decide, by decide, by omega, by omega, by omega, by omega, by omega, by omega, by omega, rfl, fun _ => rfl⟩
theorem state_open {amount U : Int} (h : U < amount) : auState amount 0 U 0 = 1 := by unfold auState; rw [if_pos (by omega)]
theorem state_done {amount : Int} (h : 1 ≤ amount) : auState amount 0 amount 0 = 2 := by unfold auState; rw [if_neg (by omega), if_neg (by omega), if_pos (by omega)]
/-- One clearing of the law's loop, while something is open. -/
theorem clear_round {amount U U' n p : Int} {k : Nat} (w : World) (ha : 1 ≤ amount) (ha' : amount ≤ 999999999999) (hk : k < 8) (h0 : 0 ≤ U) (h1 : U < amount) (h2 : (k : Int) ≤ U) (h3 : k = 0 → U = 0) (hp : 1 ≤ p) (hp' : p ≤ 999999999999)
    (hn : n = min p (amount - U)) (hU : U' = U + n) :
    Calls Try.prog 19 #[auV sX sEur amount 0 U 0 1 0 10 k, .int .i64 p, .bool false] w fun e w' => e = .returned (.tuple #[auV sX sEur amount 0 U' 0 (auState amount 0 U' 0) 0 10 ((k : Int) + 1), .int .i64 n, .int .i64 0, .int .i64 0]) ∧ Pushed w w' := by
  have hs := state_open h1
  have hz : (0 : Int) = openE (auCheck (identB sX.data.toList 16) (curB sEur.data.toList) amount 0 U 0 1 0 10 k) 1 := by
    have := parts_chk ha ha' (Nat.le_of_lt hk) h0 (Int.le_of_lt h1) h2 h3
    rw [hs] at this
    rw [this]; rfl
  by_cases hm : p ≤ amount - U
  · have : n = p := by omega
    subst this
    subst hU
    exact clear_part_a sX sEur amount 0 U 0 1 0 10 k w n (by decide) (by decide) hz ⟨ha, ha'⟩ (by omega) (by omega) (by omega) (by omega) hp hp' (by omega) (by omega) (by omega)
  · have e1 : amount - 0 - U - 0 = n := by omega
    have h := clear_part_b sX sEur amount 0 U 0 1 0 10 k w p (by decide) (by decide) hz ⟨ha, ha'⟩ (by omega) (by omega) (by omega) (by omega) hp hp' (by omega) (by omega) (by omega)
    rw [e1, ← hU] at h
    exact h
/-- A clearing when nothing is open. -/
theorem clear_done {amount p : Int} {k : Nat} (w : World) (ha : 1 ≤ amount) (ha' : amount ≤ 999999999999) (hk : k ≤ 8) (h2 : (k : Int) ≤ amount) (h3 : k ≠ 0) :
    Calls Try.prog 19 #[auV sX sEur amount 0 amount 0 2 0 10 k, .int .i64 p, .bool false] w fun e w' => e = .returned (.tuple #[auV ⟨#[]⟩ ⟨#[]⟩ 0 0 0 0 0 0 0 0, .int .i64 0, .int .i64 0, .int .i64 8]) ∧ Pushed w w' := by
  have hz : (8 : Int) = openE (auCheck (identB sX.data.toList 16) (curB sEur.data.toList) amount 0 amount 0 2 0 10 k) 2 := by
    have := parts_chk ha ha' hk (by omega) (Int.le_refl amount) h2 (fun h => absurd h h3)
    rw [state_done ha] at this
    rw [this]; rfl
  exact clear_err sX sEur amount 0 amount 0 2 0 10 k w p false (by decide) (by decide) hz (by decide)
end Go.Proofs.Ytmigodjkenhedaa
