/-
  CONTRACTS of dispute: the check of the example's reasons.
-/
import Derived.Test.YtjlgimoejhljiaaDS2
import Derived.Deep.RegionHeld3
import Derived.Deep.RegionWith
import Derived.OwnWalk
namespace Go.Proofs.Ytjlgimoejhljiaa
open Go.RowKit
set_option linter.unusedVariables false
set_option linter.unusedSimpArgs false
def Blk (w : World) (g : Nat) (t : TypeId) (cs : Array Value) : Prop := w.heap[g]? = some (.cells cs t (0, 0))

section
variable {w w' : World} {g : Nat} {t : TypeId} {cs : Array Value}
theorem Blk.lt (h : Blk w g t cs) : g < w.heap.size := by
  rcases Nat.lt_or_ge g w.heap.size with hlt | hge
  · exact hlt
  · unfold Blk at h; rw [Array.getElem?_eq_none hge] at h; cases h
theorem Blk.cell (h : Blk w g t cs) (i : Nat) : w.cell? ⟨g, i, none⟩ = cs[i]? := cell_of_row w g i cs t (0, 0) h
theorem Blk.frozen (h : Blk w g t cs) (i : Nat) : w.frozen? ⟨g, i, none⟩ = false := by
  unfold Blk at h
  simp [World.frozen?, h]
theorem Blk.new (w : World) (t : TypeId) (cs : Array Value) : Blk (w.alloc (.cells cs t)) w.heap.size t cs := heap_alloc_new w _
theorem Blk.drew (h : Blk w g t cs) : Blk w.drew g t cs := h
theorem Blk.drewN (h : Blk w g t cs) (n : Nat) : Blk (w.drewN n) g t cs := h
theorem Blk.alloc (h : Blk w g t cs) (o : Obj) : Blk (w.alloc o) g t cs := (Below.heap_alloc w o g h.lt).trans h
theorem Blk.set_ (h : Blk w g t cs) (i : Nat) (u : Value) : Blk (w.setCell ⟨g, i, none⟩ u) g t (cs.setIfInBounds i u) := by
  unfold Blk at h ⊢
  simp [World.setCell, Array.getElem?_modify, h]
theorem Blk.far (h : Blk w g t cs) {p : Addr} (hp : g ≠ p.block) (u : Value) : Blk (w.setCell p u) g t cs := (Below.heap_setCell w p u g hp).trans h
theorem Blk.below {B : Nat} (h : Blk w g t cs) (hb : Below B w w') (hg : g < B) : Blk w' g t cs := (hb.block g hg).trans h
theorem Blk.grown {row : Option Nat} (h : Blk w g t cs) (hb : w.grownBy w' row) (hg : some g ≠ row) : Blk w' g t cs := (hb.block g h.lt hg).trans h
end

abbrev RC : Array Value := #[.string ⟨#[102, 114, 97, 117, 100]⟩, .int .i64 120, .int .i64 45, .int .i64 30, .int .i64 30, .slice none 0 0, .slice none 0 0]
theorem world_of {P : World → Prop} {W : World} (F : World → Prop) (hF : F W) (h : ∀ W, F W → P W) : P W := h W hF
theorem bstep {V U W : World} (h : Below V.heap.size V U) (k : Below U.heap.size U W) : Below V.heap.size V W := h.trans (k.mono h.size)
theorem balloc {V U : World} (h : Below V.heap.size V U) (o : Obj) : Below V.heap.size V (U.alloc o) := h.alloc h.size o
theorem bset {V U : World} {p : Addr} (h : Below V.heap.size V U) (hp : V.heap.size ≤ p.block) (u : Value) : Below V.heap.size V (U.setCell p u) := h.setCell hp u
theorem find_none (g : Nat) (c : ByteArray) (w : World) : Calls Try.prog 20 #[.slice (some ⟨g, 0, none⟩) 0 1, .string c] w fun e w' => e = .returned (.tuple #[.agg #[.string ⟨#[]⟩, .int .i64 0, .int .i64 0, .int .i64 0, .int .i64 0, .slice none 0 0, .slice none 0 0], .bool false]) ∧ Below w.heap.size w w' := by
  go_enter Try.func20, Try.ntmps20
  go_wp2
  refine wp_loop_rounds 1 ?_
  rw [rounds_succ]
  go_wp2
  have hF := Blk.new w 34 #[.string ⟨#[]⟩, .int .i64 0, .int .i64 0, .int .i64 0, .int .i64 0, .slice none 0 0, .slice none 0 0]
  have f0 := hF.cell 0
  have f1 := hF.cell 1
  have f2 := hF.cell 2
  have f3 := hF.cell 3
  have f4 := hF.cell 4
  have f5 := hF.cell 5
  have f6 := hF.cell 6
  exact bodyPost_ret (v := .tuple #[.agg #[.string ⟨#[]⟩, .int .i64 0, .int .i64 0, .int .i64 0, .int .i64 0, .slice none 0 0, .slice none 0 0], .bool false]) (by simp [results, Try.results20, go_sem, f0, f1, f2, f3, f4, f5, f6]) rfl ⟨rfl, (Below.refl _ _).alloc (Nat.le_refl _) _⟩
theorem days_ok (n : Int) (h1 : 1 ≤ n) (h2 : n ≤ 1000) (w : World) : Calls Try.prog 21 #[.int .i64 n] w fun e w' => e = .returned (.bool true) ∧ w = w' := by
  go_enter Try.func21, Try.ntmps21
  go_wp2
  go_ret
  exact ⟨rfl, rfl⟩
theorem kinds_none (w : World) : Calls Try.prog 22 #[.slice none 0 0] w fun e w' => e = .returned (.int .i64 0) ∧ w = w' := by
  go_enter Try.func22, Try.ntmps22
  go_wp2
  refine wp_loop_rounds 1 ?_
  rw [rounds_succ]
  go_wp2
  go_ret
  exact ⟨rfl, rfl⟩
set_option maxHeartbeats 8000000 in
set_option maxRecDepth 5000 in
theorem check_ex (g : Nat) (w : World) (hb : Blk w g 34 RC) : Calls Try.prog 12 #[.slice (some ⟨g, 0, none⟩) 1 1] w fun e w' => e = .returned (.int .i64 0) ∧ Below w.heap.size w w' := by
  have hlt := hb.lt
  have b0 := hb.cell 0
  have b1 := hb.cell 1
  have b2 := hb.cell 2
  have b3 := hb.cell 3
  have b4 := hb.cell 4
  have b5 := hb.cell 5
  have b6 := hb.cell 6
  simp at b0 b1 b2 b3 b4 b5 b6
  have hsl : ∀ w, (Instr.slice 35 (.slice (some ⟨g, 0, none⟩) 1 1) none (some (.int .i64 0)) none).run Try.prog w = .ok (.slice (some ⟨g, 0, none⟩) 0 1) w := fun w => by kernel_rfl
  go_enter Try.func12, Try.ntmps12
  go_wp2_with fail
  refine wp_loop_rounds 2 ?_
  rw [rounds_succ]
  go_wp2_with fail
  refine (isname_fraud _).mono ?_
  rintro e w1 ⟨rfl, rfl⟩
  go_wp2_with fail
  have hV : Below w.heap.size w (w.alloc (.cells RC 34)) := (Below.refl _ _).alloc (Nat.le_refl _) _
  have hrr := Blk.new w 34 RC
  have hVs : w.heap.size < (w.alloc (.cells RC 34)).heap.size := by simp
  generalize w.alloc (.cells RC 34) = V at *
  have KS : Hid (∀ W, Below V.heap.size V W → Below V.heap.size V W ∧ W.cell? ⟨w.heap.size, 0, none⟩ = some (.string ⟨#[102, 114, 97, 117, 100]⟩)) := Lib.hid fun W h => ⟨h, (hrr.below h hVs).cell 0⟩
  have r0 := hrr.cell 0
  simp at r0
  go_region_with (first | ((with_reducible refine (find_none _ _ _).mono ?_); rintro e w1 ⟨rfl, hb1⟩; have hN : Blk w1 V.heap.size 34 #[.string ⟨#[]⟩, .int .i64 0, .int .i64 0, .int .i64 0, .int .i64 0, .slice none 0 0, .slice none 0 0] := (Blk.new V.drew 34 #[.string ⟨#[]⟩, .int .i64 0, .int .i64 0, .int .i64 0, .int .i64 0, .slice none 0 0, .slice none 0 0]).below hb1 (by simp); have q0 : w1.cell? ⟨w.heap.size, 0, none⟩ = some (.string ⟨#[102, 114, 97, 117, 100]⟩) := ((hrr.drew.alloc _).below hb1 (by simp; omega)).cell 0; have hBW := (balloc (Below.refl V.heap.size V).drew (.cells #[.string ⟨#[]⟩, .int .i64 0, .int .i64 0, .int .i64 0, .int .i64 0, .slice none 0 0, .slice none 0 0] 34)).trans (hb1.mono (by simp)); have n0 := hN.cell 0; have f0 := hN.frozen 0; have n1 := hN.cell 1; have f1 := hN.frozen 1; have n2 := hN.cell 2; have f2 := hN.frozen 2; have n3 := hN.cell 3; have f3 := hN.frozen 3; have n4 := hN.cell 4; have f4 := hN.frozen 4; have n5 := hN.cell 5; have f5 := hN.frozen 5; have n6 := hN.cell 6; have f6 := hN.frozen 6; simp at n0 n1 n2 n3 n4 n5 n6; have hz1 := hBW.size; have hR1 : Blk w1 w.heap.size 34 RC := (by first | exact (hrr.drew.alloc _).below hb1 (by simp; omega) | exact hrr.drew.below hb1 hVs); clear hb1) | ((with_reducible refine (find_none _ _ _).mono ?_); rintro e w1 ⟨rfl, hb1⟩; have q0 : w1.cell? ⟨w.heap.size, 0, none⟩ = some (.string ⟨#[102, 114, 97, 117, 100]⟩) := (hrr.drew.below hb1 hVs).cell 0; have hBW : Below V.heap.size V w1 := (Below.refl V.heap.size V).drew.trans hb1; have hz1 := hBW.size; have hR1 : Blk w1 w.heap.size 34 RC := (by first | exact (hrr.drew.alloc _).below hb1 (by simp; omega) | exact hrr.drew.below hb1 hVs); clear hb1))
  all_goals
    refine world_of (fun W => Blk W w.heap.size 34 RC ∧ Below V.heap.size V W) ⟨(by (repeat (first | with_reducible assumption | with_reducible refine Blk.far ?_ ?_ _ | with_reducible refine Blk.alloc ?_ _)) <;> (dsimp only; omega)), (by (repeat (first | with_reducible assumption | with_reducible refine bset ?_ ?_ _ | with_reducible refine balloc ?_ _)) <;> (dsimp only; omega))⟩ ?_
    rintro W ⟨hR, hBW2⟩
    have hlW := hR.lt
    have q0 := hR.cell 0
    have q1 := hR.cell 1
    have q2 := hR.cell 2
    have q3 := hR.cell 3
    have q4 := hR.cell 4
    have q5 := hR.cell 5
    have q6 := hR.cell 6
    simp at q0 q1 q2 q3 q4 q5 q6
    clear b0 b1 b2 b3 b4 b5 b6
    go_wp2_with (go_at_call 21; refine (days_ok _ (by omega) (by omega) _).mono ?_; rintro e w8 ⟨rfl, rfl⟩)
    refine wp_loop_rounds 3 ?_
    rw [rounds_succ]
    go_wp2_with fail
    refine (kinds_none _).mono ?_
    rintro e w9 ⟨rfl, rfl⟩
    go_wp2_with fail
    rw [rounds_succ]
    go_wp2_with fail
    refine (kinds_none _).mono ?_
    rintro e w9 ⟨rfl, rfl⟩
    go_wp2_with fail
    rw [rounds_succ]
    go_wp2_with fail
    rw [rounds_succ]
    go_wp2_with fail
    go_ret
    exact ⟨rfl, hV.trans ((balloc hBW2 _).mono (Nat.le_of_lt hVs))⟩
end Go.Proofs.Ytjlgimoejhljiaa
