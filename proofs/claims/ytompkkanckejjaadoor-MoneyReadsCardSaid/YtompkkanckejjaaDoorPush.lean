/-
  WORLDS THAT GREW: 'w.push l' is w with the blocks l laid behind its own; 'Pushed w w'': w' is such a world, some draws later. For functions that make blocks of their own (boxes of struct arguments and results) and write nothing that was there. No program is named here.
-/
import Derived.WalkKit
import Derived.Below
import Derived.Lib.Hide
import Derived.Deep.Draws
namespace Go.Proofs.YtompkkanckejjaaDoor
open Go.RowKit Go

/-- The blocks l behind those of w. -/
def push (w : World) : List Obj → World
  | [] => w
  | o :: l => push (w.alloc o) l

section
variable (w : World) (l m : List Obj) (n i : Nat) (v : Value) (o : Obj)
@[go_sem] theorem size_push : (push w l).heap.size = w.heap.size + l.length := by
  induction l generalizing w with
  | nil => rfl
  | cons o l ih => simp only [push, ih, World.size_alloc, List.length_cons]; omega
@[go_sem] theorem cell_push (hn : n < w.heap.size) : (push w l).cell? ⟨n, i, none⟩ = w.cell? ⟨n, i, none⟩ := by
  induction l generalizing w with
  | nil => rfl
  | cons o l ih => rw [push, ih _ (by simp; omega), World.cell?_alloc_past o n i hn]
@[go_sem] theorem frozen_push (hn : n < w.heap.size) : (push w l).frozen? ⟨n, i, none⟩ = w.frozen? ⟨n, i, none⟩ := by
  induction l generalizing w with
  | nil => rfl
  | cons o l ih => rw [push, ih _ (by simp; omega), World.frozen?_alloc_past o n i hn]
@[go_sem] theorem setCell_push (hn : n < w.heap.size) : (push w l).setCell ⟨n, i, none⟩ v = push (w.setCell ⟨n, i, none⟩ v) l := by
  induction l generalizing w with
  | nil => rfl
  | cons o l ih => rw [push, ih _ (by simp; omega), World.setCell_alloc_past o n i v hn, push]
@[go_sem] theorem push_push : push (push w l) m = push w (l ++ m) := by
  induction l generalizing w with
  | nil => rfl
  | cons o l ih => rw [push, ih, List.cons_append, push]
theorem push_alloc : (push w l).alloc o = push w (l ++ [o]) := by rw [← push_push]; rfl
@[go_sem] theorem push_drew : push w.drew l = (push w l).drew := by
  induction l generalizing w with
  | nil => rfl
  | cons o l ih => rw [push, World.alloc_drew, ih, push]
@[go_sem] theorem push_drewN : push (w.drewN n) l = (push w l).drewN n := by
  induction l generalizing w with
  | nil => rfl
  | cons o l ih => rw [push, show (w.drewN n).alloc o = (w.alloc o).drewN n from rfl, ih, push]
@[go_sem] theorem alloc_drewN : (w.drewN n).alloc o = (w.alloc o).drewN n := rfl
@[go_sem] theorem setCell_drewN (a : Addr) : (w.drewN n).setCell a v = (w.setCell a v).drewN n := rfl
end

@[go_sem] theorem lt_grown1 (a b : Nat) : (a < a + 1 + b) = True := by simp only [eq_iff_iff, iff_true]; omega
@[go_sem] theorem lt_grown2 (a b : Nat) : (a < a + 1 + b + 1) = True := by simp only [eq_iff_iff, iff_true]; omega
@[go_sem] theorem lt_grown3 (a b c : Nat) : (a < a + 1 + b + 1 + c) = True := by simp only [eq_iff_iff, iff_true]; omega
@[go_sem] theorem lt_grown4 (a b c : Nat) : (a < a + 1 + b + 1 + c + 1) = True := by simp only [eq_iff_iff, iff_true]; omega
@[go_sem] theorem lt_grown5 (a b c d : Nat) : (a < a + 1 + b + 1 + c + 1 + d) = True := by simp only [eq_iff_iff, iff_true]; omega
@[go_sem] theorem lt_grown6 (a b c d : Nat) : (a < a + 1 + b + 1 + c + 1 + d + 1) = True := by simp only [eq_iff_iff, iff_true]; omega
@[go_sem] theorem lt_grown7 (a b c d : Nat) : (a < a + 1 + b + 1 + c + 1 + d + 2) = True := by simp only [eq_iff_iff, iff_true]; omega
@[go_sem] theorem lt_grown8 (a b c d e : Nat) : (a < a + 1 + b + 1 + c + 1 + d + 1 + e) = True := by simp only [eq_iff_iff, iff_true]; omega
@[go_sem] theorem lt_grown9 (a b c d e : Nat) : (a < a + 1 + b + 1 + c + 1 + d + 1 + e + 1) = True := by simp only [eq_iff_iff, iff_true]; omega
@[go_sem] theorem lt_grown10 (a b c : Nat) : (a < a + 1 + b + 1 + c + 2) = True := by simp only [eq_iff_iff, iff_true]; omega
@[go_sem] theorem lt_grown11 (a b c d : Nat) : (a < a + 1 + b + 1 + c + 2 + d) = True := by simp only [eq_iff_iff, iff_true]; omega
@[go_sem] theorem lt_grown12 (a b c d : Nat) : (a < a + 1 + b + 1 + c + 2 + d + 1) = True := by simp only [eq_iff_iff, iff_true]; omega
@[go_sem] theorem lt_grown13 (a b c d : Nat) : (a < a + 1 + b + 1 + c + 2 + d + 2) = True := by simp only [eq_iff_iff, iff_true]; omega
@[go_sem] theorem lt_grown14 (a b c d e : Nat) : (a < a + 1 + b + 1 + c + 2 + d + 1 + e) = True := by simp only [eq_iff_iff, iff_true]; omega
@[go_sem] theorem lt_grown15 (a b c d e : Nat) : (a < a + 1 + b + 1 + c + 2 + d + 1 + e + 1) = True := by simp only [eq_iff_iff, iff_true]; omega
@[go_sem] theorem lt_grown16 (a b : Nat) : (a < a + 1 + b + 2) = True := by simp only [eq_iff_iff, iff_true]; omega
@[go_sem] theorem lt_grown17 (a b c : Nat) : (a < a + 1 + b + 2 + c) = True := by simp only [eq_iff_iff, iff_true]; omega
@[go_sem] theorem lt_grown18 (a b c : Nat) : (a < a + 1 + b + 2 + c + 1) = True := by simp only [eq_iff_iff, iff_true]; omega
@[go_sem] theorem lt_grown19 (a b c d : Nat) : (a < a + 1 + b + 2 + c + 1 + d) = True := by simp only [eq_iff_iff, iff_true]; omega
@[go_sem] theorem lt_grown20 (a b c d : Nat) : (a < a + 1 + b + 2 + c + 1 + d + 1) = True := by simp only [eq_iff_iff, iff_true]; omega
@[go_sem] theorem lt_grown21 (a b c d : Nat) : (a < a + 1 + b + 2 + c + 1 + d + 2) = True := by simp only [eq_iff_iff, iff_true]; omega
@[go_sem] theorem lt_grown22 (a b c d e : Nat) : (a < a + 1 + b + 2 + c + 1 + d + 1 + e) = True := by simp only [eq_iff_iff, iff_true]; omega
@[go_sem] theorem lt_grown23 (a b c d e : Nat) : (a < a + 1 + b + 2 + c + 1 + d + 1 + e + 1) = True := by simp only [eq_iff_iff, iff_true]; omega
@[go_sem] theorem lt_grown24 (a b c : Nat) : (a < a + 1 + b + 2 + c + 2) = True := by simp only [eq_iff_iff, iff_true]; omega
@[go_sem] theorem lt_grown25 (a b c d : Nat) : (a < a + 1 + b + 2 + c + 2 + d) = True := by simp only [eq_iff_iff, iff_true]; omega
@[go_sem] theorem lt_grown26 (a b c d : Nat) : (a < a + 1 + b + 2 + c + 2 + d + 1) = True := by simp only [eq_iff_iff, iff_true]; omega
@[go_sem] theorem lt_grown27 (a b c d : Nat) : (a < a + 1 + b + 2 + c + 2 + d + 2) = True := by simp only [eq_iff_iff, iff_true]; omega
@[go_sem] theorem lt_grown28 (a b c d e : Nat) : (a < a + 1 + b + 2 + c + 2 + d + 1 + e) = True := by simp only [eq_iff_iff, iff_true]; omega
@[go_sem] theorem lt_grown29 (a b c d e : Nat) : (a < a + 1 + b + 2 + c + 2 + d + 1 + e + 1) = True := by simp only [eq_iff_iff, iff_true]; omega
@[go_sem] theorem lt_grown30 (a b : Nat) : (a < a + 1 + b + 3) = True := by simp only [eq_iff_iff, iff_true]; omega
@[go_sem] theorem lt_grown31 (a b c : Nat) : (a < a + 1 + b + 3 + c) = True := by simp only [eq_iff_iff, iff_true]; omega
@[go_sem] theorem lt_grown32 (a b c : Nat) : (a < a + 1 + b + 3 + c + 1) = True := by simp only [eq_iff_iff, iff_true]; omega
@[go_sem] theorem lt_grown33 (a b c d : Nat) : (a < a + 1 + b + 3 + c + 1 + d) = True := by simp only [eq_iff_iff, iff_true]; omega
@[go_sem] theorem lt_grown34 (a b c : Nat) : (a < a + 1 + b + 3 + c + 2) = True := by simp only [eq_iff_iff, iff_true]; omega
@[go_sem] theorem lt_grown35 (a b c d : Nat) : (a < a + 1 + b + 3 + c + 2 + d) = True := by simp only [eq_iff_iff, iff_true]; omega
@[go_sem] theorem lt_grown36 (a b : Nat) : (a < a + 2 + b) = True := by simp only [eq_iff_iff, iff_true]; omega
@[go_sem] theorem lt_grown37 (a b : Nat) : (a < a + 2 + b + 1) = True := by simp only [eq_iff_iff, iff_true]; omega
@[go_sem] theorem lt_grown38 (a b c : Nat) : (a < a + 2 + b + 1 + c) = True := by simp only [eq_iff_iff, iff_true]; omega
@[go_sem] theorem lt_grown39 (a b c : Nat) : (a < a + 2 + b + 1 + c + 1) = True := by simp only [eq_iff_iff, iff_true]; omega
@[go_sem] theorem lt_grown40 (a b c d : Nat) : (a < a + 2 + b + 1 + c + 1 + d) = True := by simp only [eq_iff_iff, iff_true]; omega
@[go_sem] theorem lt_grown41 (a b c d : Nat) : (a < a + 2 + b + 1 + c + 1 + d + 1) = True := by simp only [eq_iff_iff, iff_true]; omega
@[go_sem] theorem lt_grown42 (a b c d : Nat) : (a < a + 2 + b + 1 + c + 1 + d + 2) = True := by simp only [eq_iff_iff, iff_true]; omega
@[go_sem] theorem lt_grown43 (a b c d e : Nat) : (a < a + 2 + b + 1 + c + 1 + d + 1 + e) = True := by simp only [eq_iff_iff, iff_true]; omega
@[go_sem] theorem lt_grown44 (a b c d e : Nat) : (a < a + 2 + b + 1 + c + 1 + d + 1 + e + 1) = True := by simp only [eq_iff_iff, iff_true]; omega
@[go_sem] theorem lt_grown45 (a b c : Nat) : (a < a + 2 + b + 1 + c + 2) = True := by simp only [eq_iff_iff, iff_true]; omega
@[go_sem] theorem lt_grown46 (a b c d : Nat) : (a < a + 2 + b + 1 + c + 2 + d) = True := by simp only [eq_iff_iff, iff_true]; omega
@[go_sem] theorem lt_grown47 (a b c d : Nat) : (a < a + 2 + b + 1 + c + 2 + d + 1) = True := by simp only [eq_iff_iff, iff_true]; omega
@[go_sem] theorem lt_grown48 (a b c d : Nat) : (a < a + 2 + b + 1 + c + 2 + d + 2) = True := by simp only [eq_iff_iff, iff_true]; omega
@[go_sem] theorem lt_grown49 (a b c d e : Nat) : (a < a + 2 + b + 1 + c + 2 + d + 1 + e) = True := by simp only [eq_iff_iff, iff_true]; omega
@[go_sem] theorem lt_grown50 (a b c d e : Nat) : (a < a + 2 + b + 1 + c + 2 + d + 1 + e + 1) = True := by simp only [eq_iff_iff, iff_true]; omega
@[go_sem] theorem lt_grown51 (a b : Nat) : (a < a + 2 + b + 2) = True := by simp only [eq_iff_iff, iff_true]; omega
@[go_sem] theorem lt_grown52 (a b c : Nat) : (a < a + 2 + b + 2 + c) = True := by simp only [eq_iff_iff, iff_true]; omega
@[go_sem] theorem lt_grown53 (a b c : Nat) : (a < a + 2 + b + 2 + c + 1) = True := by simp only [eq_iff_iff, iff_true]; omega
@[go_sem] theorem lt_grown54 (a b c d : Nat) : (a < a + 2 + b + 2 + c + 1 + d) = True := by simp only [eq_iff_iff, iff_true]; omega
@[go_sem] theorem lt_grown55 (a b c d : Nat) : (a < a + 2 + b + 2 + c + 1 + d + 1) = True := by simp only [eq_iff_iff, iff_true]; omega
@[go_sem] theorem lt_grown56 (a b c d : Nat) : (a < a + 2 + b + 2 + c + 1 + d + 2) = True := by simp only [eq_iff_iff, iff_true]; omega
@[go_sem] theorem lt_grown57 (a b c d e : Nat) : (a < a + 2 + b + 2 + c + 1 + d + 1 + e) = True := by simp only [eq_iff_iff, iff_true]; omega
@[go_sem] theorem lt_grown58 (a b c d e : Nat) : (a < a + 2 + b + 2 + c + 1 + d + 1 + e + 1) = True := by simp only [eq_iff_iff, iff_true]; omega
@[go_sem] theorem lt_grown59 (a b c : Nat) : (a < a + 2 + b + 2 + c + 2) = True := by simp only [eq_iff_iff, iff_true]; omega
@[go_sem] theorem lt_grown60 (a b c d : Nat) : (a < a + 2 + b + 2 + c + 2 + d) = True := by simp only [eq_iff_iff, iff_true]; omega
@[go_sem] theorem lt_grown61 (a b c d : Nat) : (a < a + 2 + b + 2 + c + 2 + d + 1) = True := by simp only [eq_iff_iff, iff_true]; omega
@[go_sem] theorem lt_grown62 (a b c d : Nat) : (a < a + 2 + b + 2 + c + 2 + d + 2) = True := by simp only [eq_iff_iff, iff_true]; omega
@[go_sem] theorem lt_grown63 (a b c d e : Nat) : (a < a + 2 + b + 2 + c + 2 + d + 1 + e) = True := by simp only [eq_iff_iff, iff_true]; omega
@[go_sem] theorem lt_grown64 (a b c d e : Nat) : (a < a + 2 + b + 2 + c + 2 + d + 1 + e + 1) = True := by simp only [eq_iff_iff, iff_true]; omega
@[go_sem] theorem lt_grown65 (a b : Nat) : (a < a + 2 + b + 3) = True := by simp only [eq_iff_iff, iff_true]; omega
@[go_sem] theorem lt_grown66 (a b c : Nat) : (a < a + 2 + b + 3 + c) = True := by simp only [eq_iff_iff, iff_true]; omega
@[go_sem] theorem lt_grown67 (a b c : Nat) : (a < a + 2 + b + 3 + c + 1) = True := by simp only [eq_iff_iff, iff_true]; omega
@[go_sem] theorem lt_grown68 (a b c d : Nat) : (a < a + 2 + b + 3 + c + 1 + d) = True := by simp only [eq_iff_iff, iff_true]; omega
@[go_sem] theorem lt_grown69 (a b c : Nat) : (a < a + 2 + b + 3 + c + 2) = True := by simp only [eq_iff_iff, iff_true]; omega
@[go_sem] theorem lt_grown70 (a b c d : Nat) : (a < a + 2 + b + 3 + c + 2 + d) = True := by simp only [eq_iff_iff, iff_true]; omega
@[go_sem] theorem lt_grown71 (a b : Nat) : (a < a + 3 + b) = True := by simp only [eq_iff_iff, iff_true]; omega
@[go_sem] theorem lt_grown72 (a b : Nat) : (a < a + 3 + b + 1) = True := by simp only [eq_iff_iff, iff_true]; omega
@[go_sem] theorem lt_grown73 (a b c : Nat) : (a < a + 3 + b + 1 + c) = True := by simp only [eq_iff_iff, iff_true]; omega
@[go_sem] theorem lt_grown74 (a b c : Nat) : (a < a + 3 + b + 1 + c + 1) = True := by simp only [eq_iff_iff, iff_true]; omega
@[go_sem] theorem lt_grown75 (a b c d : Nat) : (a < a + 3 + b + 1 + c + 1 + d) = True := by simp only [eq_iff_iff, iff_true]; omega
@[go_sem] theorem lt_grown76 (a b c : Nat) : (a < a + 3 + b + 1 + c + 2) = True := by simp only [eq_iff_iff, iff_true]; omega
@[go_sem] theorem lt_grown77 (a b c d : Nat) : (a < a + 3 + b + 1 + c + 2 + d) = True := by simp only [eq_iff_iff, iff_true]; omega
@[go_sem] theorem lt_grown78 (a b : Nat) : (a < a + 3 + b + 2) = True := by simp only [eq_iff_iff, iff_true]; omega
@[go_sem] theorem lt_grown79 (a b c : Nat) : (a < a + 3 + b + 2 + c) = True := by simp only [eq_iff_iff, iff_true]; omega
@[go_sem] theorem lt_grown80 (a b c : Nat) : (a < a + 3 + b + 2 + c + 1) = True := by simp only [eq_iff_iff, iff_true]; omega
@[go_sem] theorem lt_grown81 (a b c d : Nat) : (a < a + 3 + b + 2 + c + 1 + d) = True := by simp only [eq_iff_iff, iff_true]; omega
@[go_sem] theorem lt_grown82 (a b c : Nat) : (a < a + 3 + b + 2 + c + 2) = True := by simp only [eq_iff_iff, iff_true]; omega
@[go_sem] theorem lt_grown83 (a b c d : Nat) : (a < a + 3 + b + 2 + c + 2 + d) = True := by simp only [eq_iff_iff, iff_true]; omega
@[go_sem] theorem lt_grown84 (a b : Nat) : (a < a + 3 + b + 3) = True := by simp only [eq_iff_iff, iff_true]; omega
@[go_sem] theorem lt_grown85 (a b c : Nat) : (a < a + 3 + b + 3 + c) = True := by simp only [eq_iff_iff, iff_true]; omega
@[go_sem] theorem lt_grown86 (a b c : Nat) : (a < a + 3 + b + 3 + c + 1) = True := by simp only [eq_iff_iff, iff_true]; omega
@[go_sem] theorem lt_grown87 (a b c d : Nat) : (a < a + 3 + b + 3 + c + 1 + d) = True := by simp only [eq_iff_iff, iff_true]; omega
@[go_sem] theorem lt_grown88 (a b c : Nat) : (a < a + 3 + b + 3 + c + 2) = True := by simp only [eq_iff_iff, iff_true]; omega
@[go_sem] theorem lt_grown89 (a b c d : Nat) : (a < a + 3 + b + 3 + c + 2 + d) = True := by simp only [eq_iff_iff, iff_true]; omega
/-- w' is w with new blocks and some draws. -/
def Pushed (w w' : World) : Prop := ∃ (l : List Obj) (n : Nat), (push w l).drewN n = w'
section
variable {w w' w'' : World}
theorem Pushed.refl (w : World) : Pushed w w := ⟨[], 0, rfl⟩
theorem Pushed.alloc (h : Pushed w w') (o : Obj) : Pushed w (w'.alloc o) := by
  obtain ⟨l, n, rfl⟩ := h
  exact ⟨l ++ [o], n, by rw [← push_alloc]; rfl⟩
theorem Pushed.drewN (h : Pushed w w') (k : Nat) : Pushed w (w'.drewN k) := by
  obtain ⟨l, n, rfl⟩ := h
  exact ⟨l, n + k, by rw [World.drewN_drewN]⟩
theorem Pushed.drew (h : Pushed w w') : Pushed w w'.drew := h.drewN 1
theorem Pushed.trans (h : Pushed w w') (k : Pushed w' w'') : Pushed w w'' := by
  obtain ⟨l, n, rfl⟩ := h
  obtain ⟨m, j, rfl⟩ := k
  exact ⟨l ++ m, n + j, by rw [← push_push, push_drewN, World.drewN_drewN]⟩
theorem Pushed.push (h : Pushed w w') (l : List Obj) : Pushed w (push w' l) := h.trans ⟨l, 0, rfl⟩
theorem Pushed.below (h : Pushed w w') : Below w.heap.size w w' := by
  obtain ⟨l, n, rfl⟩ := h
  have : Below w.heap.size w (Go.Proofs.YtompkkanckejjaaDoor.push w l) := by
    suffices H : ∀ (l : List Obj) (a : World), Below w.heap.size w a → Below w.heap.size w (Go.Proofs.YtompkkanckejjaaDoor.push a l) from H l w (Below.refl _ _)
    intro l
    induction l with
    | nil => intro a h; exact h
    | cons o l ih => intro a h; exact ih _ (h.alloc h.size o)
  exact ⟨this.os, this.tape, this.output, this.size, this.block⟩
theorem below_drewN {B : Nat} {a w : World} (h : Below B a w) (n : Nat) : Below B a (w.drewN n) := ⟨h.os, h.tape, h.output, h.size, h.block⟩
end

theorem ret_bool {a b : Bool} (h : a = b) : Ending.returned (.bool a) = .returned (.bool b) := by rw [h]
theorem ret_int {k : IntKind} {a b : Int} (h : a = b) : Ending.returned (.int k a) = .returned (.int k b) := by rw [h]
end Go.Proofs.YtompkkanckejjaaDoor
