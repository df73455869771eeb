/-
  CONTRACTS of the disk's laws: the states of a disk that is never armed.
-/
import Derived.Test.YtkfiekpinojahaaDK10
namespace Go.Proofs.Ytkfiekpinojahaa
open Go.RowKit
set_option linter.unusedVariables false
set_option linter.unusedSimpArgs false
theorem u8_in {n : Int} (h : (Lit.int .u8 n).wf = true) : 0 ≤ n ∧ n < 256 := by
  simp [Lit.wf, IntKind.min, IntKind.max, IntKind.signed, IntKind.bits] at h
  exact ⟨by omega, by omega⟩
theorem u64_in {n : Int} (h : (Lit.int .u64 n).wf = true) : 0 ≤ n ∧ n < 18446744073709551616 := by
  simp [Lit.wf, IntKind.min, IntKind.max, IntKind.signed, IntKind.bits] at h
  exact ⟨by omega, by omega⟩
def mk (N : List ByteArray) (W : List (Nat × ByteArray)) : DSt := ⟨N, W, false, 0, 0⟩
def dn (N : List ByteArray) : DSt := ⟨N, [], true, 0, 0⟩
theorem Rep.mono {w : World} {K K' D B : Nat} {v : Value} {s : DSt} (h : Rep w K D B v s) (hK : K' ≤ K) : Rep w K' D B v s :=
  ⟨h.disk, h.blocks, by
    obtain ⟨h1, h2⟩ := h.row
    refine ⟨h1, ?_⟩
    rcases h2 with h2 | ⟨g, cap, cur, e, hb, h3⟩
    · exact .inl h2
    · exact .inr ⟨g, cap, cur, e, by omega, h3⟩, h.db, h.dv, h.bv, by have := h.kd; omega, by have := h.kb; omega, h.inb, h.lb, h.lp, h.ls, h.lm⟩
theorem new_mk (w : World) {K : Nat} (hK : K ≤ w.heap.size) : Calls Try.prog 9 #[.int .i64 8] w fun e w' => ∃ D B, e = .returned (.tuple #[.pointer (some ⟨D, 0, none⟩), .int .i64 0]) ∧ Rep w' K D B (.slice none 0 0) (mk blank8 []) ∧ Below w.heap.size w w' :=
  (new_any 8 (by omega) (by omega) w).mono fun e w' ⟨D, B, he, hr, hb⟩ => ⟨D, B, he, hr.mono hK, hb⟩
section
variable {K D B : Nat} {v : Value} {w : World} {N : List ByteArray} {W : List (Nat × ByteArray)}
theorem write_mk {A : Option Addr} {n c : Nat} {L : List CR} {now : List ByteArray} (hr : Rep w K D B v (mk N [])) (hN : N.length = 8) (hnow : now.length = 8) (hS : CRs w K A n L) (hn : n ≤ 60) (hL : ∀ r ∈ L, r.t.size ≤ 64) (hLn : ∀ r ∈ L, 0 ≤ r.n ∧ r.n < 256) : Calls Try.prog 19 #[.pointer (some ⟨D, 0, none⟩), .agg (strs now), .slice A n c] w fun e w' => e = .returned (.tuple #[.agg (strs (appl now (L.map mp))), .bool true]) ∧ ∃ v', Left w w' K D B v v' (mk N (L.map mp)) :=
  wloop_any hnow hr hS hn hL hLn rfl hN rfl (by simp [mk]; omega)
theorem flush_mk (hr : Rep w K D B v (mk N W)) : Calls Try.prog 21 #[.pointer (some ⟨D, 0, none⟩)] w fun e w' => e = .returned (.int .i64 0) ∧ ∃ v', Left w w' K D B v v' (mk (appl N W) []) :=
  flush_eq hr rfl rfl
theorem flush_dn (hr : Rep w K D B v (dn N)) : Calls Try.prog 21 #[.pointer (some ⟨D, 0, none⟩)] w fun e w' => e = .returned (.int .i64 13) ∧ ∃ v', Left w w' K D B v v' (dn N) :=
  flush_eq hr rfl rfl
theorem crash_mk (hr : Rep w K D B v (mk N W)) {m : Nat} (hm : m < 18446744073709551616) {x : Int} (hx : x = (m : Int)) {N' : List ByteArray} (hN : surv m N W W.length = N') : Calls Try.prog 22 #[.pointer (some ⟨D, 0, none⟩), .int .u64 x] w fun e w' => e = .returned (.int .i64 0) ∧ ∃ v', Left w w' K D B v v' (dn N') := by
  subst hN
  exact crash_eq hr hm hx rfl rfl
theorem recover_dn (hr : Rep w K D B v (dn N)) : Calls Try.prog 24 #[.pointer (some ⟨D, 0, none⟩)] w fun e w' => e = .returned (.int .i64 0) ∧ ∃ v', Left w w' K D B v v' (mk N []) :=
  recover_eq hr rfl rfl
theorem recover_mk (hr : Rep w K D B v (mk N W)) : Calls Try.prog 24 #[.pointer (some ⟨D, 0, none⟩)] w fun e w' => e = .returned (.int .i64 8) ∧ ∃ v', Left w w' K D B v v' (mk N W) :=
  recover_eq hr rfl rfl
theorem is_mk (hr : Rep w K D B v (mk N W)) {l : List ByteArray} (hl : l.length = 8) (h : appl N W = l) : Calls Try.prog 20 #[.pointer (some ⟨D, 0, none⟩), .agg (strs l)] w fun e w' => e = .returned (.bool true) ∧ ∃ v', Left w w' K D B v v' (mk N W) :=
  (is_any hr hl rfl h).mono fun e w' ⟨he, hb⟩ => ⟨he, v, Left.same hr hb⟩
end
section
variable {K D B : Nat} {v : Value} {w : World} {N N' now : List ByteArray} {W : List (Nat × ByteArray)}
theorem write_mk2 {A : Option Addr} {n c : Nat} {L : List CR} (hr : Rep w K D B v (mk N [])) (hN : N.length = 8) (hnow : now.length = 8) (hS : CRs w K A n L) (hn : n ≤ 60) (hL : ∀ r ∈ L, r.t.size ≤ 64) (hLn : ∀ r ∈ L, 0 ≤ r.n ∧ r.n < 256) {xs ys : Array Value} (hy : ys = strs now) (hx : strs (appl now (L.map mp)) = xs) : Calls Try.prog 19 #[.pointer (some ⟨D, 0, none⟩), .agg ys, .slice A n c] w fun e w' => e = .returned (.tuple #[.agg xs, .bool true]) ∧ ∃ v', Left w w' K D B v v' (mk N (L.map mp)) := by
  subst hx hy
  exact write_mk hr hN hnow hS hn hL hLn
theorem flush_mk2 (hr : Rep w K D B v (mk N W)) (h : appl N W = N') : Calls Try.prog 21 #[.pointer (some ⟨D, 0, none⟩)] w fun e w' => e = .returned (.int .i64 0) ∧ ∃ v', Left w w' K D B v v' (mk N' []) := by
  subst h
  exact flush_mk hr
theorem is_mk2 (hr : Rep w K D B v (mk N W)) {l : List ByteArray} (hl : l.length = 8) (h : appl N W = l) {ys : Array Value} (hy : ys = strs l) : Calls Try.prog 20 #[.pointer (some ⟨D, 0, none⟩), .agg ys] w fun e w' => e = .returned (.bool true) ∧ ∃ v', Left w w' K D B v v' (mk N W) := by
  subst hy
  exact is_mk hr hl h
end
/-- The disk, and a block of the law's own beside it. -/
structure St (w0 W : World) (K D B : Nat) (v0 v : Value) (s : DSt) (M : Nat) (cs : Array Value) : Prop where
  left : Left w0 W K D B v0 v s
  blk : Blk W M 40 cs
  no : ¬ Own D B v M
  hi : w0.heap.size ≤ M
section
variable {w0 W W' : World} {K D B M : Nat} {v0 v v' : Value} {s s' : DSt} {cs : Array Value}
theorem St.step (h : St w0 W K D B v0 v s M cs) (k : Left W W' K D B v v' s') : St w0 W' K D B v0 v' s' M cs :=
  ⟨h.left.trans k, (k.far h.blk.lt h.no).1.trans h.blk, (k.far h.blk.lt h.no).2, h.hi⟩
theorem Left.grow (h : Left w0 W K D B v0 v s) (k : Kp (fun i => w0.heap.size ≤ i ∧ ¬ Own D B v i) W W') : Left w0 W' K D B v0 v s :=
  ⟨h.rep.kp k (fun i ho hn => hn.2 ho), h.kp.then k (fun i hi hn => by omega), h.own⟩
theorem St.new (h : Left w0 W K D B v0 v s) (cs : Array Value) : St w0 (W.alloc (.cells cs 40)) K D B v0 v s W.heap.size cs :=
  ⟨h.grow ((Kp.refl _ _).alloc _), Blk.new _ _ _, fun ho => by have := (h.rep.lt ho).2; omega, h.kp.size⟩
theorem St.alloc (h : St w0 W K D B v0 v s M cs) (o : Obj) : St w0 (W.alloc o) K D B v0 v s M cs :=
  ⟨h.left.grow ((Kp.refl _ _).alloc _), h.blk.alloc _, h.no, h.hi⟩
theorem St.drew (h : St w0 W K D B v0 v s M cs) : St w0 W.drew K D B v0 v s M cs :=
  ⟨h.left.grow ((Kp.refl _ _).drew), h.blk.drew, h.no, h.hi⟩
theorem St.set (h : St w0 W K D B v0 v s M cs) (q : Nat) (u : Value) : St w0 (W.setCell ⟨M, q, none⟩ u) K D B v0 v s M (cs.setIfInBounds q u) :=
  ⟨h.left.grow ((Kp.refl (fun i => w0.heap.size ≤ i ∧ ¬ Own D B v i) W).set (.inl ⟨h.hi, h.no⟩) _), h.blk.set_ q u, h.no, h.hi⟩
end
theorem surv_take (m : Nat) (N : List ByteArray) (W : List (Nat × ByteArray)) (h : ∀ j, m.testBit (j % 64) = true) (k : Nat) (hk : k ≤ W.length) : surv m N W k = appl N (W.take k) := by
  induction k with
  | zero => rfl
  | succ k ih =>
    have hl : k < W.length := by omega
    rw [surv_succ m N W (List.getElem?_eq_getElem hl), if_pos (h k), ih (by omega), appl_take N W (List.getElem?_eq_getElem hl)]
theorem surv_all (N : List ByteArray) (W : List (Nat × ByteArray)) : surv 18446744073709551615 N W W.length = appl N W := by
  rw [surv_take _ N W (fun j => ?_) W.length (Nat.le_refl _), List.take_of_length_le (Nat.le_refl _)]
  rw [show 18446744073709551615 = 2 ^ 64 - 1 from rfl, Nat.testBit_two_pow_sub_one]
  exact decide_eq_true (Nat.mod_lt _ (by decide))
theorem surv_none (N : List ByteArray) (W : List (Nat × ByteArray)) (k : Nat) (hk : k ≤ W.length) : surv 0 N W k = N := by
  induction k with
  | zero => rfl
  | succ k ih =>
    rw [surv_succ 0 N W (List.getElem?_eq_getElem (show k < W.length by omega)), if_neg (by simp), ih (by omega)]
end Go.Proofs.Ytkfiekpinojahaa
