/-
  TOTALS of lists put together, turned round and cut; a slice of strings cut.
-/
import Derived.Test.YtfchpobjepdpgaaDoorSum8
import Derived.Laws.Slices
namespace Go.Proofs.YtfchpobjepdpgaaDoor
open Go.RowKit
set_option linter.unusedVariables false
def sumV : List ByteArray → Nat
  | [] => 0
  | s :: l => valN s + sumV l
theorem sumV_append : ∀ a b, sumV (a ++ b) = sumV a + sumV b
  | [], b => by simp [sumV]
  | s :: a, b => by rw [List.cons_append, sumV, sumV, sumV_append a b]; omega
theorem sumV_reverse : ∀ a, sumV a.reverse = sumV a
  | [] => rfl
  | s :: a => by rw [List.reverse_cons, sumV_append, sumV_reverse a, sumV, sumV, sumV]; omega
theorem totF_sum : ∀ (l : List ByteArray) (n : Nat), n < 100000000 → l.foldl (fun sum s => (sum + valN s) % 100000000) n = (n + sumV l) % 100000000
  | [], n, h => by simp [sumV]; omega
  | s :: l, n, h => by
    rw [List.foldl_cons, totF_sum l _ (Nat.mod_lt _ (by omega)), sumV]
    omega
theorem totL_sum (l : List ByteArray) : totL l = sumV l % 100000000 := by
  unfold totL
  rw [totF_sum l 0 (by omega), Nat.zero_add]
theorem totL_reverse (l : List ByteArray) : totL l.reverse = totL l := by rw [totL_sum, totL_sum, sumV_reverse]
theorem totL_cut (l : List ByteArray) (p : Nat) : (totL (l.take p) + totL (l.drop p)) % 100000000 = totL l := by
  rw [totL_sum, totL_sum, totL_sum, ← Nat.add_mod, ← sumV_append, List.take_append_drop]
def loA (A : Option Addr) (c : Nat) : Option Addr := if c = 0 then A else A.map (·.add (0 * 1))
def hiA (A : Option Addr) (c p : Nat) : Option Addr := if c = p then A else A.map (·.add (p * 1))
theorem elemS : (sizeOf (Tryd.prog.elem 29)).run Tryd.prog = fun w => .ok 1 w := by
  funext w
  kernel_rfl
theorem slice_lo (A : Option Addr) (n c p : Nat) (hp : p ≤ c) (w : World) : (Instr.slice 29 (.slice A n c) none (some (.int .i64 (p : Int))) none).run Tryd.prog w = .ok (.slice (loA A c) p c) w := by
  rw [run_slice_h w 29 A n c (by kernel_rfl) .i64 (p : Int) (by omega) (by omega), show (sizeOf (Tryd.prog.elem 29)).run Tryd.prog w = .ok 1 w from congrFun elemS w]
  simp [Result.andThen_ok, sliced, loA]
theorem slice_hi (A : Option Addr) (n c p : Nat) (hp : p ≤ n) (w : World) : (Instr.slice 29 (.slice A n c) (some (.int .i64 (p : Int))) none none).run Tryd.prog w = .ok (.slice (hiA A c p) (n - p) (c - p)) w := by
  rw [run_slice_l w 29 A n c (by kernel_rfl) .i64 (p : Int) (by omega) (by omega), show (sizeOf (Tryd.prog.elem 29)).run Tryd.prog w = .ok 1 w from congrFun elemS w]
  simp [Result.andThen_ok, sliced, hiA]
theorem Strs.hi {w : World} {A : Option Addr} {n c p : Nat} {ss : List ByteArray} (h : Strs w A n ss) (hp : p ≤ n) (hc : n ≤ c) : Strs w (hiA A c p) (n - p) (ss.drop p) := by
  have := Reads.cut h (k := p) (cap := c) hp hc
  unfold Strs hiA
  rw [List.map_drop]
  simpa using this
theorem Strs.lo {w : World} {A : Option Addr} {n c p : Nat} {ss : List ByteArray} (h : Strs w A n ss) (hp : p ≤ n) (hc : n ≤ c) : Strs w (loA A c) p (ss.take p) := by
  have hl := h.len
  refine ⟨by simp; omega, fun h0 => ?_⟩
  obtain ⟨ad, rfl, hb, hcell⟩ := h.2 (by omega)
  refine ⟨ad, ?_, hb, fun j u hu => hcell j u ?_⟩
  · unfold loA
    split
    · rfl
    · simp [Addr.add]
  · rw [List.map_take, List.getElem?_take] at hu
    split at hu
    · exact hu
    · cases hu
theorem Strs.drewN {w : World} {A : Option Addr} {n : Nat} {ss : List ByteArray} (h : Strs w A n ss) (k : Nat) : Strs (w.drewN k) A n ss := h
theorem total_quiet (A : Option Addr) (n c : Nat) (ss : List ByteArray) (w : World) (hS : Strs w A n ss) (hn : n ≤ maxLen) (hl : ∀ s ∈ ss, s.size ≤ maxLen) :
    Calls Tryd.prog 17 #[.slice A n c] w fun e w' => e = .returned (.int .i64 (totL ss : Int)) ∧ w' = w :=
  (total_any A n c ss w hS hn hl).mono fun _ _ ⟨he, hw⟩ => ⟨he, hw.symm⟩
end Go.Proofs.YtfchpobjepdpgaaDoor
