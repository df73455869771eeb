/-
  MATHEMATICS of the lexer: how long a scan is; cells of lexemes.
-/
import Derived.Test.YtklogijbdpghpaaDoorL9
namespace Go.Proofs.YtklogijbdpghpaaDoor
set_option linter.unusedVariables false
theorem scF_len (s : ByteArray) : ∀ f i l, i ≤ s.size → (scF s f i l).l.length ≤ l.length + (s.size - i) + 1
  | 0, i, l, h => by rw [scF]; exact Nat.zero_le _
  | f + 1, i, l, h => by
    rw [scF]
    split
    · rename_i hlt
      split
      · rename_i he
        have h1 := lexN_lt s i hlt he
        have h2 := skP_le s false (lexN s i) h1.2
        have h3 := scF_len s f (skP s false (lexN s i)) (l ++ [lexX s i]) h2.2
        rw [List.length_append, List.length_singleton] at h3
        omega
      · exact Nat.zero_le _
    · rw [List.length_append, List.length_singleton]
      omega
theorem scS_len (s : ByteArray) : (scS s).l.length ≤ 4001 := by
  unfold scS
  split
  · exact Nat.zero_le _
  · have h1 := skP_le s false 0 (Nat.zero_le _)
    have := scF_len s (s.size + 1 - skP s false 0) (skP s false 0) [] h1.2
    unfold scP
    rw [List.length_nil] at this
    omega
def lcells : List Lx → List Value
  | [] => []
  | x :: l => .int .i64 x.k :: .string x.t :: .int .i64 x.n :: .int .i64 x.p :: lcells l
theorem lcells_len (l : List Lx) : (lcells l).length = l.length * 4 := by
  induction l with
  | nil => rfl
  | cons x l ih => simp [lcells, ih]; omega
theorem lcells_app (l m : List Lx) : lcells (l ++ m) = lcells l ++ lcells m := by
  induction l with
  | nil => rfl
  | cons x l ih => simp [lcells, ih]
theorem lcells_at (l : List Lx) {k : Nat} {x : Lx} (h : l[k]? = some x) : (lcells l)[k * 4]? = some (.int .i64 x.k) ∧ (lcells l)[k * 4 + 1]? = some (.string x.t) ∧ (lcells l)[k * 4 + 2]? = some (.int .i64 x.n) ∧ (lcells l)[k * 4 + 3]? = some (.int .i64 x.p) := by
  induction l generalizing k with
  | nil => simp at h
  | cons y l ih =>
    cases k with
    | zero =>
      simp at h
      subst h
      exact ⟨rfl, rfl, rfl, rfl⟩
    | succ k =>
      have := ih (by simpa using h)
      rw [show (k + 1) * 4 = k * 4 + 1 + 1 + 1 + 1 by omega]
      exact this
theorem lcells_one (l : List Lx) : ∀ u ∈ lcells l, u.oneCell' = true := by
  induction l with
  | nil => intro u hu; cases hu
  | cons x l ih =>
    intro u hu
    simp only [lcells, List.mem_cons] at hu
    rcases hu with rfl | rfl | rfl | rfl | hu
    · rfl
    · rfl
    · rfl
    · rfl
    · exact ih u hu
theorem lex_info : (Tryd.prog.info? 30).map (fun i => (i.zero, i.size, i.bytes)) = some (some (.agg #[.int .i64 0, .string ⟨#[]⟩, .int .i64 0, .int .i64 0]), 4, 40) := by kernel_rfl
theorem cell_four_new (w : World) (x y z u0 : Value) (t : TypeId) : ∀ j u, [x, y, z, u0][j]? = some u → (w.alloc (.cells #[x, y, z, u0] t)).cell? ((⟨w.heap.size, 0, none⟩ : Addr).add j) = some u := fun j u hu => by
  have h : (⟨w.heap.size, 0, none⟩ : Addr).add j = ⟨w.heap.size, j, none⟩ := by unfold Addr.add; split <;> simp_all
  rw [h, (Blk.new w t #[x, y, z, u0]).cell j]
  simpa using hu
end Go.Proofs.YtklogijbdpghpaaDoor
