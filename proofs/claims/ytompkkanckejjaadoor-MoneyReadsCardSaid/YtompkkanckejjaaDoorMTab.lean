/-
  THE TABLE of exponents: what the listed variable's datum says of its cells.
-/
import Derived.Test.YtompkkanckejjaaDoorM1
import Derived.Lib.LaidTab
import Derived.ChangeSame
namespace Go.Proofs.YtompkkanckejjaaDoor
open Go.ChangeShapes Go.RowKit Go.Lib
set_option linter.unusedVariables false
theorem pair_cells {H : Type} {enc : TypeId × Value → H} {P : Program} {w : World} {base : Nat} {sp : Nat → Bool} {held : Bool} {fuel : Nat} {t : TypeId} {f0 f1 : Field} {cs : List Value} {l : List UInt8} {z : Int} {p : List MemPlace}
    (ht : P.underlying t = some (.struct #[f0, f1])) (o0 : f0.offset = 0) (o1 : f1.offset = 1) (c0 : P.cellsOf f0.type = 1) (c1 : P.cellsOf f1.type = 1) (s0 : P.underlying f0.type = some .string) (s1 : P.underlying f1.type = some (.int .i64)) (hC : P.cellsOf t = 2)
    (h : DataW.trod enc P w base sp held fuel t cs = some (.agg [.lit (.string l), .lit (.int .i64 z)], p)) : cs = [.string ⟨l.toArray⟩, .int .i64 z] := by
  obtain ⟨y0, y1, n, hx, hl, h0, h1⟩ := trod_struct2 ht h
  rw [o0, c0] at h0
  rw [o1, c1] at h1
  obtain ⟨s, e0, rfl, -⟩ := DataW.trod_string s0 h0
  obtain ⟨k, e1, rfl, -⟩ := DataW.trod_int s1 h1
  simp at hx
  obtain ⟨⟨rfl, rfl⟩, -⟩ := hx
  rw [hC] at hl
  match cs, hl with
  | [a, b], _ =>
    simp at e0 e1
    subst e0 e1
    rfl
theorem pairs_cells {H : Type} {enc : TypeId × Value → H} {P : Program} {w : World} {base : Nat} {sp : Nat → Bool} {held : Bool} {fuel : Nat} {t e : TypeId} {n : Nat} {f0 f1 : Field} {cs : List Value} {zs : List (List UInt8 × Int)} {p : List MemPlace}
    (ht : P.underlying t = some (.array n e)) (he : P.underlying e = some (.struct #[f0, f1])) (o0 : f0.offset = 0) (o1 : f1.offset = 1) (c0 : P.cellsOf f0.type = 1) (c1 : P.cellsOf f1.type = 1) (s0 : P.underlying f0.type = some .string) (s1 : P.underlying f1.type = some (.int .i64)) (hce : P.cellsOf e = 2) (hct : P.cellsOf t = n * 2)
    (h : DataW.trod enc P w base sp held fuel t cs = some (.agg (zs.map fun z => .agg [.lit (.string z.1), .lit (.int .i64 z.2)]), p)) : cs.length = n * 2 ∧ ∀ i z, zs[i]? = some z → (cs.drop (i * 2)).take 2 = [.string ⟨z.1.toArray⟩, .int .i64 z.2] := by
  cases fuel with
  | zero => simp [DataW.trod] at h
  | succ fuel =>
    simp only [DataW.trod, ht, hce, hct] at h
    split at h
    · rename_i hl
      obtain ⟨xs, hm, hx⟩ := Option.map_eq_some_iff.1 h
      have hxs : xs.map (·.1) = zs.map fun z => (DataW.agg [.lit (.string z.1), .lit (.int .i64 z.2)] : DataW H) := by
        have := congrArg Prod.fst hx
        simpa using this
      have hxl : xs.length = n := by simpa using mapM_length hm
      have hzl : zs.length = n := by
        have := congrArg List.length hxs
        simp at this
        omega
      refine ⟨by simpa using hl, ?_⟩
      intro i z hz
      have hi : i < n := by
        rcases Nat.lt_or_ge i n with hi | hi
        · exact hi
        · rw [List.getElem?_eq_none (by omega)] at hz; cases hz
      obtain ⟨b, hb, hf⟩ := mapM_at hm i i (by simp [hi])
      have h2 : (xs.map (·.1))[i]? = some b.1 := by simp [hb]
      rw [hxs] at h2
      simp only [List.getElem?_map, hz, Option.map_some, Option.some.injEq] at h2
      have hf' : DataW.trod enc P w base sp held fuel e ((cs.drop (i * 2)).take 2) = some (.agg [.lit (.string z.1), .lit (.int .i64 z.2)], b.2) := by
        rw [h2]; exact hf
      exact pair_cells he o0 o1 c0 c1 s0 s1 hce hf'
    · cases h
def expPairs : List (List UInt8 × Int) := [([74, 80, 89], 0), ([75, 82, 87], 0), ([86, 78, 68], 0), ([67, 76, 80], 0), ([73, 83, 75], 0), ([66, 72, 68], 3), ([75, 87, 68], 3), ([74, 79, 68], 3), ([79, 77, 82], 3), ([84, 78, 68], 3)]
/-- The cells of the table of exponents. -/
def expCells : Array Value := #[.string ⟨#[74, 80, 89]⟩, .int .i64 0, .string ⟨#[75, 82, 87]⟩, .int .i64 0, .string ⟨#[86, 78, 68]⟩, .int .i64 0, .string ⟨#[67, 76, 80]⟩, .int .i64 0, .string ⟨#[73, 83, 75]⟩, .int .i64 0, .string ⟨#[66, 72, 68]⟩, .int .i64 3, .string ⟨#[75, 87, 68]⟩, .int .i64 3, .string ⟨#[74, 79, 68]⟩, .int .i64 3, .string ⟨#[79, 77, 82]⟩, .int .i64 3, .string ⟨#[84, 78, 68]⟩, .int .i64 3]
/-- The variable holds the table. -/
def ExpT (w : World) : Prop := ∃ t fr, w.heap[2]? = some (.cells expCells t fr)
theorem gExp : Tryd.prog.globalNamed "cardnet/money.exponents" = some 2 := by kernel_rfl
theorem gExpType : (Tryd.prog.globals[2]?).map (·.type) = some 85 := by kernel_rfl
theorem cellsExp : Tryd.prog.cellsOf 85 = 20 := by kernel_rfl
theorem cellsPair : Tryd.prog.cellsOf 84 = 2 := by kernel_rfl
theorem cellsStr : Tryd.prog.cellsOf 9 = 1 := by kernel_rfl
theorem cellsInt : Tryd.prog.cellsOf 3 = 1 := by kernel_rfl
set_option maxRecDepth 4000 in
theorem exp_of_head {W : World} {rest : List (String × DataW Unit)}
    (h : laidMet Tryd.prog (("cardnet/money.exponents", .agg (expPairs.map fun z => .agg [.lit (.string z.1), .lit (.int .i64 z.2)])) :: rest) W) : ExpT W := by
  obtain ⟨ps, ⟨g', t', cs, fuel, p, q, hg', ht', hvar, hd, _, _⟩, _⟩ := h
  obtain rfl := Option.some.inj (gExp.symm.trans hg')
  obtain rfl := Option.some.inj (gExpType.symm.trans ht')
  obtain ⟨hl, hp⟩ := pairs_cells (n := 10) Tryd.underlying85 Tryd.underlying84 rfl rfl cellsStr cellsInt Tryd.underlying9 Tryd.underlying3 cellsPair cellsExp hd
  simp only [World.var?, gExp, Option.bind_some] at hvar
  split at hvar
  · rename_i c1 t1 f1 hb
    refine ⟨t1, f1, ?_⟩
    rw [hb]
    congr 2
    cases hvar
    obtain ⟨l⟩ := cs
    have hl' : l.length = 20 := hl
    match l, hl' with
    | [x0, x1, x2, x3, x4, x5, x6, x7, x8, x9, x10, x11, x12, x13, x14, x15, x16, x17, x18, x19], _ =>
      have h0 := hp 0 _ rfl
      have h1 := hp 1 _ rfl
      have h2 := hp 2 _ rfl
      have h3 := hp 3 _ rfl
      have h4 := hp 4 _ rfl
      have h5 := hp 5 _ rfl
      have h6 := hp 6 _ rfl
      have h7 := hp 7 _ rfl
      have h8 := hp 8 _ rfl
      have h9 := hp 9 _ rfl
      simp at h0 h1 h2 h3 h4 h5 h6 h7 h8 h9
      obtain ⟨rfl, rfl⟩ := h0
      obtain ⟨rfl, rfl⟩ := h1
      obtain ⟨rfl, rfl⟩ := h2
      obtain ⟨rfl, rfl⟩ := h3
      obtain ⟨rfl, rfl⟩ := h4
      obtain ⟨rfl, rfl⟩ := h5
      obtain ⟨rfl, rfl⟩ := h6
      obtain ⟨rfl, rfl⟩ := h7
      obtain ⟨rfl, rfl⟩ := h8
      obtain ⟨rfl, rfl⟩ := h9
      rfl
  · cases hvar
end Go.Proofs.YtompkkanckejjaaDoor
