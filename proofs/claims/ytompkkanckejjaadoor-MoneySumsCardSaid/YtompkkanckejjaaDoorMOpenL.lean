/-
  OPENING A LIST OF AMOUNTS THAT COMES IN.
-/
import Derived.Test.YtompkkanckejjaaDoorMSum
import Derived.Test.YtompkkanckejjaaDoorROpen
import Derived.Deep.Slices
import Derived.Deep.Fields
namespace Go.Proofs.YtompkkanckejjaaDoor
open Go.RowKit Go.ChangeShapes Go.WideShapes Go.Deep
set_option linter.unusedVariables false
theorem cells_money : Tryd.prog.cellsOf 23 = 2 := by kernel_rfl
theorem elem2 {H : Type} {enc : TypeId × Value → H} {P : Program} {w : World} {base : Nat} {spare : Nat → Bool} {held : Bool} {fuel : Nat} {t : TypeId} {f0 f1 : Field} {cs : List Value} {x : DataW H × List MemPlace} (hs : P.underlying t = some (.struct #[f0, f1])) (hone : oneCellFields P #[f0, f1] = true) (hl : cs.length = 2) (h : DataW.trod enc P w base spare held fuel t cs = some x) :
    ∃ (v0 v1 : Value) (y0 y1 : DataW H × List MemPlace) (n : Nat), cs = [v0, v1] ∧
      DataW.trod enc P w base spare held n f0.type [v0] = some y0 ∧ DataW.trod enc P w base spare held n f1.type [v1] = some y1 := by
  match cs, hl with
  | [c0, c1], _ =>
    obtain ⟨xs, n, _, hx, _, hlen, hg⟩ := DataW.trod_struct hs h
    obtain ⟨o0, k0⟩ := hone_of hone 0 f0 rfl
    obtain ⟨o1, k1⟩ := hone_of hone 1 f1 rfl
    match xs, hlen with
    | [y0, y1], _ =>
      exact ⟨c0, c1, y0, y1, n, rfl, by simpa [o0, k0] using hg 0 f0 rfl, by simpa [o1, k1] using hg 1 f1 rfl⟩
set_option maxRecDepth 8000 in
theorem elem_money {H : Type} {enc : TypeId × Value → H} {w : World} {base : Nat} {spare : Nat → Bool} {held : Bool} {fuel : Nat} {cs : List Value} {x : DataW H × List MemPlace} (hl : cs.length = 2) (h : DataW.trod enc Tryd.prog w base spare held fuel 23 cs = some x) :
    ∃ r : MR, cs = [.int .i64 r.m, .string r.c] ∧ r.c.size ≤ maxLen := by
  obtain ⟨v0, v1, y0, y1, n, rfl, g0, g1⟩ := elem2 Tryd.underlying23 (by kernel_rfl) hl h
  obtain ⟨m, rfl, _⟩ := one_int Tryd.underlying2 g0
  obtain ⟨c, rfl, wc⟩ := one_string Tryd.underlying9 g1
  exact ⟨⟨m, c⟩, rfl, wc⟩
set_option maxRecDepth 8000 in
theorem open_moneys {H : Type} {enc : TypeId × Value → H} {w : World} {base : Nat} {spare : Nat → Bool} {held : Bool} {u : Value} {d : DataW H} {pl : List MemPlace} {rr : Reach} {b0 : Nat} (hv : Value.okWide Tryd.prog w rr b0 35 u) (h0 : DataW.Trod enc Tryd.prog w base spare held 35 u d pl) :
    ∃ (A : Option Addr) (k c : Nat) (L : List MR), u = .slice A k c ∧ k ≤ maxLen ∧ k ≤ c ∧ Mts w w.heap.size A k L ∧ ∀ r ∈ L, r.c.size ≤ maxLen := by
  obtain ⟨A0, len, cap, rfl⟩ := okWide_slice Tryd.underlying35 hv
  obtain ⟨fuel, h⟩ := h0
  rcases open_slice Tryd.underlying35 h with ⟨hcs, _⟩ | ⟨a, len2, cap2, m, n, D, Pl, hcs, hb, hl, hm, hmm, _, hi⟩
  · simp [Value.cells] at hcs
    obtain ⟨rfl, rfl, rfl⟩ := hcs
    exact ⟨none, 0, 0, [], rfl, Nat.zero_le _, Nat.le_refl _, ⟨rfl, fun h => absurd h (by omega)⟩, fun r hr => by cases hr⟩
  · simp [Value.cells] at hcs
    obtain ⟨rfl, rfl, rfl⟩ := hcs
    have each : ∀ i, ∃ r : MR, i < len → ((w.cell? (a.add (i * 2)) = some (.int .i64 r.m) ∧ w.cell? ((a.add (i * 2)).add 1) = some (.string r.c)) ∧ r.c.size ≤ maxLen) := by
      intro i
      by_cases hlt : i < len
      · have him : i < m := by rw [hmm]; split <;> omega
        obtain ⟨cs, hc, ht⟩ := hi i him
        rw [cells_money] at hc
        obtain ⟨_, hcl, hat⟩ := World.cells?_some hc
        obtain ⟨r, rfl, s1⟩ := elem_money hcl ht
        exact ⟨r, fun _ => ⟨⟨by simpa [Addr.add] using hat 0 (by omega), hat 1 (by omega)⟩, s1⟩⟩
      · exact ⟨⟨0, ⟨#[]⟩⟩, fun h => absurd h hlt⟩
    obtain ⟨R, hR⟩ := Classical.axiomOfChoice each
    refine ⟨some a, len, cap, (List.range len).map R, rfl, by omega, hl, ⟨by simp, fun hn => ⟨a, rfl, ?_, fun k r hr => ?_⟩⟩, fun r hr => ?_⟩
    · have h0 := ((hR 0 hn).1).1
      rcases Nat.lt_or_ge a.block w.heap.size with hlt | hge
      · exact hlt
      · exfalso
        have : (a.add (0 * 2)).block = a.block := ad_block a _
        simp [World.cell?, this, Array.getElem?_eq_none hge] at h0
    · have hk : k < len := by
        have := (List.getElem?_eq_some_iff.1 hr).1
        simpa using this
      have : r = R k := by
        rw [List.getElem?_map, List.getElem?_range hk] at hr
        simpa using hr.symm
      subst this
      exact (hR k hk).1
    · obtain ⟨k, hk, rfl⟩ := List.mem_map.1 hr
      exact (hR k (List.mem_range.1 hk)).2
end Go.Proofs.YtompkkanckejjaaDoor
