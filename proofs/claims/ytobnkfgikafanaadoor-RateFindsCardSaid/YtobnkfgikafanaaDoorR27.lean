/-
  OPENING A LIST OF RATES THAT COMES IN.
-/
import Derived.Test.YtobnkfgikafanaaDoorR26
import Derived.Test.YtobnkfgikafanaaDoorROpen
import Derived.Deep.Slices
import Derived.Deep.Fields
namespace Go.Proofs.YtobnkfgikafanaaDoor
open Go.RowKit Go.ChangeShapes Go.WideShapes Go.Deep
set_option linter.unusedVariables false
theorem cells_rate : Tryd.prog.cellsOf 23 = 4 := by kernel_rfl
theorem elem4 {H : Type} {enc : TypeId × Value → H} {P : Program} {w : World} {base : Nat} {spare : Nat → Bool} {held : Bool} {fuel : Nat} {t : TypeId} {f0 f1 f2 f3 : Field} {cs : List Value} {x : DataW H × List MemPlace} (hs : P.underlying t = some (.struct #[f0, f1, f2, f3])) (hone : oneCellFields P #[f0, f1, f2, f3] = true) (hl : cs.length = 4) (h : DataW.trod enc P w base spare held fuel t cs = some x) :
    ∃ (v0 v1 v2 v3 : Value) (y0 y1 y2 y3 : DataW H × List MemPlace) (n : Nat), cs = [v0, v1, v2, v3] ∧
      DataW.trod enc P w base spare held n f0.type [v0] = some y0 ∧ DataW.trod enc P w base spare held n f1.type [v1] = some y1 ∧ DataW.trod enc P w base spare held n f2.type [v2] = some y2 ∧ DataW.trod enc P w base spare held n f3.type [v3] = some y3 := by
  match cs, hl with
  | [c0, c1, c2, c3], _ =>
    obtain ⟨xs, n, _, hx, _, hlen, hg⟩ := DataW.trod_struct hs h
    obtain ⟨o0, k0⟩ := hone_of hone 0 f0 rfl
    obtain ⟨o1, k1⟩ := hone_of hone 1 f1 rfl
    obtain ⟨o2, k2⟩ := hone_of hone 2 f2 rfl
    obtain ⟨o3, k3⟩ := hone_of hone 3 f3 rfl
    match xs, hlen with
    | [y0, y1, y2, y3], _ =>
      exact ⟨c0, c1, c2, c3, y0, y1, y2, y3, n, rfl, by simpa [o0, k0] using hg 0 f0 rfl, by simpa [o1, k1] using hg 1 f1 rfl, by simpa [o2, k2] using hg 2 f2 rfl, by simpa [o3, k3] using hg 3 f3 rfl⟩
set_option maxRecDepth 8000 in
theorem elem_rate {H : Type} {enc : TypeId × Value → H} {w : World} {base : Nat} {spare : Nat → Bool} {held : Bool} {fuel : Nat} {cs : List Value} {x : DataW H × List MemPlace} (hl : cs.length = 4) (h : DataW.trod enc Tryd.prog w base spare held fuel 23 cs = some x) :
    ∃ r : RR, cs = [.string r.f, .string r.t, .int .i64 r.n, .int .i64 r.d] ∧ r.f.size ≤ maxLen ∧ r.t.size ≤ maxLen := by
  obtain ⟨v0, v1, v2, v3, y0, y1, y2, y3, n, rfl, g0, g1, g2, g3⟩ := elem4 Tryd.underlying23 (by kernel_rfl) hl h
  obtain ⟨f, rfl, wf⟩ := one_string Tryd.underlying9 g0
  obtain ⟨t, rfl, wt⟩ := one_string Tryd.underlying9 g1
  obtain ⟨m, rfl, _⟩ := one_int Tryd.underlying2 g2
  obtain ⟨d, rfl, _⟩ := one_int Tryd.underlying2 g3
  exact ⟨⟨f, t, m, d⟩, rfl, wf, wt⟩
set_option maxRecDepth 8000 in
theorem open_rates {H : Type} {enc : TypeId × Value → H} {w : World} {base : Nat} {spare : Nat → Bool} {held : Bool} {fuel : Nat} {u : Value} {x : DataW H × List MemPlace} (h : DataW.trod enc Tryd.prog w base spare held fuel 42 [u] = some x) :
    ∃ (A : Option Addr) (k c : Nat) (L : List RR), u = .slice A k c ∧ k ≤ maxLen ∧ k ≤ c ∧ Rts w w.heap.size A k L ∧ ∀ r ∈ L, r.f.size ≤ maxLen ∧ r.t.size ≤ maxLen := by
  rcases open_slice Tryd.underlying42 h with ⟨hcs, _⟩ | ⟨a, len, cap, m, n, D, Pl, hcs, hb, hl, hm, hmm, _, hi⟩
  · cases hcs
    exact ⟨none, 0, 0, [], rfl, Nat.zero_le _, Nat.le_refl _, ⟨rfl, fun h => absurd h (by omega)⟩, fun r hr => by cases hr⟩
  · cases hcs
    have each : ∀ i, ∃ r : RR, i < len → ((w.cell? (a.add (i * 4)) = some (.string r.f) ∧ w.cell? ((a.add (i * 4)).add 1) = some (.string r.t) ∧ w.cell? ((a.add (i * 4)).add 2) = some (.int .i64 r.n) ∧ w.cell? ((a.add (i * 4)).add 3) = some (.int .i64 r.d)) ∧ r.f.size ≤ maxLen ∧ r.t.size ≤ maxLen) := by
      intro i
      by_cases hlt : i < len
      · have him : i < m := by rw [hmm]; split <;> omega
        obtain ⟨cs, hc, ht⟩ := hi i him
        rw [cells_rate] at hc
        obtain ⟨_, hcl, hat⟩ := World.cells?_some hc
        obtain ⟨r, rfl, s1, s2⟩ := elem_rate hcl ht
        exact ⟨r, fun _ => ⟨⟨by simpa [Addr.add] using hat 0 (by omega), hat 1 (by omega), hat 2 (by omega), hat 3 (by omega)⟩, s1, s2⟩⟩
      · exact ⟨zeroR, fun h => absurd h hlt⟩
    obtain ⟨R, hR⟩ := Classical.axiomOfChoice each
    refine ⟨some a, len, cap, (List.range len).map R, rfl, by omega, hl, ⟨by simp, fun hn => ⟨a, rfl, ?_, fun k r hr => ?_⟩⟩, fun r hr => ?_⟩
    · have h0 := ((hR 0 hn).1).1
      rcases Nat.lt_or_ge a.block w.heap.size with hlt | hge
      · exact hlt
      · exfalso
        have : (a.add (0 * 4)).block = a.block := ad_block a _
        simp [World.cell?, this, Array.getElem?_eq_none hge] at h0
    · have hk : k < len := by
        have := (List.getElem?_eq_some_iff.1 hr).1
        simpa using this
      have : r = R k := by
        rw [List.getElem?_map, List.getElem?_range hk] at hr
        simpa using hr.symm
      subst this
      exact (hR k hk).1
    · obtain ⟨k, hk, rfl⟩ := List.mem_map.1 hr
      exact (hR k (List.mem_range.1 hk)).2
end Go.Proofs.YtobnkfgikafanaaDoor
