/-
  OPENING A LIST OF CHANGES THAT COMES IN; short.
-/
import Derived.Test.YtkfiekpinojahaaDK8
import Derived.ProofKit
import Derived.OpenShut
import Derived.Lib.SmallJoins
import Derived.Deep.Slices
import Derived.Deep.Fields
namespace Go.Proofs.Ytkfiekpinojahaa
open Go.Joins Go.ChangeShapes Go.WideShapes Go.RowKit Go.Deep
set_option linter.unusedVariables false
set_option linter.unusedSimpArgs false
section
variable {H : Type} {enc : TypeId × Value → H} {P : Program} {w : World} {base : Nat} {spare : Nat → Bool} {held : Bool}
theorem one_int {t : TypeId} {k : IntKind} {n : Nat} {v : Value} {x : DataW H × List MemPlace} (ht : P.underlying t = some (.int k)) (h : DataW.trod enc P w base spare held n t [v] = some x) : ∃ a, v = .int k a ∧ (Lit.int k a).wf = true := by
  obtain ⟨a, e, _, wf⟩ := DataW.trod_int ht h
  exact ⟨a, by simpa using e, wf⟩
theorem one_string {t : TypeId} {n : Nat} {v : Value} {x : DataW H × List MemPlace} (ht : P.underlying t = some .string) (h : DataW.trod enc P w base spare held n t [v] = some x) : ∃ a : ByteArray, v = .string a ∧ a.size ≤ maxLen := by
  obtain ⟨a, e, _, hs⟩ := DataW.trod_string ht h
  exact ⟨a, by simpa using e, hs⟩
end
theorem ad_block (a : Addr) (n : Nat) : (a.add n).block = a.block := by unfold Addr.add; split <;> rfl
structure CR where
  n : Int
  t : ByteArray
/-- A slice holds these. -/
def CRs (w : World) (B : Nat) (A : Option Addr) (n : Nat) (L : List CR) : Prop :=
  L.length = n ∧ (0 < n → ∃ ad, A = some ad ∧ ad.block < B ∧ ∀ k r, L[k]? = some r → w.cell? (ad.add (k * 2)) = some (.int .u8 r.n) ∧ w.cell? ((ad.add (k * 2)).add 1) = some (.string r.t))
theorem CRs.keep {w w' : World} {B n : Nat} {A : Option Addr} {L : List CR} (h : CRs w B A n L) (hk : ∀ p : Addr, p.block < B → w'.cell? p = w.cell? p) : CRs w' B A n L :=
  ⟨h.1, fun hn => by
    obtain ⟨ad, e, hb, hc⟩ := h.2 hn
    refine ⟨ad, e, hb, fun k r hr => ?_⟩
    obtain ⟨c0, c1⟩ := hc k r hr
    refine ⟨?_, ?_⟩ <;> (rw [hk _ (by simp only [ad_block]; exact hb)]; assumption)⟩
theorem CRs.below {w w' : World} {B n : Nat} {A : Option Addr} {L : List CR} (h : CRs w B A n L) (hb : Below B w w') : CRs w' B A n L := h.keep fun _ hp => hb.cell hp
theorem CRs.at {w : World} {B n : Nat} {A : Option Addr} {L : List CR} (h : CRs w B A n L) {k : Nat} (hk : k < n) :
    ∃ ad r p, A = some ad ∧ L[k]? = some r ∧ ad.add (k * 2) = p ∧ p.block < B ∧ w.cell? p = some (.int .u8 r.n) ∧ w.cell? ⟨p.block, p.off + 1, none⟩ = some (.string r.t) := by
  obtain ⟨ad, e, hb, hc⟩ := h.2 (by omega)
  have hl : k < L.length := by have := h.1; omega
  obtain ⟨c0, c1⟩ := hc k L[k] (List.getElem?_eq_getElem hl)
  exact ⟨ad, L[k], _, e, List.getElem?_eq_getElem hl, rfl, by rw [ad_block]; exact hb, c0, c1⟩
theorem cells_CR : Try.prog.cellsOf 50 = 2 := by kernel_rfl
theorem elem2 {H : Type} {enc : TypeId × Value → H} {P : Program} {w : World} {base : Nat} {spare : Nat → Bool} {held : Bool} {fuel : Nat} {t : TypeId} {f0 f1 : Field} {cs : List Value} {x : DataW H × List MemPlace} (hs : P.underlying t = some (.struct #[f0, f1])) (hone : oneCellFields P #[f0, f1] = true) (hl : cs.length = 2) (h : DataW.trod enc P w base spare held fuel t cs = some x) :
    ∃ (v0 v1 : Value) (y0 y1 : DataW H × List MemPlace) (n : Nat), cs = [v0, v1] ∧
      DataW.trod enc P w base spare held n f0.type [v0] = some y0 ∧ DataW.trod enc P w base spare held n f1.type [v1] = some y1 := by
  match cs, hl with
  | [c0, c1], _ =>
    obtain ⟨xs, n, _, hx, _, hlen, hg⟩ := DataW.trod_struct hs h
    obtain ⟨o0, k0⟩ := hone_of hone 0 f0 rfl
    obtain ⟨o1, k1⟩ := hone_of hone 1 f1 rfl
    match xs, hlen with
    | [y0, y1], _ =>
      exact ⟨c0, c1, y0, y1, n, rfl, by simpa [o0, k0] using hg 0 f0 rfl, by simpa [o1, k1] using hg 1 f1 rfl⟩
def okCR (r : CR) : Prop := (Lit.int .u8 r.n).wf = true ∧ r.t.size ≤ maxLen
set_option maxRecDepth 8000 in
theorem elem_CR {H : Type} {enc : TypeId × Value → H} {w : World} {base : Nat} {spare : Nat → Bool} {held : Bool} {fuel : Nat} {cs : List Value} {x : DataW H × List MemPlace} (hl : cs.length = 2) (h : DataW.trod enc Try.prog w base spare held fuel 50 cs = some x) :
    ∃ r : CR, cs = [.int .u8 r.n, .string r.t] ∧ okCR r := by
  obtain ⟨v0, v1, y0, y1, n, rfl, g0, g1⟩ := elem2 Try.underlying50 (by kernel_rfl) hl h
  obtain ⟨n', rfl, w0⟩ := one_int Try.underlying5 g0
  obtain ⟨t', rfl, w1⟩ := one_string Try.underlying9 g1
  exact ⟨⟨n', t'⟩, rfl, w0, w1⟩
set_option maxRecDepth 8000 in
theorem open_CR {H : Type} {enc : TypeId × Value → H} {w : World} {base : Nat} {spare : Nat → Bool} {held : Bool} {fuel : Nat} {u : Value} {x : DataW H × List MemPlace} (h : DataW.trod enc Try.prog w base spare held fuel 38 [u] = some x) :
    ∃ (A : Option Addr) (k c : Nat) (L : List CR), u = .slice A k c ∧ k ≤ maxLen ∧ k ≤ c ∧ CRs w w.heap.size A k L ∧ ∀ r ∈ L, okCR r := by
  rcases open_slice Try.underlying38 h with ⟨hcs, _⟩ | ⟨a, len, cap, m, n, D, Pl, hcs, hb, hl, hm, hmm, _, hi⟩
  · cases hcs
    exact ⟨none, 0, 0, [], rfl, Nat.zero_le _, Nat.le_refl _, ⟨rfl, fun h => absurd h (by omega)⟩, fun r hr => by cases hr⟩
  · cases hcs
    have each : ∀ i, ∃ r : CR, i < len → ((w.cell? (a.add (i * 2)) = some (.int .u8 r.n) ∧ w.cell? ((a.add (i * 2)).add 1) = some (.string r.t)) ∧ okCR r) := by
      intro i
      by_cases hlt : i < len
      · have him : i < m := by rw [hmm]; split <;> omega
        obtain ⟨cs, hc, ht⟩ := hi i him
        rw [cells_CR] at hc
        obtain ⟨_, hcl, hat⟩ := World.cells?_some hc
        obtain ⟨r, rfl, s1⟩ := elem_CR hcl ht
        exact ⟨r, fun _ => ⟨⟨by simpa [Addr.add] using hat 0 (by omega), hat 1 (by omega)⟩, s1⟩⟩
      · exact ⟨⟨0, ⟨#[]⟩⟩, fun h => absurd h hlt⟩
    obtain ⟨R, hR⟩ := Classical.axiomOfChoice each
    refine ⟨some a, len, cap, (List.range len).map R, rfl, by omega, hl, ⟨by simp, fun hn => ⟨a, rfl, ?_, fun k r hr => ?_⟩⟩, fun r hr => ?_⟩
    · have h0 := ((hR 0 hn).1).1
      rcases Nat.lt_or_ge a.block w.heap.size with hlt | hge
      · exact hlt
      · exfalso
        have : (a.add (0 * 2)).block = a.block := ad_block a _
        simp [World.cell?, this, Array.getElem?_eq_none hge] at h0
    · have hk : k < len := by
        have := (List.getElem?_eq_some_iff.1 hr).1
        simpa using this
      have : r = R k := by
        rw [List.getElem?_map, List.getElem?_range hk] at hr
        simpa using hr.symm
      subst this
      exact (hR k hk).1
    · obtain ⟨k, hk, rfl⟩ := List.mem_map.1 hr
      exact (hR k (List.mem_range.1 hk)).2
set_option maxRecDepth 8000 in
theorem open_CRT {H : Type} {enc : TypeId × Value → H} {w : World} {base : Nat} {spare : Nat → Bool} {held : Bool} {u : Value} {d : DataW H} {pl : List MemPlace} {rr : Reach} {b0 : Nat} (hv : Value.okWide Try.prog w rr b0 38 u) (h0 : DataW.Trod enc Try.prog w base spare held 38 u d pl) :
    ∃ (A : Option Addr) (k c : Nat) (L : List CR), u = .slice A k c ∧ k ≤ maxLen ∧ k ≤ c ∧ CRs w w.heap.size A k L ∧ ∀ r ∈ L, okCR r := by
  obtain ⟨A0, len, cap, rfl⟩ := okWide_slice Try.underlying38 hv
  obtain ⟨fuel, h⟩ := h0
  exact open_CR (u := .slice A0 len cap) (by simpa [Value.cells] using h)
end Go.Proofs.Ytkfiekpinojahaa
