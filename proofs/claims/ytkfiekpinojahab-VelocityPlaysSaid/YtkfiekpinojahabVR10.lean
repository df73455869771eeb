/-
  CONTRACTS of VelocityPlays: a list of steps that comes in.
-/
import Derived.Test.YtkfiekpinojahabVR9
import Derived.ProofKit
import Derived.OpenShut
import Derived.Lib.SmallJoins
import Derived.Deep.Slices
import Derived.Deep.Fields
namespace Go.Proofs.Ytkfiekpinojahab
open Go.Joins Go.ChangeShapes Go.WideShapes Go.RowKit Go.Deep
set_option linter.unusedVariables false
set_option linter.unusedSimpArgs false
theorem u8_in {n : Int} (h : (Lit.int .u8 n).wf = true) : 0 ≤ n ∧ n < 256 := by
  simp [Lit.wf, IntKind.min, IntKind.max, IntKind.signed, IntKind.bits] at h
  exact ⟨by omega, by omega⟩
section
variable {H : Type} {enc : TypeId × Value → H} {P : Program} {w : World} {base : Nat} {spare : Nat → Bool} {held : Bool}
theorem one_int {t : TypeId} {k : IntKind} {n : Nat} {v : Value} {x : DataW H × List MemPlace} (ht : P.underlying t = some (.int k)) (h : DataW.trod enc P w base spare held n t [v] = some x) : ∃ a, v = .int k a ∧ (Lit.int k a).wf = true := by
  obtain ⟨a, e, _, wf⟩ := DataW.trod_int ht h
  exact ⟨a, by simpa using e, wf⟩
theorem one_string {t : TypeId} {n : Nat} {v : Value} {x : DataW H × List MemPlace} (ht : P.underlying t = some .string) (h : DataW.trod enc P w base spare held n t [v] = some x) : ∃ a : ByteArray, v = .string a ∧ a.size ≤ maxLen := by
  obtain ⟨a, e, _, hs⟩ := DataW.trod_string ht h
  exact ⟨a, by simpa using e, hs⟩
end
theorem ad_block (a : Addr) (n : Nat) : (a.add n).block = a.block := by unfold Addr.add; split <;> rfl
structure SR where
  c : Int
  k : ByteArray
  a : Int
  m : Int
  n : Int
/-- A slice holds these. -/
def SRs (w : World) (B : Nat) (A : Option Addr) (n : Nat) (L : List SR) : Prop :=
  L.length = n ∧ (0 < n → ∃ ad, A = some ad ∧ ad.block < B ∧ ∀ k r, L[k]? = some r → w.cell? (ad.add (k * 5)) = some (.int .u8 r.c) ∧ w.cell? ((ad.add (k * 5)).add 1) = some (.string r.k) ∧ w.cell? ((ad.add (k * 5)).add 2) = some (.int .i64 r.a) ∧ w.cell? ((ad.add (k * 5)).add 3) = some (.int .i64 r.m) ∧ w.cell? ((ad.add (k * 5)).add 4) = some (.int .i64 r.n))
theorem SRs.keep {w w' : World} {B n : Nat} {A : Option Addr} {L : List SR} (h : SRs w B A n L) (hk : ∀ p : Addr, p.block < B → w'.cell? p = w.cell? p) : SRs w' B A n L :=
  ⟨h.1, fun hn => by
    obtain ⟨ad, e, hb, hc⟩ := h.2 hn
    refine ⟨ad, e, hb, fun k r hr => ?_⟩
    obtain ⟨c0, c1, c2, c3, c4⟩ := hc k r hr
    refine ⟨?_, ?_, ?_, ?_, ?_⟩ <;> (rw [hk _ (by simp only [ad_block]; exact hb)]; assumption)⟩
theorem SRs.below {w w' : World} {B n : Nat} {A : Option Addr} {L : List SR} (h : SRs w B A n L) (hb : Below B w w') : SRs w' B A n L := h.keep fun _ hp => hb.cell hp
theorem SRs.at {w : World} {B n : Nat} {A : Option Addr} {L : List SR} (h : SRs w B A n L) {k : Nat} (hk : k < n) :
    ∃ ad r p, A = some ad ∧ L[k]? = some r ∧ ad.add (k * 5) = p ∧ p.block < B ∧ w.cell? p = some (.int .u8 r.c) ∧ w.cell? ⟨p.block, p.off + 1, none⟩ = some (.string r.k) ∧ w.cell? ⟨p.block, p.off + 2, none⟩ = some (.int .i64 r.a) ∧ w.cell? ⟨p.block, p.off + 3, none⟩ = some (.int .i64 r.m) ∧ w.cell? ⟨p.block, p.off + 4, none⟩ = some (.int .i64 r.n) := by
  obtain ⟨ad, e, hb, hc⟩ := h.2 (by omega)
  have hl : k < L.length := by have := h.1; omega
  obtain ⟨c0, c1, c2, c3, c4⟩ := hc k L[k] (List.getElem?_eq_getElem hl)
  exact ⟨ad, L[k], _, e, List.getElem?_eq_getElem hl, rfl, by rw [ad_block]; exact hb, c0, c1, c2, c3, c4⟩
theorem cells_SR : Try.prog.cellsOf 32 = 5 := by kernel_rfl
theorem elem5 {H : Type} {enc : TypeId × Value → H} {P : Program} {w : World} {base : Nat} {spare : Nat → Bool} {held : Bool} {fuel : Nat} {t : TypeId} {f0 f1 f2 f3 f4 : Field} {cs : List Value} {x : DataW H × List MemPlace} (hs : P.underlying t = some (.struct #[f0, f1, f2, f3, f4])) (hone : oneCellFields P #[f0, f1, f2, f3, f4] = true) (hl : cs.length = 5) (h : DataW.trod enc P w base spare held fuel t cs = some x) :
    ∃ (v0 v1 v2 v3 v4 : Value) (y0 y1 y2 y3 y4 : DataW H × List MemPlace) (n : Nat), cs = [v0, v1, v2, v3, v4] ∧
      DataW.trod enc P w base spare held n f0.type [v0] = some y0 ∧ DataW.trod enc P w base spare held n f1.type [v1] = some y1 ∧ DataW.trod enc P w base spare held n f2.type [v2] = some y2 ∧ DataW.trod enc P w base spare held n f3.type [v3] = some y3 ∧ DataW.trod enc P w base spare held n f4.type [v4] = some y4 := by
  match cs, hl with
  | [c0, c1, c2, c3, c4], _ =>
    obtain ⟨xs, n, _, hx, _, hlen, hg⟩ := DataW.trod_struct hs h
    obtain ⟨o0, k0⟩ := hone_of hone 0 f0 rfl
    obtain ⟨o1, k1⟩ := hone_of hone 1 f1 rfl
    obtain ⟨o2, k2⟩ := hone_of hone 2 f2 rfl
    obtain ⟨o3, k3⟩ := hone_of hone 3 f3 rfl
    obtain ⟨o4, k4⟩ := hone_of hone 4 f4 rfl
    match xs, hlen with
    | [y0, y1, y2, y3, y4], _ =>
      exact ⟨c0, c1, c2, c3, c4, y0, y1, y2, y3, y4, n, rfl, by simpa [o0, k0] using hg 0 f0 rfl, by simpa [o1, k1] using hg 1 f1 rfl, by simpa [o2, k2] using hg 2 f2 rfl, by simpa [o3, k3] using hg 3 f3 rfl, by simpa [o4, k4] using hg 4 f4 rfl⟩
def okSR (r : SR) : Prop := (Lit.int .u8 r.c).wf = true ∧ r.k.size ≤ maxLen ∧ (Lit.int .i64 r.a).wf = true ∧ (Lit.int .i64 r.m).wf = true ∧ (Lit.int .i64 r.n).wf = true
set_option maxRecDepth 8000 in
theorem elem_SR {H : Type} {enc : TypeId × Value → H} {w : World} {base : Nat} {spare : Nat → Bool} {held : Bool} {fuel : Nat} {cs : List Value} {x : DataW H × List MemPlace} (hl : cs.length = 5) (h : DataW.trod enc Try.prog w base spare held fuel 32 cs = some x) :
    ∃ r : SR, cs = [.int .u8 r.c, .string r.k, .int .i64 r.a, .int .i64 r.m, .int .i64 r.n] ∧ okSR r := by
  obtain ⟨v0, v1, v2, v3, v4, y0, y1, y2, y3, y4, n, rfl, g0, g1, g2, g3, g4⟩ := elem5 Try.underlying32 (by kernel_rfl) hl h
  obtain ⟨c', rfl, w0⟩ := one_int Try.underlying5 g0
  obtain ⟨k', rfl, w1⟩ := one_string Try.underlying9 g1
  obtain ⟨a', rfl, w2⟩ := one_int Try.underlying3 g2
  obtain ⟨m', rfl, w3⟩ := one_int Try.underlying2 g3
  obtain ⟨n', rfl, w4⟩ := one_int Try.underlying3 g4
  exact ⟨⟨c', k', a', m', n'⟩, rfl, w0, w1, w2, w3, w4⟩
set_option maxRecDepth 8000 in
theorem open_SR {H : Type} {enc : TypeId × Value → H} {w : World} {base : Nat} {spare : Nat → Bool} {held : Bool} {fuel : Nat} {u : Value} {x : DataW H × List MemPlace} (h : DataW.trod enc Try.prog w base spare held fuel 22 [u] = some x) :
    ∃ (A : Option Addr) (k c : Nat) (L : List SR), u = .slice A k c ∧ k ≤ maxLen ∧ k ≤ c ∧ SRs w w.heap.size A k L ∧ ∀ r ∈ L, okSR r := by
  rcases open_slice Try.underlying22 h with ⟨hcs, _⟩ | ⟨a, len, cap, m, n, D, Pl, hcs, hb, hl, hm, hmm, _, hi⟩
  · cases hcs
    exact ⟨none, 0, 0, [], rfl, Nat.zero_le _, Nat.le_refl _, ⟨rfl, fun h => absurd h (by omega)⟩, fun r hr => by cases hr⟩
  · cases hcs
    have each : ∀ i, ∃ r : SR, i < len → ((w.cell? (a.add (i * 5)) = some (.int .u8 r.c) ∧ w.cell? ((a.add (i * 5)).add 1) = some (.string r.k) ∧ w.cell? ((a.add (i * 5)).add 2) = some (.int .i64 r.a) ∧ w.cell? ((a.add (i * 5)).add 3) = some (.int .i64 r.m) ∧ w.cell? ((a.add (i * 5)).add 4) = some (.int .i64 r.n)) ∧ okSR r) := by
      intro i
      by_cases hlt : i < len
      · have him : i < m := by rw [hmm]; split <;> omega
        obtain ⟨cs, hc, ht⟩ := hi i him
        rw [cells_SR] at hc
        obtain ⟨_, hcl, hat⟩ := World.cells?_some hc
        obtain ⟨r, rfl, s1⟩ := elem_SR hcl ht
        exact ⟨r, fun _ => ⟨⟨by simpa [Addr.add] using hat 0 (by omega), hat 1 (by omega), hat 2 (by omega), hat 3 (by omega), hat 4 (by omega)⟩, s1⟩⟩
      · exact ⟨⟨0, ⟨#[]⟩, 0, 0, 0⟩, fun h => absurd h hlt⟩
    obtain ⟨R, hR⟩ := Classical.axiomOfChoice each
    refine ⟨some a, len, cap, (List.range len).map R, rfl, by omega, hl, ⟨by simp, fun hn => ⟨a, rfl, ?_, fun k r hr => ?_⟩⟩, fun r hr => ?_⟩
    · have h0 := ((hR 0 hn).1).1
      rcases Nat.lt_or_ge a.block w.heap.size with hlt | hge
      · exact hlt
      · exfalso
        have : (a.add (0 * 5)).block = a.block := ad_block a _
        simp [World.cell?, this, Array.getElem?_eq_none hge] at h0
    · have hk : k < len := by
        have := (List.getElem?_eq_some_iff.1 hr).1
        simpa using this
      have : r = R k := by
        rw [List.getElem?_map, List.getElem?_range hk] at hr
        simpa using hr.symm
      subst this
      exact (hR k hk).1
    · obtain ⟨k, hk, rfl⟩ := List.mem_map.1 hr
      exact (hR k (List.mem_range.1 hk)).2
set_option maxRecDepth 8000 in
theorem open_SRT {H : Type} {enc : TypeId × Value → H} {w : World} {base : Nat} {spare : Nat → Bool} {held : Bool} {u : Value} {d : DataW H} {pl : List MemPlace} {rr : Reach} {b0 : Nat} (hv : Value.okWide Try.prog w rr b0 22 u) (h0 : DataW.Trod enc Try.prog w base spare held 22 u d pl) :
    ∃ (A : Option Addr) (k c : Nat) (L : List SR), u = .slice A k c ∧ k ≤ maxLen ∧ k ≤ c ∧ SRs w w.heap.size A k L ∧ ∀ r ∈ L, okSR r := by
  obtain ⟨A0, len, cap, rfl⟩ := okWide_slice Try.underlying22 hv
  obtain ⟨fuel, h⟩ := h0
  exact open_SR (u := .slice A0 len cap) (by simpa [Value.cells] using h)
end Go.Proofs.Ytkfiekpinojahab
