/-
  OPENING A LIST OF FIELDS THAT COMES IN.
-/
import Derived.Test.YtjemljhfopgmiaaDoorW25
import Derived.ProofKit
import Derived.OpenShut
import Derived.Lib.SmallJoins
import Derived.Deep.Slices
import Derived.Deep.Fields
namespace Go.Proofs.YtjemljhfopgmiaaDoor
open Go.Joins Go.ChangeShapes Go.WideShapes Go.RowKit Go.Deep
set_option linter.unusedVariables false
section
variable {H : Type} {enc : TypeId × Value → H} {P : Program} {w : World} {base : Nat} {spare : Nat → Bool} {held : Bool}
theorem one_int {t : TypeId} {k : IntKind} {n : Nat} {v : Value} {x : DataW H × List MemPlace} (ht : P.underlying t = some (.int k)) (h : DataW.trod enc P w base spare held n t [v] = some x) : ∃ a, v = .int k a ∧ (Lit.int k a).wf = true := by
  obtain ⟨a, e, _, wf⟩ := DataW.trod_int ht h
  exact ⟨a, by simpa using e, wf⟩
theorem one_bool {t : TypeId} {n : Nat} {v : Value} {x : DataW H × List MemPlace} (ht : P.underlying t = some .bool) (h : DataW.trod enc P w base spare held n t [v] = some x) : ∃ a, v = .bool a := by
  obtain ⟨a, e, _⟩ := DataW.trod_bool ht h
  exact ⟨a, by simpa using e⟩
theorem one_string {t : TypeId} {n : Nat} {v : Value} {x : DataW H × List MemPlace} (ht : P.underlying t = some .string) (h : DataW.trod enc P w base spare held n t [v] = some x) : ∃ a : ByteArray, v = .string a ∧ a.size ≤ maxLen := by
  obtain ⟨a, e, _, hs⟩ := DataW.trod_string ht h
  exact ⟨a, by simpa using e, hs⟩
end
structure FR where
  o : Int
  n : Int
  t : ByteArray
  d : Int
theorem ad_block (a : Addr) (n : Nat) : (a.add n).block = a.block := by unfold Addr.add; split <;> rfl
/-- A slice holds these fields. -/
def Fds (w : World) (B : Nat) (A : Option Addr) (n : Nat) (L : List FR) : Prop :=
  L.length = n ∧ (0 < n → ∃ ad, A = some ad ∧ ad.block < B ∧ ∀ k r, L[k]? = some r → w.cell? (ad.add (k * 4)) = some (.int .u8 r.o) ∧ w.cell? ((ad.add (k * 4)).add 1) = some (.int .i64 r.n) ∧ w.cell? ((ad.add (k * 4)).add 2) = some (.string r.t) ∧ w.cell? ((ad.add (k * 4)).add 3) = some (.int .i64 r.d))
theorem Fds.keep {w w' : World} {B n : Nat} {A : Option Addr} {L : List FR} (h : Fds w B A n L) (hk : ∀ p : Addr, p.block < B → w'.cell? p = w.cell? p) : Fds w' B A n L :=
  ⟨h.1, fun hn => by
    obtain ⟨ad, e, hb, hc⟩ := h.2 hn
    refine ⟨ad, e, hb, fun k r hr => ?_⟩
    obtain ⟨c0, c1, c2, c3⟩ := hc k r hr
    refine ⟨?_, ?_, ?_, ?_⟩ <;> (rw [hk _ (by simp only [ad_block]; exact hb)]; assumption)⟩
theorem Fds.below {w w' : World} {B n : Nat} {A : Option Addr} {L : List FR} (h : Fds w B A n L) (hb : Below B w w') : Fds w' B A n L := h.keep fun _ hp => hb.cell hp
theorem Fds.at {w : World} {B n : Nat} {A : Option Addr} {L : List FR} (h : Fds w B A n L) {k : Nat} (hk : k < n) :
    ∃ ad r p, A = some ad ∧ L[k]? = some r ∧ ad.add (k * 4) = p ∧ p.block < B ∧ w.cell? p = some (.int .u8 r.o) ∧ w.cell? ⟨p.block, p.off + 1, none⟩ = some (.int .i64 r.n) ∧ w.cell? ⟨p.block, p.off + 2, none⟩ = some (.string r.t) ∧ w.cell? ⟨p.block, p.off + 3, none⟩ = some (.int .i64 r.d) := by
  obtain ⟨ad, e, hb, hc⟩ := h.2 (by omega)
  have hl : k < L.length := by have := h.1; omega
  obtain ⟨c0, c1, c2, c3⟩ := hc k L[k] (List.getElem?_eq_getElem hl)
  exact ⟨ad, L[k], _, e, List.getElem?_eq_getElem hl, rfl, by rw [ad_block]; exact hb, c0, c1, c2, c3⟩
theorem cells_field : Tryd.prog.cellsOf 32 = 4 := by kernel_rfl
theorem elem4 {H : Type} {enc : TypeId × Value → H} {P : Program} {w : World} {base : Nat} {spare : Nat → Bool} {held : Bool} {fuel : Nat} {t : TypeId} {f0 f1 f2 f3 : Field} {cs : List Value} {x : DataW H × List MemPlace} (hs : P.underlying t = some (.struct #[f0, f1, f2, f3])) (hone : oneCellFields P #[f0, f1, f2, f3] = true) (hl : cs.length = 4) (h : DataW.trod enc P w base spare held fuel t cs = some x) :
    ∃ (v0 v1 v2 v3 : Value) (y0 y1 y2 y3 : DataW H × List MemPlace) (n : Nat), cs = [v0, v1, v2, v3] ∧
      DataW.trod enc P w base spare held n f0.type [v0] = some y0 ∧ DataW.trod enc P w base spare held n f1.type [v1] = some y1 ∧ DataW.trod enc P w base spare held n f2.type [v2] = some y2 ∧ DataW.trod enc P w base spare held n f3.type [v3] = some y3 := by
  match cs, hl with
  | [c0, c1, c2, c3], _ =>
    obtain ⟨xs, n, _, hx, _, hlen, hg⟩ := DataW.trod_struct hs h
    obtain ⟨o0, k0⟩ := hone_of hone 0 f0 rfl
    obtain ⟨o1, k1⟩ := hone_of hone 1 f1 rfl
    obtain ⟨o2, k2⟩ := hone_of hone 2 f2 rfl
    obtain ⟨o3, k3⟩ := hone_of hone 3 f3 rfl
    match xs, hlen with
    | [y0, y1, y2, y3], _ =>
      exact ⟨c0, c1, c2, c3, y0, y1, y2, y3, n, rfl, by simpa [o0, k0] using hg 0 f0 rfl, by simpa [o1, k1] using hg 1 f1 rfl, by simpa [o2, k2] using hg 2 f2 rfl, by simpa [o3, k3] using hg 3 f3 rfl⟩
/-- A field of any values. -/
def okF (r : FR) : Prop := (Lit.int .u8 r.o).wf = true ∧ (Lit.int .i64 r.n).wf = true ∧ r.t.size ≤ maxLen ∧ (Lit.int .i64 r.d).wf = true
set_option maxRecDepth 8000 in
theorem elem_field {H : Type} {enc : TypeId × Value → H} {w : World} {base : Nat} {spare : Nat → Bool} {held : Bool} {fuel : Nat} {cs : List Value} {x : DataW H × List MemPlace} (hl : cs.length = 4) (h : DataW.trod enc Tryd.prog w base spare held fuel 32 cs = some x) :
    ∃ r : FR, cs = [.int .u8 r.o, .int .i64 r.n, .string r.t, .int .i64 r.d] ∧ okF r := by
  obtain ⟨v0, v1, v2, v3, y0, y1, y2, y3, n, rfl, g0, g1, g2, g3⟩ := elem4 Tryd.underlying32 (by kernel_rfl) hl h
  obtain ⟨o, rfl, w0⟩ := one_int Tryd.underlying5 g0
  obtain ⟨m, rfl, w1⟩ := one_int Tryd.underlying2 g1
  obtain ⟨t, rfl, w2⟩ := one_string Tryd.underlying9 g2
  obtain ⟨d, rfl, w3⟩ := one_int Tryd.underlying3 g3
  exact ⟨⟨o, m, t, d⟩, rfl, w0, w1, w2, w3⟩
def zeroF : FR := ⟨0, 0, ByteArray.empty, 0⟩
set_option maxRecDepth 8000 in
theorem open_fields {H : Type} {enc : TypeId × Value → H} {w : World} {base : Nat} {spare : Nat → Bool} {held : Bool} {fuel : Nat} {u : Value} {x : DataW H × List MemPlace} (h : DataW.trod enc Tryd.prog w base spare held fuel 30 [u] = some x) :
    ∃ (A : Option Addr) (k c : Nat) (L : List FR), u = .slice A k c ∧ k ≤ maxLen ∧ k ≤ c ∧ Fds w w.heap.size A k L ∧ ∀ r ∈ L, okF r := by
  rcases open_slice Tryd.underlying30 h with ⟨hcs, _⟩ | ⟨a, len, cap, m, n, D, Pl, hcs, hb, hl, hm, hmm, _, hi⟩
  · cases hcs
    exact ⟨none, 0, 0, [], rfl, Nat.zero_le _, Nat.le_refl _, ⟨rfl, fun h => absurd h (by omega)⟩, fun r hr => by cases hr⟩
  · cases hcs
    have each : ∀ i, ∃ r : FR, i < len → ((w.cell? (a.add (i * 4)) = some (.int .u8 r.o) ∧ w.cell? ((a.add (i * 4)).add 1) = some (.int .i64 r.n) ∧ w.cell? ((a.add (i * 4)).add 2) = some (.string r.t) ∧ w.cell? ((a.add (i * 4)).add 3) = some (.int .i64 r.d)) ∧ okF r) := by
      intro i
      by_cases hlt : i < len
      · have him : i < m := by rw [hmm]; split <;> omega
        obtain ⟨cs, hc, ht⟩ := hi i him
        rw [cells_field] at hc
        obtain ⟨_, hcl, hat⟩ := World.cells?_some hc
        obtain ⟨r, rfl, s1⟩ := elem_field hcl ht
        exact ⟨r, fun _ => ⟨⟨by simpa [Addr.add] using hat 0 (by omega), hat 1 (by omega), hat 2 (by omega), hat 3 (by omega)⟩, s1⟩⟩
      · exact ⟨zeroF, fun h => absurd h hlt⟩
    obtain ⟨R, hR⟩ := Classical.axiomOfChoice each
    refine ⟨some a, len, cap, (List.range len).map R, rfl, by omega, hl, ⟨by simp, fun hn => ⟨a, rfl, ?_, fun k r hr => ?_⟩⟩, fun r hr => ?_⟩
    · have h0 := ((hR 0 hn).1).1
      rcases Nat.lt_or_ge a.block w.heap.size with hlt | hge
      · exact hlt
      · exfalso
        have : (a.add (0 * 4)).block = a.block := ad_block a _
        simp [World.cell?, this, Array.getElem?_eq_none hge] at h0
    · have hk : k < len := by
        have := (List.getElem?_eq_some_iff.1 hr).1
        simpa using this
      have : r = R k := by
        rw [List.getElem?_map, List.getElem?_range hk] at hr
        simpa using hr.symm
      subst this
      exact (hR k hk).1
    · obtain ⟨k, hk, rfl⟩ := List.mem_map.1 hr
      exact (hR k (List.mem_range.1 hk)).2
end Go.Proofs.YtjemljhfopgmiaaDoor
