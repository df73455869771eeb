/-
  OPENING what comes in: an Ask, a list of bytes; the names of the keys.
-/
import Derived.Test.YtkfiekpinojahabVK8
import Derived.ProofKit
import Derived.OpenShut
import Derived.Lib.SmallJoins
import Derived.Deep.Slices
import Derived.Deep.Fields
namespace Go.Proofs.Ytkfiekpinojahab
open Go.Joins Go.ChangeShapes Go.WideShapes Go.RowKit Go.Deep
set_option linter.unusedVariables false
section
variable {H : Type} {enc : TypeId × Value → H} {P : Program} {w : World} {base : Nat} {spare : Nat → Bool} {held : Bool}
theorem open_agg4 {r : Reach} {b0 : Nat} {t : TypeId} {f0 f1 f2 f3 : Field} {v : Value} {d : DataW H} {p : List MemPlace} (hs : P.underlying t = some (.struct #[f0, f1, f2, f3])) (hone : oneCellFields P #[f0, f1, f2, f3] = true) (hC : P.cellsOf t = 4)
    (hv : Value.okWide P w r b0 t v) (h : DataW.Trod enc P w base spare held t v d p) :
    ∃ (v0 v1 v2 v3 : Value) (y0 y1 y2 y3 : DataW H × List MemPlace) (n : Nat), v = .agg #[v0, v1, v2, v3] ∧
      DataW.trod enc P w base spare held n f0.type [v0] = some y0 ∧ DataW.trod enc P w base spare held n f1.type [v1] = some y1 ∧ DataW.trod enc P w base spare held n f2.type [v2] = some y2 ∧ DataW.trod enc P w base spare held n f3.type [v3] = some y3 := by
  obtain ⟨cs, rfl, hsz⟩ := okWide_struct hs hv
  obtain ⟨l⟩ := cs
  match l, hsz.trans hC with
  | [c0, c1, c2, c3], _ =>
    obtain ⟨fuel, hf⟩ := h
    obtain ⟨xs, n, _, hx, _, hlen, hg⟩ := DataW.trod_struct hs hf
    obtain ⟨o0, k0⟩ := hone_of hone 0 f0 rfl
    obtain ⟨o1, k1⟩ := hone_of hone 1 f1 rfl
    obtain ⟨o2, k2⟩ := hone_of hone 2 f2 rfl
    obtain ⟨o3, k3⟩ := hone_of hone 3 f3 rfl
    match xs, hlen with
    | [y0, y1, y2, y3], _ =>
      exact ⟨c0, c1, c2, c3, y0, y1, y2, y3, n, rfl, by simpa [Value.cells, o0, k0] using hg 0 f0 rfl, by simpa [Value.cells, o1, k1] using hg 1 f1 rfl, by simpa [Value.cells, o2, k2] using hg 2 f2 rfl, by simpa [Value.cells, o3, k3] using hg 3 f3 rfl⟩
theorem open_agg2 {r : Reach} {b0 : Nat} {t : TypeId} {f0 f1 : Field} {v : Value} {d : DataW H} {p : List MemPlace} (hs : P.underlying t = some (.struct #[f0, f1])) (hone : oneCellFields P #[f0, f1] = true) (hC : P.cellsOf t = 2)
    (hv : Value.okWide P w r b0 t v) (h : DataW.Trod enc P w base spare held t v d p) :
    ∃ (v0 v1 : Value) (y0 y1 : DataW H × List MemPlace) (n : Nat), v = .agg #[v0, v1] ∧
      DataW.trod enc P w base spare held n f0.type [v0] = some y0 ∧ DataW.trod enc P w base spare held n f1.type [v1] = some y1 := by
  obtain ⟨cs, rfl, hsz⟩ := okWide_struct hs hv
  obtain ⟨l⟩ := cs
  match l, hsz.trans hC with
  | [c0, c1], _ =>
    obtain ⟨fuel, hf⟩ := h
    obtain ⟨xs, n, _, hx, _, hlen, hg⟩ := DataW.trod_struct hs hf
    obtain ⟨o0, k0⟩ := hone_of hone 0 f0 rfl
    obtain ⟨o1, k1⟩ := hone_of hone 1 f1 rfl
    match xs, hlen with
    | [y0, y1], _ =>
      exact ⟨c0, c1, y0, y1, n, rfl, by simpa [Value.cells, o0, k0] using hg 0 f0 rfl, by simpa [Value.cells, o1, k1] using hg 1 f1 rfl⟩
theorem one_int {t : TypeId} {k : IntKind} {n : Nat} {v : Value} {x : DataW H × List MemPlace} (ht : P.underlying t = some (.int k)) (h : DataW.trod enc P w base spare held n t [v] = some x) : ∃ a, v = .int k a ∧ (Lit.int k a).wf = true := by
  obtain ⟨a, e, _, wf⟩ := DataW.trod_int ht h
  exact ⟨a, by simpa using e, wf⟩
theorem one_bool {t : TypeId} {n : Nat} {v : Value} {x : DataW H × List MemPlace} (ht : P.underlying t = some .bool) (h : DataW.trod enc P w base spare held n t [v] = some x) : ∃ a, v = .bool a := by
  obtain ⟨a, e, _⟩ := DataW.trod_bool ht h
  exact ⟨a, by simpa using e⟩
theorem one_string {t : TypeId} {n : Nat} {v : Value} {x : DataW H × List MemPlace} (ht : P.underlying t = some .string) (h : DataW.trod enc P w base spare held n t [v] = some x) : ∃ a : ByteArray, v = .string a ∧ a.size ≤ maxLen := by
  obtain ⟨a, e, _, hs⟩ := DataW.trod_string ht h
  exact ⟨a, by simpa using e, hs⟩
end
theorem ad_block (a : Addr) (n : Nat) : (a.add n).block = a.block := by unfold Addr.add; split <;> rfl
theorem u8_in {n : Int} (h : (Lit.int .u8 n).wf = true) : 0 ≤ n ∧ n < 256 := by
  simp [Lit.wf, IntKind.min, IntKind.max, IntKind.signed, IntKind.bits] at h
  exact ⟨by omega, by omega⟩
theorem u16_in {n : Int} (h : (Lit.int .u16 n).wf = true) : 0 ≤ n ∧ n < 65536 := by
  simp [Lit.wf, IntKind.min, IntKind.max, IntKind.signed, IntKind.bits] at h
  exact ⟨by omega, by omega⟩
/-- A slice holds these bytes. -/
def Us (w : World) (B : Nat) (A : Option Addr) (n : Nat) (L : List Int) : Prop :=
  L.length = n ∧ (0 < n → ∃ ad, A = some ad ∧ ad.block < B ∧ ∀ k x, L[k]? = some x → w.cell? (ad.add k) = some (.int .u8 x))
theorem Us.below {w w' : World} {B n : Nat} {A : Option Addr} {L : List Int} (h : Us w B A n L) (hb : Below B w w') : Us w' B A n L :=
  ⟨h.1, fun hn => by
    obtain ⟨ad, e, hB, hc⟩ := h.2 hn
    exact ⟨ad, e, hB, fun k x hx => (hb.cell (by rw [ad_block]; exact hB)).trans (hc k x hx)⟩⟩
theorem Us.at {w : World} {B n : Nat} {A : Option Addr} {L : List Int} (h : Us w B A n L) {k : Nat} (hk : k < n) : ∃ ad x p, A = some ad ∧ L[k]? = some x ∧ ad.add k = p ∧ p.block < B ∧ w.cell? p = some (.int .u8 x) := by
  obtain ⟨ad, e, hb, hc⟩ := h.2 (by omega)
  have hl : k < L.length := by have := h.1; omega
  exact ⟨ad, L[k], _, e, List.getElem?_eq_getElem hl, rfl, by rw [ad_block]; exact hb, hc k _ (List.getElem?_eq_getElem hl)⟩
theorem cells_u8 : Try.prog.cellsOf 5 = 1 := by kernel_rfl
set_option maxRecDepth 8000 in
theorem open_u8 {H : Type} {enc : TypeId × Value → H} {w : World} {base : Nat} {spare : Nat → Bool} {held : Bool} {fuel : Nat} {u : Value} {x : DataW H × List MemPlace} (h : DataW.trod enc Try.prog w base spare held fuel 41 [u] = some x) :
    ∃ (A : Option Addr) (k c : Nat) (L : List Int), u = .slice A k c ∧ k ≤ maxLen ∧ k ≤ c ∧ Us w w.heap.size A k L ∧ ∀ r ∈ L, 0 ≤ r ∧ r < 256 := by
  rcases open_slice Try.underlying41 h with ⟨hcs, _⟩ | ⟨a, len, cap, m, n, D, Pl, hcs, hb, hl, hm, hmm, _, hi⟩
  · cases hcs
    exact ⟨none, 0, 0, [], rfl, Nat.zero_le _, Nat.le_refl _, ⟨rfl, fun h => absurd h (by omega)⟩, fun r hr => by cases hr⟩
  · cases hcs
    have each : ∀ i, ∃ r : Int, i < len → (w.cell? (a.add i) = some (.int .u8 r) ∧ 0 ≤ r ∧ r < 256) := by
      intro i
      by_cases hlt : i < len
      · have him : i < m := by rw [hmm]; split <;> omega
        obtain ⟨cs, hc, ht⟩ := hi i him
        rw [cells_u8, Nat.mul_one] at hc
        obtain ⟨_, hcl, hat⟩ := World.cells?_some hc
        match cs, hcl with
        | [c0], _ =>
          obtain ⟨r, rfl, hw⟩ := one_int Try.underlying5 ht
          exact ⟨r, fun _ => ⟨by simpa [Addr.add] using hat 0 (by omega), u8_in hw⟩⟩
      · exact ⟨0, fun h => absurd h hlt⟩
    obtain ⟨R, hR⟩ := Classical.axiomOfChoice each
    refine ⟨some a, len, cap, (List.range len).map R, rfl, by omega, hl, ⟨by simp, fun hn => ⟨a, rfl, ?_, fun k r hr => ?_⟩⟩, fun r hr => ?_⟩
    · have h0 := (hR 0 hn).1
      rcases Nat.lt_or_ge a.block w.heap.size with hlt | hge
      · exact hlt
      · exfalso
        have : (a.add 0).block = a.block := ad_block a _
        simp [World.cell?, this, Array.getElem?_eq_none hge] at h0
    · have hk : k < len := by
        have := (List.getElem?_eq_some_iff.1 hr).1
        simpa using this
      have : r = R k := by
        rw [List.getElem?_map, List.getElem?_range hk] at hr
        simpa using hr.symm
      subst this
      exact (hR k hk).1
    · obtain ⟨k, hk, rfl⟩ := List.mem_map.1 hr
      exact (hR k (List.mem_range.1 hk)).2
set_option maxRecDepth 8000 in
theorem open_u8T {H : Type} {enc : TypeId × Value → H} {w : World} {base : Nat} {spare : Nat → Bool} {held : Bool} {u : Value} {d : DataW H} {pl : List MemPlace} {rr : Reach} {b0 : Nat} (hv : Value.okWide Try.prog w rr b0 41 u) (h0 : DataW.Trod enc Try.prog w base spare held 41 u d pl) :
    ∃ (A : Option Addr) (k c : Nat) (L : List Int), u = .slice A k c ∧ k ≤ maxLen ∧ k ≤ c ∧ Us w w.heap.size A k L ∧ ∀ r ∈ L, 0 ≤ r ∧ r < 256 := by
  obtain ⟨A0, len, cap, rfl⟩ := okWide_slice Try.underlying41 hv
  obtain ⟨fuel, h⟩ := h0
  exact open_u8 (u := .slice A0 len cap) (by simpa [Value.cells] using h)
theorem name_any (i : Nat) (w : World) : Calls Try.prog 24 #[.int .i64 (i : Int)] w fun e w' => e = .returned (.string (nmS i)) ∧ w = w' := by
  unfold nmS evenB oddB
  by_cases h : i % 2 = 0
  · have h1 : (i : Int) % 2 = 0 := by omega
    rw [if_pos h]
    clear h
    go_enter Try.func24, Try.ntmps24
    go_wp2
    go_ret
    exact ⟨rfl, rfl⟩
  · have h1 : (i : Int) % 2 = 1 := by omega
    rw [if_neg h]
    clear h
    go_enter Try.func24, Try.ntmps24
    go_wp2
    go_ret
    exact ⟨rfl, rfl⟩
end Go.Proofs.Ytkfiekpinojahab
