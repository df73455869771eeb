/-
  CONTRACTS of LexerScanners: a list of steps that comes in; two scanners side by side.
-/
import Derived.Test.YtklogijbdpghpaaDoorLS3
namespace Go.Proofs.YtklogijbdpghpaaDoor
open Go.Joins Go.ChangeShapes Go.WideShapes Go.RowKit Go.Deep
set_option linter.unusedVariables false
set_option linter.unusedSimpArgs false
theorem u8_in {n : Int} (h : (Lit.int .u8 n).wf = true) : 0 ≤ n ∧ n < 256 := by
  simp [Lit.wf, IntKind.min, IntKind.max, IntKind.signed, IntKind.bits] at h
  exact ⟨by omega, by omega⟩
theorem elem2 {H : Type} {enc : TypeId × Value → H} {P : Program} {w : World} {base : Nat} {spare : Nat → Bool} {held : Bool} {fuel : Nat} {t : TypeId} {f0 f1 : Field} {cs : List Value} {x : DataW H × List MemPlace} (hs : P.underlying t = some (.struct #[f0, f1])) (hone : oneCellFields P #[f0, f1] = true) (hl : cs.length = 2) (h : DataW.trod enc P w base spare held fuel t cs = some x) :
    ∃ (v0 v1 : Value) (y0 y1 : DataW H × List MemPlace) (n : Nat), cs = [v0, v1] ∧
      DataW.trod enc P w base spare held n f0.type [v0] = some y0 ∧ DataW.trod enc P w base spare held n f1.type [v1] = some y1 := by
  match cs, hl with
  | [c0, c1], _ =>
    obtain ⟨xs, n, _, hx, _, hlen, hg⟩ := DataW.trod_struct hs h
    obtain ⟨o0, k0⟩ := hone_of hone 0 f0 rfl
    obtain ⟨o1, k1⟩ := hone_of hone 1 f1 rfl
    match xs, hlen with
    | [y0, y1], _ =>
      exact ⟨c0, c1, y0, y1, n, rfl, by simpa [o0, k0] using hg 0 f0 rfl, by simpa [o1, k1] using hg 1 f1 rfl⟩
structure ST where
  c : Int
  t : ByteArray
/-- A slice holds these. -/
def STs (w : World) (B : Nat) (A : Option Addr) (n : Nat) (L : List ST) : Prop :=
  L.length = n ∧ (0 < n → ∃ ad, A = some ad ∧ ad.block < B ∧ ∀ k r, L[k]? = some r → w.cell? (ad.add (k * 2)) = some (.int .u8 r.c) ∧ w.cell? ((ad.add (k * 2)).add 1) = some (.string r.t))
theorem STs.keep {w w' : World} {B n : Nat} {A : Option Addr} {L : List ST} (h : STs w B A n L) (hk : ∀ p : Addr, p.block < B → w'.cell? p = w.cell? p) : STs w' B A n L :=
  ⟨h.1, fun hn => by
    obtain ⟨ad, e, hb, hc⟩ := h.2 hn
    refine ⟨ad, e, hb, fun k r hr => ?_⟩
    obtain ⟨c0, c1⟩ := hc k r hr
    refine ⟨?_, ?_⟩ <;> (rw [hk _ (by simp only [ad_block]; exact hb)]; assumption)⟩
theorem STs.below {w w' : World} {B n : Nat} {A : Option Addr} {L : List ST} (h : STs w B A n L) (hb : Below B w w') : STs w' B A n L := h.keep fun _ hp => hb.cell hp
theorem STs.at {w : World} {B n : Nat} {A : Option Addr} {L : List ST} (h : STs w B A n L) {k : Nat} (hk : k < n) :
    ∃ ad r p, A = some ad ∧ L[k]? = some r ∧ ad.add (k * 2) = p ∧ p.block < B ∧ w.cell? p = some (.int .u8 r.c) ∧ w.cell? ⟨p.block, p.off + 1, none⟩ = some (.string r.t) := by
  obtain ⟨ad, e, hb, hc⟩ := h.2 (by omega)
  have hl : k < L.length := by have := h.1; omega
  obtain ⟨c0, c1⟩ := hc k L[k] (List.getElem?_eq_getElem hl)
  exact ⟨ad, L[k], _, e, List.getElem?_eq_getElem hl, rfl, by rw [ad_block]; exact hb, c0, c1⟩
theorem cells_ST : Tryd.prog.cellsOf 41 = 2 := by kernel_rfl
def okST (r : ST) : Prop := (Lit.int .u8 r.c).wf = true ∧ r.t.size ≤ maxLen
set_option maxRecDepth 8000 in
theorem elem_ST {H : Type} {enc : TypeId × Value → H} {w : World} {base : Nat} {spare : Nat → Bool} {held : Bool} {fuel : Nat} {cs : List Value} {x : DataW H × List MemPlace} (hl : cs.length = 2) (h : DataW.trod enc Tryd.prog w base spare held fuel 41 cs = some x) :
    ∃ r : ST, cs = [.int .u8 r.c, .string r.t] ∧ okST r := by
  obtain ⟨v0, v1, y0, y1, n, rfl, g0, g1⟩ := elem2 Tryd.underlying41 (by kernel_rfl) hl h
  obtain ⟨c', rfl, w0⟩ := one_int Tryd.underlying5 g0
  obtain ⟨t', rfl, w1⟩ := one_string Tryd.underlying9 g1
  exact ⟨⟨c', t'⟩, rfl, w0, w1⟩
set_option maxRecDepth 8000 in
theorem open_ST {H : Type} {enc : TypeId × Value → H} {w : World} {base : Nat} {spare : Nat → Bool} {held : Bool} {fuel : Nat} {u : Value} {x : DataW H × List MemPlace} (h : DataW.trod enc Tryd.prog w base spare held fuel 33 [u] = some x) :
    ∃ (A : Option Addr) (k c : Nat) (L : List ST), u = .slice A k c ∧ k ≤ maxLen ∧ k ≤ c ∧ STs w w.heap.size A k L ∧ ∀ r ∈ L, okST r := by
  rcases open_slice Tryd.underlying33 h with ⟨hcs, _⟩ | ⟨a, len, cap, m, n, D, Pl, hcs, hb, hl, hm, hmm, _, hi⟩
  · cases hcs
    exact ⟨none, 0, 0, [], rfl, Nat.zero_le _, Nat.le_refl _, ⟨rfl, fun h => absurd h (by omega)⟩, fun r hr => by cases hr⟩
  · cases hcs
    have each : ∀ i, ∃ r : ST, i < len → ((w.cell? (a.add (i * 2)) = some (.int .u8 r.c) ∧ w.cell? ((a.add (i * 2)).add 1) = some (.string r.t)) ∧ okST r) := by
      intro i
      by_cases hlt : i < len
      · have him : i < m := by rw [hmm]; split <;> omega
        obtain ⟨cs, hc, ht⟩ := hi i him
        rw [cells_ST] at hc
        obtain ⟨_, hcl, hat⟩ := World.cells?_some hc
        obtain ⟨r, rfl, s1⟩ := elem_ST hcl ht
        exact ⟨r, fun _ => ⟨⟨by simpa [Addr.add] using hat 0 (by omega), hat 1 (by omega)⟩, s1⟩⟩
      · exact ⟨⟨0, ⟨#[]⟩⟩, fun h => absurd h hlt⟩
    obtain ⟨R, hR⟩ := Classical.axiomOfChoice each
    refine ⟨some a, len, cap, (List.range len).map R, rfl, by omega, hl, ⟨by simp, fun hn => ⟨a, rfl, ?_, fun k r hr => ?_⟩⟩, fun r hr => ?_⟩
    · have h0 := ((hR 0 hn).1).1
      rcases Nat.lt_or_ge a.block w.heap.size with hlt | hge
      · exact hlt
      · exfalso
        have : (a.add (0 * 2)).block = a.block := ad_block a _
        simp [World.cell?, this, Array.getElem?_eq_none hge] at h0
    · have hk : k < len := by
        have := (List.getElem?_eq_some_iff.1 hr).1
        simpa using this
      have : r = R k := by
        rw [List.getElem?_map, List.getElem?_range hk] at hr
        simpa using hr.symm
      subst this
      exact (hR k hk).1
    · obtain ⟨k, hk, rfl⟩ := List.mem_map.1 hr
      exact (hR k (List.mem_range.1 hk)).2
set_option maxRecDepth 8000 in
theorem open_STT {H : Type} {enc : TypeId × Value → H} {w : World} {base : Nat} {spare : Nat → Bool} {held : Bool} {u : Value} {d : DataW H} {pl : List MemPlace} {rr : Reach} {b0 : Nat} (hv : Value.okWide Tryd.prog w rr b0 33 u) (h0 : DataW.Trod enc Tryd.prog w base spare held 33 u d pl) :
    ∃ (A : Option Addr) (k c : Nat) (L : List ST), u = .slice A k c ∧ k ≤ maxLen ∧ k ≤ c ∧ STs w w.heap.size A k L ∧ ∀ r ∈ L, okST r := by
  obtain ⟨A0, len, cap, rfl⟩ := okWide_slice Tryd.underlying33 hv
  obtain ⟨fuel, h⟩ := h0
  exact open_ST (u := .slice A0 len cap) (by simpa [Value.cells] using h)

/-- Two scanners side by side. -/
structure Sc (w0 W : World) (K D E : Nat) (v : Value) (g c : Nat) (L : List Lx) (q r : Nat) : Prop where
  ra : PRep W K D v L q
  rb : RRep W K E g c L r
  kp : Kp (fun i => K ≤ i) w0 W
  de : D ≠ E
  ve : v.ownBlock ≠ some E
  gd : g ≠ D
section
variable {w0 W W' : World} {K D E : Nat} {v : Value} {g c : Nat} {L : List Lx} {q r q' r' : Nat}
theorem Sc.stepA (h : Sc w0 W K D E v g c L q r) (p : PRep W' K D v L q') (k : Kp (fun i => i = D) W W') : Sc w0 W' K D E v g c L q' r :=
  ⟨p, h.rb.kp k (fun i hi e => by rcases hi with rfl | rfl; exact h.de e.symm; exact h.gd e), h.kp.trans (k.weak fun i hi => by have := h.ra.kd; omega), h.de, h.ve, h.gd⟩
theorem Sc.stepB (h : Sc w0 W K D E v g c L q r) (p : RRep W' K E g c L r') (k : Kp (fun i => i = E) W W') : Sc w0 W' K D E v g c L q r' :=
  ⟨h.ra.kp k (fun i hi e => by rcases hi with rfl | hi; exact h.de e; rw [e] at hi; exact h.ve hi), p, h.kp.trans (k.weak fun i hi => by have := h.rb.kd; omega), h.de, h.ve, h.gd⟩
theorem Sc.below (h : Sc w0 W K D E v g c L q r) (k : Below W.heap.size W W') : Sc w0 W' K D E v g c L q r :=
  ⟨h.ra.below k, h.rb.below k, h.kp.trans (Kp.of k), h.de, h.ve, h.gd⟩
theorem Sc.drew (h : Sc w0 W K D E v g c L q r) : Sc w0 W.drew K D E v g c L q r := h.below (Below.refl _ _).drew
end
theorem good_at {L : List Lx} {N q : Nat} (G : Good L N) (hq : q < L.length) : ∃ x, L[q]? = some x ∧ (x.k ≠ 0 → q + 1 < L.length) ∧ (x.k = 0 → q + 1 = L.length) := by
  have hl := G.len
  refine ⟨L[q], List.getElem?_eq_getElem hq, fun hk => ?_, fun hk => ?_⟩
  · rcases Nat.lt_or_ge q N with h | h
    · omega
    · obtain rfl : q = N := by omega
      obtain ⟨p, hp⟩ := G.last
      rw [List.getElem?_eq_getElem hq] at hp
      have := Option.some.inj hp
      rw [this] at hk
      exact absurd rfl hk
  · rcases Nat.lt_or_ge q N with h | h
    · exact absurd hk (G.kinds q _ h (List.getElem?_eq_getElem hq))
    · omega
end Go.Proofs.YtklogijbdpghpaaDoor
