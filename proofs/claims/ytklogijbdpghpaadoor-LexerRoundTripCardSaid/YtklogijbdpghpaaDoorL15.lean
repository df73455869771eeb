/-
  CONTRACTS of the lexer: a list of lexemes that comes in; the words of lexemes.
-/
import Derived.Test.YtklogijbdpghpaaDoorL14
import Derived.ProofKit
import Derived.OpenShut
import Derived.Lib.SmallJoins
import Derived.Lib.ItoaLen
import Derived.Deep.Slices
import Derived.Deep.Fields
namespace Go.Proofs.YtklogijbdpghpaaDoor
open Go.Joins Go.ChangeShapes Go.WideShapes Go.RowKit Go.Deep
set_option linter.unusedVariables false
set_option linter.unusedSimpArgs false
section
variable {H : Type} {enc : TypeId × Value → H} {P : Program} {w : World} {base : Nat} {spare : Nat → Bool} {held : Bool}
theorem one_int {t : TypeId} {k : IntKind} {n : Nat} {v : Value} {x : DataW H × List MemPlace} (ht : P.underlying t = some (.int k)) (h : DataW.trod enc P w base spare held n t [v] = some x) : ∃ a, v = .int k a ∧ (Lit.int k a).wf = true := by
  obtain ⟨a, e, _, wf⟩ := DataW.trod_int ht h
  exact ⟨a, by simpa using e, wf⟩
theorem one_string {t : TypeId} {n : Nat} {v : Value} {x : DataW H × List MemPlace} (ht : P.underlying t = some .string) (h : DataW.trod enc P w base spare held n t [v] = some x) : ∃ a : ByteArray, v = .string a ∧ a.size ≤ maxLen := by
  obtain ⟨a, e, _, hs⟩ := DataW.trod_string ht h
  exact ⟨a, by simpa using e, hs⟩
end
theorem ad_block (a : Addr) (n : Nat) : (a.add n).block = a.block := by unfold Addr.add; split <;> rfl
/-- A slice holds these. -/
def Lxs (w : World) (B : Nat) (A : Option Addr) (n : Nat) (L : List Lx) : Prop :=
  L.length = n ∧ (0 < n → ∃ ad, A = some ad ∧ ad.block < B ∧ ∀ k r, L[k]? = some r → w.cell? (ad.add (k * 4)) = some (.int .i64 r.k) ∧ w.cell? ((ad.add (k * 4)).add 1) = some (.string r.t) ∧ w.cell? ((ad.add (k * 4)).add 2) = some (.int .i64 r.n) ∧ w.cell? ((ad.add (k * 4)).add 3) = some (.int .i64 r.p))
theorem Lxs.keep {w w' : World} {B n : Nat} {A : Option Addr} {L : List Lx} (h : Lxs w B A n L) (hk : ∀ p : Addr, p.block < B → w'.cell? p = w.cell? p) : Lxs w' B A n L :=
  ⟨h.1, fun hn => by
    obtain ⟨ad, e, hb, hc⟩ := h.2 hn
    refine ⟨ad, e, hb, fun k r hr => ?_⟩
    obtain ⟨c0, c1, c2, c3⟩ := hc k r hr
    refine ⟨?_, ?_, ?_, ?_⟩ <;> (rw [hk _ (by simp only [ad_block]; exact hb)]; assumption)⟩
theorem Lxs.below {w w' : World} {B n : Nat} {A : Option Addr} {L : List Lx} (h : Lxs w B A n L) (hb : Below B w w') : Lxs w' B A n L := h.keep fun _ hp => hb.cell hp
theorem Lxs.at {w : World} {B n : Nat} {A : Option Addr} {L : List Lx} (h : Lxs w B A n L) {k : Nat} (hk : k < n) :
    ∃ ad r p, A = some ad ∧ L[k]? = some r ∧ ad.add (k * 4) = p ∧ p.block < B ∧ w.cell? p = some (.int .i64 r.k) ∧ w.cell? ⟨p.block, p.off + 1, none⟩ = some (.string r.t) ∧ w.cell? ⟨p.block, p.off + 2, none⟩ = some (.int .i64 r.n) ∧ w.cell? ⟨p.block, p.off + 3, none⟩ = some (.int .i64 r.p) := by
  obtain ⟨ad, e, hb, hc⟩ := h.2 (by omega)
  have hl : k < L.length := by have := h.1; omega
  obtain ⟨c0, c1, c2, c3⟩ := hc k L[k] (List.getElem?_eq_getElem hl)
  exact ⟨ad, L[k], _, e, List.getElem?_eq_getElem hl, rfl, by rw [ad_block]; exact hb, c0, c1, c2, c3⟩
theorem cells_Lx : Tryd.prog.cellsOf 30 = 4 := by kernel_rfl
theorem elem4 {H : Type} {enc : TypeId × Value → H} {P : Program} {w : World} {base : Nat} {spare : Nat → Bool} {held : Bool} {fuel : Nat} {t : TypeId} {f0 f1 f2 f3 : Field} {cs : List Value} {x : DataW H × List MemPlace} (hs : P.underlying t = some (.struct #[f0, f1, f2, f3])) (hone : oneCellFields P #[f0, f1, f2, f3] = true) (hl : cs.length = 4) (h : DataW.trod enc P w base spare held fuel t cs = some x) :
    ∃ (v0 v1 v2 v3 : Value) (y0 y1 y2 y3 : DataW H × List MemPlace) (n : Nat), cs = [v0, v1, v2, v3] ∧
      DataW.trod enc P w base spare held n f0.type [v0] = some y0 ∧ DataW.trod enc P w base spare held n f1.type [v1] = some y1 ∧ DataW.trod enc P w base spare held n f2.type [v2] = some y2 ∧ DataW.trod enc P w base spare held n f3.type [v3] = some y3 := by
  match cs, hl with
  | [c0, c1, c2, c3], _ =>
    obtain ⟨xs, n, _, hx, _, hlen, hg⟩ := DataW.trod_struct hs h
    obtain ⟨o0, k0⟩ := hone_of hone 0 f0 rfl
    obtain ⟨o1, k1⟩ := hone_of hone 1 f1 rfl
    obtain ⟨o2, k2⟩ := hone_of hone 2 f2 rfl
    obtain ⟨o3, k3⟩ := hone_of hone 3 f3 rfl
    match xs, hlen with
    | [y0, y1, y2, y3], _ =>
      exact ⟨c0, c1, c2, c3, y0, y1, y2, y3, n, rfl, by simpa [o0, k0] using hg 0 f0 rfl, by simpa [o1, k1] using hg 1 f1 rfl, by simpa [o2, k2] using hg 2 f2 rfl, by simpa [o3, k3] using hg 3 f3 rfl⟩
def okLx (r : Lx) : Prop := (Lit.int .i64 r.k).wf = true ∧ r.t.size ≤ maxLen ∧ (Lit.int .i64 r.n).wf = true ∧ (Lit.int .i64 r.p).wf = true
set_option maxRecDepth 8000 in
theorem elem_Lx {H : Type} {enc : TypeId × Value → H} {w : World} {base : Nat} {spare : Nat → Bool} {held : Bool} {fuel : Nat} {cs : List Value} {x : DataW H × List MemPlace} (hl : cs.length = 4) (h : DataW.trod enc Tryd.prog w base spare held fuel 30 cs = some x) :
    ∃ r : Lx, cs = [.int .i64 r.k, .string r.t, .int .i64 r.n, .int .i64 r.p] ∧ okLx r := by
  obtain ⟨v0, v1, v2, v3, y0, y1, y2, y3, n, rfl, g0, g1, g2, g3⟩ := elem4 Tryd.underlying30 (by kernel_rfl) hl h
  obtain ⟨k', rfl, w0⟩ := one_int Tryd.underlying3 g0
  obtain ⟨t', rfl, w1⟩ := one_string Tryd.underlying9 g1
  obtain ⟨n', rfl, w2⟩ := one_int Tryd.underlying2 g2
  obtain ⟨p', rfl, w3⟩ := one_int Tryd.underlying3 g3
  exact ⟨⟨k', t', n', p'⟩, rfl, w0, w1, w2, w3⟩
set_option maxRecDepth 8000 in
theorem open_Lx {H : Type} {enc : TypeId × Value → H} {w : World} {base : Nat} {spare : Nat → Bool} {held : Bool} {fuel : Nat} {u : Value} {x : DataW H × List MemPlace} (h : DataW.trod enc Tryd.prog w base spare held fuel 23 [u] = some x) :
    ∃ (A : Option Addr) (k c : Nat) (L : List Lx), u = .slice A k c ∧ k ≤ maxLen ∧ k ≤ c ∧ Lxs w w.heap.size A k L ∧ ∀ r ∈ L, okLx r := by
  rcases open_slice Tryd.underlying23 h with ⟨hcs, _⟩ | ⟨a, len, cap, m, n, D, Pl, hcs, hb, hl, hm, hmm, _, hi⟩
  · cases hcs
    exact ⟨none, 0, 0, [], rfl, Nat.zero_le _, Nat.le_refl _, ⟨rfl, fun h => absurd h (by omega)⟩, fun r hr => by cases hr⟩
  · cases hcs
    have each : ∀ i, ∃ r : Lx, i < len → ((w.cell? (a.add (i * 4)) = some (.int .i64 r.k) ∧ w.cell? ((a.add (i * 4)).add 1) = some (.string r.t) ∧ w.cell? ((a.add (i * 4)).add 2) = some (.int .i64 r.n) ∧ w.cell? ((a.add (i * 4)).add 3) = some (.int .i64 r.p)) ∧ okLx r) := by
      intro i
      by_cases hlt : i < len
      · have him : i < m := by rw [hmm]; split <;> omega
        obtain ⟨cs, hc, ht⟩ := hi i him
        rw [cells_Lx] at hc
        obtain ⟨_, hcl, hat⟩ := World.cells?_some hc
        obtain ⟨r, rfl, s1⟩ := elem_Lx hcl ht
        exact ⟨r, fun _ => ⟨⟨by simpa [Addr.add] using hat 0 (by omega), hat 1 (by omega), hat 2 (by omega), hat 3 (by omega)⟩, s1⟩⟩
      · exact ⟨⟨0, ⟨#[]⟩, 0, 0⟩, fun h => absurd h hlt⟩
    obtain ⟨R, hR⟩ := Classical.axiomOfChoice each
    refine ⟨some a, len, cap, (List.range len).map R, rfl, by omega, hl, ⟨by simp, fun hn => ⟨a, rfl, ?_, fun k r hr => ?_⟩⟩, fun r hr => ?_⟩
    · have h0 := ((hR 0 hn).1).1
      rcases Nat.lt_or_ge a.block w.heap.size with hlt | hge
      · exact hlt
      · exfalso
        have : (a.add (0 * 4)).block = a.block := ad_block a _
        simp [World.cell?, this, Array.getElem?_eq_none hge] at h0
    · have hk : k < len := by
        have := (List.getElem?_eq_some_iff.1 hr).1
        simpa using this
      have : r = R k := by
        rw [List.getElem?_map, List.getElem?_range hk] at hr
        simpa using hr.symm
      subst this
      exact (hR k hk).1
    · obtain ⟨k, hk, rfl⟩ := List.mem_map.1 hr
      exact (hR k (List.mem_range.1 hk)).2
set_option maxRecDepth 8000 in
theorem open_LxT {H : Type} {enc : TypeId × Value → H} {w : World} {base : Nat} {spare : Nat → Bool} {held : Bool} {u : Value} {d : DataW H} {pl : List MemPlace} {rr : Reach} {b0 : Nat} (hv : Value.okWide Tryd.prog w rr b0 23 u) (h0 : DataW.Trod enc Tryd.prog w base spare held 23 u d pl) :
    ∃ (A : Option Addr) (k c : Nat) (L : List Lx), u = .slice A k c ∧ k ≤ maxLen ∧ k ≤ c ∧ Lxs w w.heap.size A k L ∧ ∀ r ∈ L, okLx r := by
  obtain ⟨A0, len, cap, rfl⟩ := okWide_slice Tryd.underlying23 hv
  obtain ⟨fuel, h⟩ := h0
  exact open_Lx (u := .slice A0 len cap) (by simpa [Value.cells] using h)

def fmtB (n : Int) : ByteArray := ⟨(Lib.itoa n).toArray⟩
def wordS (x : Lx) : List ByteArray := if x.k = 1 ∨ x.k = 4 then [x.t] else if x.k = 2 then [fmtB x.n] else if x.k = 3 then [(⟨#[34]⟩ ++ x.t) ++ ⟨#[34]⟩] else []
def wordsS (l : List Lx) : List ByteArray := l.flatMap wordS
theorem wordsS_take {l : List Lx} {k : Nat} {x : Lx} (h : l[k]? = some x) : wordsS (l.take (k + 1)) = wordsS (l.take k) ++ wordS x := by
  unfold wordsS
  rw [List.take_add_one, h, List.flatMap_append]
  simp
theorem wordS_le (x : Lx) : (wordS x).length ≤ 1 := by
  unfold wordS
  (repeat' split) <;> simp
theorem wordsS_len (l : List Lx) : (wordsS l).length ≤ l.length := by
  induction l with
  | nil => exact Nat.le_refl _
  | cons x l ih =>
    have := wordS_le x
    unfold wordsS at *
    rw [List.flatMap_cons, List.length_append, List.length_cons]
    omega
def printS (l : List Lx) : ByteArray := ⟨(Lib.join ((wordsS l).map (·.data.toList)) [32]).toArray⟩
def strV (l : List ByteArray) : List Value := l.map .string
theorem strV_one (l : List ByteArray) : ∀ u ∈ strV l, u.oneCell' = true := by
  intro u hu
  obtain ⟨a, -, rfl⟩ := List.mem_map.1 hu
  rfl
theorem str_info : (Tryd.prog.info? 9).map (fun i => (i.zero, i.size, i.bytes)) = some (some (.string ⟨#[]⟩), 1, 16) := by kernel_rfl
theorem cell_one_new (w : World) (x : Value) (t : TypeId) : ∀ j u, [x][j]? = some u → (w.alloc (.cells #[x] t)).cell? ((⟨w.heap.size, 0, none⟩ : Addr).add j) = some u := fun j u hu => by
  have h : (⟨w.heap.size, 0, none⟩ : Addr).add j = ⟨w.heap.size, j, none⟩ := by unfold Addr.add; split <;> simp_all
  rw [h, (Blk.new w t #[x]).cell j]
  simpa using hu
/-- A word is not long. -/
def okW (x : Lx) : Prop := x.t.size ≤ 10000 ∧ -9223372036854775808 ≤ x.n ∧ x.n ≤ 9223372036854775807
theorem word_size {x : Lx} (h : okW x) : ∀ t ∈ wordS x, t.size ≤ 10002 := by
  intro t ht
  unfold wordS at ht
  obtain ⟨h1, h2, h3⟩ := h
  split at ht
  · rw [List.mem_singleton.1 ht]; omega
  · split at ht
    · rw [List.mem_singleton.1 ht]
      have := Lib.itoa_length_le x.n h2 h3
      have h4 : (fmtB x.n).size = (Lib.itoa x.n).length := by unfold fmtB; show (Lib.itoa x.n).toArray.size = _; simp
      omega
    · split at ht
      · rw [List.mem_singleton.1 ht, ByteArray.size_append, ByteArray.size_append]
        have e1 : (⟨#[34]⟩ : ByteArray).size = 1 := rfl
        omega
      · cases ht
theorem lens_le {l : List (List UInt8)} (h : ∀ x ∈ l, x.length ≤ 10002) : Lib.lens l ≤ 10002 * l.length := by
  induction l with
  | nil => exact Nat.le_refl _
  | cons x l ih =>
    have h1 := h x (List.mem_cons_self)
    have h2 := ih (fun y hy => h y (List.mem_cons_of_mem _ hy))
    unfold Lib.lens at *
    rw [List.map_cons, List.sum_cons, List.length_cons]
    omega
theorem join_le {l : List Lx} (h : ∀ x ∈ l, okW x) (hl : l.length ≤ 100000) : (Lib.join ((wordsS l).map (·.data.toList)) (⟨#[32]⟩ : ByteArray).data.toList).length ≤ 140737488355328 := by
  have h1 := wordsS_len l
  have h2 : ∀ x ∈ (wordsS l).map (·.data.toList), x.length ≤ 10002 := by
    intro x hx
    obtain ⟨t, ht, rfl⟩ := List.mem_map.1 hx
    unfold wordsS at ht
    obtain ⟨y, hy, hty⟩ := List.mem_flatMap.1 ht
    exact word_size (h y hy) t hty
  have h3 := lens_le h2
  rw [List.length_map] at h3
  have h4 : ((wordsS l).map (·.data.toList)).length = (wordsS l).length := List.length_map _
  generalize (wordsS l).map (·.data.toList) = z at *
  match z with
  | [] => rw [Lib.join_nil]; exact Nat.zero_le _
  | x :: r =>
    rw [Lib.join_length]
    have : (⟨#[32]⟩ : ByteArray).data.toList.length = 1 := rfl
    rw [this]
    rw [List.length_cons] at h4
    omega
end Go.Proofs.YtklogijbdpghpaaDoor
