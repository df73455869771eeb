/-
  OPENING A LIST OF READS THAT COMES IN; what is left, the error and the end of both readers.
-/
import Derived.Test.YtjemljhfopgmiaaGreatDoorZ24
import Derived.ProofKit
import Derived.OpenShut
import Derived.Lib.SmallJoins
import Derived.Deep.Slices
import Derived.Deep.Fields
namespace Go.Proofs.YtjemljhfopgmiaaGreatDoor
open Go.Joins Go.ChangeShapes Go.WideShapes Go.RowKit Go.Deep
set_option linter.unusedVariables false
set_option linter.unusedSimpArgs false
section
variable {H : Type} {enc : TypeId × Value → H} {P : Program} {w : World} {base : Nat} {spare : Nat → Bool} {held : Bool}
theorem one_int {t : TypeId} {k : IntKind} {n : Nat} {v : Value} {x : DataW H × List MemPlace} (ht : P.underlying t = some (.int k)) (h : DataW.trod enc P w base spare held n t [v] = some x) : ∃ a, v = .int k a ∧ (Lit.int k a).wf = true := by
  obtain ⟨a, e, _, wf⟩ := DataW.trod_int ht h
  exact ⟨a, by simpa using e, wf⟩
theorem one_bool {t : TypeId} {n : Nat} {v : Value} {x : DataW H × List MemPlace} (ht : P.underlying t = some .bool) (h : DataW.trod enc P w base spare held n t [v] = some x) : ∃ a, v = .bool a := by
  obtain ⟨a, e, _⟩ := DataW.trod_bool ht h
  exact ⟨a, by simpa using e⟩
theorem one_string {t : TypeId} {n : Nat} {v : Value} {x : DataW H × List MemPlace} (ht : P.underlying t = some .string) (h : DataW.trod enc P w base spare held n t [v] = some x) : ∃ a : ByteArray, v = .string a ∧ a.size ≤ maxLen := by
  obtain ⟨a, e, _, hs⟩ := DataW.trod_string ht h
  exact ⟨a, by simpa using e, hs⟩
end
structure RR where
  o : Int
  n : Int
  m : Int
theorem ad_block (a : Addr) (n : Nat) : (a.add n).block = a.block := by unfold Addr.add; split <;> rfl
/-- A slice holds these reads. -/
def Rds (w : World) (B : Nat) (A : Option Addr) (n : Nat) (L : List RR) : Prop :=
  L.length = n ∧ (0 < n → ∃ ad, A = some ad ∧ ad.block < B ∧ ∀ k r, L[k]? = some r → w.cell? (ad.add (k * 3)) = some (.int .u8 r.o) ∧ w.cell? ((ad.add (k * 3)).add 1) = some (.int .i64 r.n) ∧ w.cell? ((ad.add (k * 3)).add 2) = some (.int .i64 r.m))
theorem Rds.keep {w w' : World} {B n : Nat} {A : Option Addr} {L : List RR} (h : Rds w B A n L) (hk : ∀ p : Addr, p.block < B → w'.cell? p = w.cell? p) : Rds w' B A n L :=
  ⟨h.1, fun hn => by
    obtain ⟨ad, e, hb, hc⟩ := h.2 hn
    refine ⟨ad, e, hb, fun k r hr => ?_⟩
    obtain ⟨c0, c1, c2⟩ := hc k r hr
    refine ⟨?_, ?_, ?_⟩ <;> (rw [hk _ (by simp only [ad_block]; exact hb)]; assumption)⟩
theorem Rds.below {w w' : World} {B n : Nat} {A : Option Addr} {L : List RR} (h : Rds w B A n L) (hb : Below B w w') : Rds w' B A n L := h.keep fun _ hp => hb.cell hp
theorem Rds.at {w : World} {B n : Nat} {A : Option Addr} {L : List RR} (h : Rds w B A n L) {k : Nat} (hk : k < n) :
    ∃ ad r p, A = some ad ∧ L[k]? = some r ∧ ad.add (k * 3) = p ∧ p.block < B ∧ w.cell? p = some (.int .u8 r.o) ∧ w.cell? ⟨p.block, p.off + 1, none⟩ = some (.int .i64 r.n) ∧ w.cell? ⟨p.block, p.off + 2, none⟩ = some (.int .i64 r.m) := by
  obtain ⟨ad, e, hb, hc⟩ := h.2 (by omega)
  have hl : k < L.length := by have := h.1; omega
  obtain ⟨c0, c1, c2⟩ := hc k L[k] (List.getElem?_eq_getElem hl)
  exact ⟨ad, L[k], _, e, List.getElem?_eq_getElem hl, rfl, by rw [ad_block]; exact hb, c0, c1, c2⟩
theorem cells_read : Tryz.prog.cellsOf 35 = 3 := by kernel_rfl
theorem elem3 {H : Type} {enc : TypeId × Value → H} {P : Program} {w : World} {base : Nat} {spare : Nat → Bool} {held : Bool} {fuel : Nat} {t : TypeId} {f0 f1 f2 : Field} {cs : List Value} {x : DataW H × List MemPlace} (hs : P.underlying t = some (.struct #[f0, f1, f2])) (hone : oneCellFields P #[f0, f1, f2] = true) (hl : cs.length = 3) (h : DataW.trod enc P w base spare held fuel t cs = some x) :
    ∃ (v0 v1 v2 : Value) (y0 y1 y2 : DataW H × List MemPlace) (n : Nat), cs = [v0, v1, v2] ∧
      DataW.trod enc P w base spare held n f0.type [v0] = some y0 ∧ DataW.trod enc P w base spare held n f1.type [v1] = some y1 ∧ DataW.trod enc P w base spare held n f2.type [v2] = some y2 := by
  match cs, hl with
  | [c0, c1, c2], _ =>
    obtain ⟨xs, n, _, hx, _, hlen, hg⟩ := DataW.trod_struct hs h
    obtain ⟨o0, k0⟩ := hone_of hone 0 f0 rfl
    obtain ⟨o1, k1⟩ := hone_of hone 1 f1 rfl
    obtain ⟨o2, k2⟩ := hone_of hone 2 f2 rfl
    match xs, hlen with
    | [y0, y1, y2], _ =>
      exact ⟨c0, c1, c2, y0, y1, y2, n, rfl, by simpa [o0, k0] using hg 0 f0 rfl, by simpa [o1, k1] using hg 1 f1 rfl, by simpa [o2, k2] using hg 2 f2 rfl⟩
/-- A read of any values. -/
def okR (r : RR) : Prop := (Lit.int .u8 r.o).wf = true ∧ (Lit.int .i64 r.n).wf = true ∧ (Lit.int .i64 r.m).wf = true
set_option maxRecDepth 8000 in
theorem elem_read {H : Type} {enc : TypeId × Value → H} {w : World} {base : Nat} {spare : Nat → Bool} {held : Bool} {fuel : Nat} {cs : List Value} {x : DataW H × List MemPlace} (hl : cs.length = 3) (h : DataW.trod enc Tryz.prog w base spare held fuel 35 cs = some x) :
    ∃ r : RR, cs = [.int .u8 r.o, .int .i64 r.n, .int .i64 r.m] ∧ okR r := by
  obtain ⟨v0, v1, v2, y0, y1, y2, n, rfl, g0, g1, g2⟩ := elem3 Tryz.underlying35 (by kernel_rfl) hl h
  obtain ⟨o, rfl, w0⟩ := one_int Tryz.underlying5 g0
  obtain ⟨n, rfl, w1⟩ := one_int Tryz.underlying3 g1
  obtain ⟨m, rfl, w2⟩ := one_int Tryz.underlying3 g2
  exact ⟨⟨o, n, m⟩, rfl, w0, w1, w2⟩
def zeroR : RR := ⟨0, 0, 0⟩
set_option maxRecDepth 8000 in
theorem open_reads {H : Type} {enc : TypeId × Value → H} {w : World} {base : Nat} {spare : Nat → Bool} {held : Bool} {u : Value} {d : DataW H} {pl : List MemPlace} {rr : Reach} {b0 : Nat} (hv : Value.okWide Tryz.prog w rr b0 22 u) (h0 : DataW.Trod enc Tryz.prog w base spare held 22 u d pl) :
    ∃ (A : Option Addr) (k c : Nat) (L : List RR), u = .slice A k c ∧ k ≤ maxLen ∧ k ≤ c ∧ Rds w w.heap.size A k L ∧ ∀ r ∈ L, okR r := by
  obtain ⟨A0, len0, cap0, rfl⟩ := okWide_slice Tryz.underlying22 hv
  obtain ⟨fuel, h⟩ := h0
  rcases open_slice Tryz.underlying22 h with ⟨hcs, _⟩ | ⟨a, len, cap, m, n, D, Pl, hcs, hb, hl, hm, hmm, _, hi⟩
  · simp [Value.cells] at hcs
    obtain ⟨rfl, rfl, rfl⟩ := hcs
    exact ⟨none, 0, 0, [], rfl, Nat.zero_le _, Nat.le_refl _, ⟨rfl, fun h => absurd h (by omega)⟩, fun r hr => by cases hr⟩
  · simp [Value.cells] at hcs
    obtain ⟨rfl, rfl, rfl⟩ := hcs
    have each : ∀ i, ∃ r : RR, i < len0 → ((w.cell? (a.add (i * 3)) = some (.int .u8 r.o) ∧ w.cell? ((a.add (i * 3)).add 1) = some (.int .i64 r.n) ∧ w.cell? ((a.add (i * 3)).add 2) = some (.int .i64 r.m)) ∧ okR r) := by
      intro i
      by_cases hlt : i < len0
      · have him : i < m := by rw [hmm]; split <;> omega
        obtain ⟨cs, hc, ht⟩ := hi i him
        rw [cells_read] at hc
        obtain ⟨_, hcl, hat⟩ := World.cells?_some hc
        obtain ⟨r, rfl, s1⟩ := elem_read hcl ht
        exact ⟨r, fun _ => ⟨⟨by simpa [Addr.add] using hat 0 (by omega), hat 1 (by omega), hat 2 (by omega)⟩, s1⟩⟩
      · exact ⟨zeroR, fun h => absurd h hlt⟩
    obtain ⟨R, hR⟩ := Classical.axiomOfChoice each
    refine ⟨some a, len0, cap0, (List.range len0).map R, rfl, by omega, hl, ⟨by simp, fun hn => ⟨a, rfl, ?_, fun k r hr => ?_⟩⟩, fun r hr => ?_⟩
    · have h0 := ((hR 0 hn).1).1
      rcases Nat.lt_or_ge a.block w.heap.size with hlt | hge
      · exact hlt
      · exfalso
        have : (a.add (0 * 3)).block = a.block := ad_block a _
        simp [World.cell?, this, Array.getElem?_eq_none hge] at h0
    · have hk : k < len0 := by
        have := (List.getElem?_eq_some_iff.1 hr).1
        simpa using this
      have : r = R k := by
        rw [List.getElem?_map, List.getElem?_range hk] at hr
        simpa using hr.symm
      subst this
      exact (hR k hk).1
    · obtain ⟨k, hk, rfl⟩ := List.mem_map.1 hr
      exact (hR k (List.mem_range.1 hk)).2
theorem rr_mem {L : List RR} {k : Nat} {f : RR} (h : L[k]? = some f) : f ∈ L := List.mem_of_getElem? h
theorem left_nil (w : World) : Calls Tryz.prog 11 #[.pointer none] w fun e w' => e = .returned (.int .i64 0) ∧ w = w' := by
  go_enter Tryz.func11, Tryz.ntmps11
  go_wp2
  go_ret
  exact ⟨rfl, rfl⟩
theorem err_nil (w : World) : Calls Tryz.prog 12 #[.pointer none] w fun e w' => e = .returned (.int .i64 6) ∧ w = w' := by
  go_enter Tryz.func12, Tryz.ntmps12
  go_wp2
  go_ret
  exact ⟨rfl, rfl⟩
theorem end_nil (w : World) : Calls Tryz.prog 13 #[.pointer none] w fun e w' => e = .returned (.int .i64 6) ∧ w = w' := by
  go_enter Tryz.func13, Tryz.ntmps13
  go_wp2_with fail
  go_at_call 12
  refine (err_nil _).mono ?_
  rintro e w1 ⟨rfl, rfl⟩
  go_wp2
  go_ret
  exact ⟨rfl, rfl⟩
theorem rnewReader_any (s : ByteArray) (w : World) : Calls Tryz.prog 6 #[.string s] w fun e w' => e = .returned (.pointer (some ⟨w.heap.size, 0, none⟩)) ∧ Blk w' w.heap.size RST #[.string s, .int .i64 0] ∧ Below w.heap.size w w' := by
  go_enter Tryz.func6, Tryz.ntmps6
  go_wp2
  go_ret
  exact ⟨rfl, Blk.new _ _ _, (Below.refl _ _).alloc (Nat.le_refl _) _⟩
theorem sleft (b : Nat) (s : ByteArray) (c : Int) (hs : s.size ≤ 281474976710656) (w : World) (hb : Blk w b RST #[.string s, .int .i64 c]) :
    Calls Tryz.prog 18 #[.pointer (some ⟨b, 0, none⟩)] w fun e w' => e = .returned (.int .i64 s.size) ∧ w = w' := by
  have b0 := hb.cell 0
  simp at b0
  go_enter Tryz.func18, Tryz.ntmps18
  go_wp2
  go_ret
  exact ⟨rfl, rfl⟩
theorem serr (b : Nat) (s : ByteArray) (c : Int) (w : World) (hb : Blk w b RST #[.string s, .int .i64 c]) :
    Calls Tryz.prog 19 #[.pointer (some ⟨b, 0, none⟩)] w fun e w' => e = .returned (.int .i64 c) ∧ w = w' := by
  have b1 := hb.cell 1
  simp at b1
  go_enter Tryz.func19, Tryz.ntmps19
  go_wp2
  go_ret
  exact ⟨rfl, rfl⟩
theorem send (b : Nat) (s : ByteArray) (c : Int) (hs : s.size ≤ 281474976710656) (w : World) (hb : Blk w b RST #[.string s, .int .i64 c]) :
    Calls Tryz.prog 20 #[.pointer (some ⟨b, 0, none⟩)] w fun e w' => e = .returned (.int .i64 (endE s c)) ∧ w = w' := by
  have b0 := hb.cell 0
  have b1 := hb.cell 1
  simp at b0 b1
  by_cases hc : c = 0
  · subst hc
    by_cases h0 : s.size = 0
    · have HE : Hid (endE s 0 = 0) := Lib.hid (by unfold endE; rw [if_pos rfl, if_pos h0])
      have h1 : ¬ 0 < (s.size : Int) := by omega
      clear h0
      go_enter Tryz.func20, Tryz.ntmps20
      go_wp2
      go_ret
      exact ⟨ret_int HE.out.symm, rfl⟩
    · have HE : Hid (endE s 0 = 3) := Lib.hid (by unfold endE; rw [if_pos rfl, if_neg h0])
      have h1 : 0 < (s.size : Int) := by omega
      clear h0
      go_enter Tryz.func20, Tryz.ntmps20
      go_wp2
      go_ret
      exact ⟨ret_int HE.out.symm, rfl⟩
  · have hcc : (c == 0) = false := by simpa using hc
    have HE : Hid (endE s c = c) := Lib.hid (by unfold endE; rw [if_neg hc])
    go_enter Tryz.func20, Tryz.ntmps20
    go_wp2
    go_ret
    exact ⟨ret_int HE.out.symm, rfl⟩
end Go.Proofs.YtjemljhfopgmiaaGreatDoor
