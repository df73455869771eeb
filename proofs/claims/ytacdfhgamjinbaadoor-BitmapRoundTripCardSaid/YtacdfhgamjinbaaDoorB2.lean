/-
  CONTRACTS of bitmaps: the program's Of and the specification's, for every slice of numbers.
-/
import Derived.Test.YtacdfhgamjinbaaDoorB1
import Derived.Laws.OwnMore
import Derived.Deep.AppendLies
namespace Go.Proofs.YtacdfhgamjinbaaDoor
open Go.RowKit
set_option linter.unusedVariables false
theorem block_of_add (a : Addr) (n : Nat) : (a.add n).block = a.block := by unfold Addr.add; split <;> rfl
theorem add_of_add (a : Addr) (i j : Nat) : (a.add i).add j = a.add (i + j) := by
  unfold Addr.add
  by_cases hi : i = 0 <;> by_cases hj : j = 0 <;> simp [hi, hj, Nat.add_assoc]

def Reads (w : World) (B size : Nat) (A : Option Addr) (n : Nat) (xs : List Value) : Prop :=
  xs.length = n * size ∧ (0 < n → ∃ ad, A = some ad ∧ ad.block < B ∧ ∀ j u, xs[j]? = some u → w.cell? (ad.add j) = some u)

section
variable {w w' : World} {B B' size n : Nat} {A : Option Addr} {xs : List Value}
theorem Reads.none_ : Reads w B size A 0 [] := ⟨by simp, fun h => absurd h (by omega)⟩
theorem Reads.at_ {k : Nat} (h : Reads w B 1 A n xs) (hk : k < n) : ∃ ad u, A = some ad ∧ ad.block < B ∧ xs[k]? = some u ∧ w.cell? (ad.add k) = some u := by
  obtain ⟨ad, e, hb, hc⟩ := h.2 (by omega)
  have hl : k < xs.length := by have := h.1; omega
  exact ⟨ad, xs[k], e, hb, List.getElem?_eq_getElem hl, hc k _ (List.getElem?_eq_getElem hl)⟩
theorem Reads.keep (h : Reads w B size A n xs) (hk : ∀ p : Addr, p.block < B → w'.cell? p = w.cell? p) : Reads w' B size A n xs :=
  ⟨h.1, fun hn => by
    obtain ⟨ad, e, hb, hc⟩ := h.2 hn
    exact ⟨ad, e, hb, fun j u hu => (hk _ (by rw [block_of_add]; exact hb)).trans (hc j u hu)⟩⟩
theorem Reads.more (h : Reads w B size A n xs) (hB : B ≤ B') : Reads w B' size A n xs :=
  ⟨h.1, fun hn => by
    obtain ⟨ad, e, hb, hc⟩ := h.2 hn
    exact ⟨ad, e, by omega, hc⟩⟩
theorem Reads.below (h : Reads w B size A n xs) (hb : Below B w w') : Reads w' B size A n xs := h.keep fun _ hp => hb.cell hp
theorem Reads.drew (h : Reads w B size A n xs) : Reads w.drew B size A n xs := h
theorem Reads.drewN (h : Reads w B size A n xs) (k : Nat) : Reads (w.drewN k) B size A n xs := h
theorem Reads.alloc (h : Reads w B size A n xs) (hB : B ≤ w.heap.size) (o : Obj) : Reads (w.alloc o) B size A n xs := h.keep fun p hp => World.cell?_alloc_lt w o p (by omega)
theorem Reads.setCell (h : Reads w B size A n xs) {p : Addr} (hB : B ≤ p.block) (u : Value) : Reads (w.setCell p u) B size A n xs :=
  h.keep fun q hq => World.cell?_setCell_other w p q u (fun e => by subst e; omega)
theorem Reads.grown (h : Reads w B size A n xs) {row : Option Nat} (hg : w.grownBy w' row) (hB : B ≤ w.heap.size) (hr : ∀ g, row = some g → B ≤ g) : Reads w' B size A n xs :=
  h.keep fun p hp => World.cell?_of_block (hg.block p.block (by omega) (fun e => by have := hr _ e.symm; omega))
theorem Reads.cut (h : Reads w B size A n xs) {k cap : Nat} (hk : k ≤ n) (hc : n ≤ cap) :
    Reads w B size (if cap = k then A else A.map (·.add (k * size))) (n - k) (xs.drop (k * size)) := by
  refine ⟨by rw [List.length_drop, h.1, Nat.sub_mul], fun hn => ?_⟩
  obtain ⟨ad, rfl, hb, hcell⟩ := h.2 (by omega)
  rw [if_neg (by omega)]
  refine ⟨ad.add (k * size), rfl, by rw [block_of_add]; exact hb, fun j u hu => ?_⟩
  rw [add_of_add]
  exact hcell _ u (by rw [← hu, List.getElem?_drop])
theorem Reads.of_own {base : Nat} {e : TypeId} {c : Nat} (h : w.ownsRow base e size (.slice A n c) n xs) : Reads w w.heap.size size A n xs := by
  refine ⟨h.1, fun hn => ?_⟩
  obtain ⟨g, cap, hv, _, hlt⟩ := h.form hn
  have hA : A = some ⟨g, 0, none⟩ := by injection hv
  subst hA
  exact ⟨_, rfl, hlt, h.cells (g := g) rfl⟩
end


abbrev intV (z : Int) : Value := .int .i64 z
def Ints (w : World) (B : Nat) (A : Option Addr) (n : Nat) (zs : List Int) : Prop := Reads w B 1 A n (zs.map intV)
theorem Ints.len {w : World} {B : Nat} {A : Option Addr} {n : Nat} {zs : List Int} (h : Ints w B A n zs) : zs.length = n := by have := h.1; simpa using this
theorem Ints.at {w : World} {B : Nat} {A : Option Addr} {n : Nat} {zs : List Int} (h : Ints w B A n zs) {k : Nat} (hk : k < n) :
    ∃ ad z, A = some ad ∧ ad.block < B ∧ zs[k]? = some z ∧ w.cell? (ad.add k) = some (.int .i64 z) := by
  obtain ⟨ad, u, rfl, hb, hu, hc⟩ := Reads.at_ h hk
  rw [List.getElem?_map] at hu
  obtain ⟨z, hz, rfl⟩ := Option.map_eq_some_iff.1 hu
  exact ⟨ad, z, rfl, hb, hz, hc⟩
/-- The words of the numbers of a list, from the words that are there; none for what is not a number. -/
def ofL : List Int → Nat → Nat → Option (Nat × Nat)
  | [], a, b => some (a, b)
  | n :: l, a, b => if n < 2 ∨ 128 < n then none else ofL l (a ||| hiN n.toNat) (b ||| loN n.toNat)
def ofV : Option (Nat × Nat) → Value
  | some p => .tuple #[bmV p.1 p.2, .int .i64 0]
  | none => .tuple #[bmV 0 0, .int .i64 4]
theorem ofL_bad {zs : List Int} {k a b : Nat} {z : Int} {r : Option (Nat × Nat)} (h : ofL (zs.drop k) a b = r) (hz : zs[k]? = some z) (hb : z < 2 ∨ 128 < z) : r = none := by
  obtain ⟨hk, rfl⟩ := List.getElem?_eq_some_iff.1 hz
  rw [List.drop_eq_getElem_cons hk, ofL, if_pos hb] at h
  exact h.symm
theorem ofL_good {zs : List Int} {k a b m : Nat} {r : Option (Nat × Nat)} (h : ofL (zs.drop k) a b = r) (hz : zs[k]? = some (m : Int)) (h2 : 2 ≤ m) (h3 : m ≤ 128) : ofL (zs.drop (k + 1)) (a ||| hiN m) (b ||| loN m) = r := by
  obtain ⟨hk, he⟩ := List.getElem?_eq_some_iff.1 hz
  rw [List.drop_eq_getElem_cons hk, ofL, he, if_neg (by omega)] at h
  exact h
theorem ofL_end {zs : List Int} {k a b n : Nat} {r : Option (Nat × Nat)} (h : ofL (zs.drop k) a b = r) (hn : zs.length = n) (hk : ¬ k < n) : r = some (a, b) := by
  rw [List.drop_of_length_le (by omega), ofL] at h
  exact h.symm
structure OfI (w wr : World) (a b : Nat) : Prop where
  res : Blk wr w.heap.size 24 #[.int .u64 0, .int .u64 0]
  cur : Blk wr (w.heap.size + 1) 24 #[.int .u64 (a : Int), .int .u64 (b : Int)]
  below : Below w.heap.size w wr
  ha : a < 9223372036854775808
  hb : b < 18446744073709551616
theorem or63 {a c : Nat} (ha : a < 9223372036854775808) (hc : c < 9223372036854775808) : a ||| c < 9223372036854775808 := Nat.or_lt_two_pow (n := 63) ha hc
theorem or64 {a c : Nat} (ha : a < 18446744073709551616) (hc : c < 18446744073709551616) : a ||| c < 18446744073709551616 := Nat.or_lt_two_pow (n := 64) ha hc
theorem OfI.next {w wr w2 : World} {a b a' b' : Nat} {o : Obj} (h : OfI w wr a b) (hb : Below wr.heap.size wr w2) (ha : a' < 9223372036854775808) (hb' : b' < 18446744073709551616) :
    OfI w (((w2.setCell ⟨w.heap.size + 1, 0, none⟩ (.int .u64 (a' : Int))).setCell ⟨w.heap.size + 1, 1, none⟩ (.int .u64 (b' : Int))).alloc o) a' b' := by
  have h1 := h.below.size
  have h2 := h.cur.lt
  have h3 := hb.size
  exact ⟨(((h.res.below hb h.res.lt).far (by simp) _).far (by simp) _).alloc _, (((h.cur.below hb h.cur.lt).set_ 0 _).set_ 1 _).alloc _,
    (((h.below.trans (hb.mono h1)).setCell (by simp) _).setCell (by simp) _).alloc (by simp; omega) _, ha, hb'⟩
theorem of_any (A : Option Addr) (n c : Nat) (zs : List Int) (w : World) (hS : Ints w w.heap.size A n zs) (hn : n ≤ 300) (hc : n ≤ c) {r : Option (Nat × Nat)} (HR : Hid (ofL zs 0 0 = r)) :
    Calls Tryd.prog 21 #[.slice A n c] w fun e w' => e = .returned (ofV r) ∧ Below w.heap.size w w' := by
  have hz : ∀ w : World, (zeroValue 24).run Tryd.prog w = .ok (.agg #[.int .u64 0, .int .u64 0]) w := fun _ => by kernel_rfl
  have HS := Lib.hid hS
  clear hS
  go_enter Tryd.func21, Tryd.ntmps21
  go_wp2_with fail
  go_loopw [12] (fun i wr => ∃ (k a b : Nat), k ≤ n ∧ i = .int .i64 k ∧ ofL (zs.drop k) a b = r ∧ OfI w wr a b) (fun i _ => n - (intOf i).toNat)
  case atStart => exact ⟨0, 0, 0, Nat.zero_le _, rfl, HR.out, (Blk.newAt rfl).alloc _, Blk.newAt (by first | omega | (simp; done) | (simp; omega)), ((Below.refl _ _).alloc (Nat.le_refl _) _).alloc (by first | omega | (simp; done) | (simp; omega)) _, by decide, by decide⟩
  case round =>
    obtain ⟨k, a, b, hk, rfl, hr, hI⟩ := hrel
    have HK := Lib.hid hr
    have HI := Lib.hid hI
    have b0 := hI.cur.cell 0
    have b1 := hI.cur.cell 1
    have hl := hI.cur.lt
    clear hr hI
    by_cases hlt : k < n
    · obtain ⟨ad, z, rfl, hb, hs, hcell⟩ := Ints.at (Reads.below HS.out HI.out.below) hlt
      have HG := Lib.hid hs
      clear hs
      by_cases hq : z < 2 ∨ 128 < z
      · have HQ := Lib.hid hq
        clear hq
        have HN := Lib.hid (ofL_bad HK.out HG.out HQ.out)
        go_wp2_with fail
        refine (set_out a b z HQ.out _).mono ?_
        rintro e w2 ⟨rfl, hb2⟩
        have hR := HI.out.res.below hb2 HI.out.res.lt
        have r0 := hR.cell 0
        have r1 := hR.cell 1
        have r2 := hR.frozen 0
        have r3 := hR.frozen 1
        have hl2 := hR.lt
        have hn2 : ¬ w.heap.size = w2.heap.size := by omega
        have HRb := Lib.hid hR
        clear hR
        go_wp2
        have hF : Blk (((w2.setCell ⟨w.heap.size, 0, none⟩ (.int .u64 0)).setCell ⟨w.heap.size, 1, none⟩ (.int .u64 0)).alloc (.cells #[.int .u64 0, .int .u64 0] 24)) w.heap.size 24 #[.int .u64 0, .int .u64 0] := ((HRb.out.set_ 0 _).set_ 1 _).alloc _
        have f0 := hF.cell 0
        have f1 := hF.cell 1
        have hs1 := HI.out.below.size
        exact bodyPost_ret (v := ofV none) (by simp [results, Tryd.results21, go_sem, f0, f1, ofV]) rfl ⟨by rw [HN.out], (((HI.out.below.trans (hb2.mono hs1)).setCell (by first | omega | (simp; done) | (simp; omega)) _).setCell (by first | omega | (simp; done) | (simp; omega)) _).alloc (by first | omega | (simp; done) | (simp; omega)) _⟩
      · obtain ⟨m, rfl⟩ : ∃ m : Nat, z = m := ⟨z.toNat, by omega⟩
        have h2 : 2 ≤ m := by omega
        have h3 : m ≤ 128 := by omega
        clear hq
        have HN := Lib.hid (ofL_good HK.out HG.out h2 h3)
        have HX := Lib.hid (or63 HI.out.ha (hi_lt m h2))
        go_wp2_with fail
        refine (set_in a b m (Nat.lt_trans HI.out.ha (by decide)) HI.out.hb h2 h3 _).mono ?_
        rintro e w2 ⟨rfl, hb2⟩
        rw [clr_id _ HX.out]
        have hC := HI.out.cur.below hb2 HI.out.cur.lt
        have r0 := hC.cell 0
        have r1 := hC.cell 1
        have r2 := hC.frozen 0
        have r3 := hC.frozen 1
        have hl2 := hC.lt
        have hn2 : ¬ w.heap.size + 1 = w2.heap.size := by omega
        clear hC
        go_wp2
        exact ⟨⟨k + 1, _, _, by omega, y5 k, HN.out, HI.out.next hb2 HX.out (or64 HI.out.hb (lo_lt m))⟩, by simp [intOf]; omega⟩
    · have HN := Lib.hid (ofL_end HK.out HS.out.len hlt)
      have hR := HI.out.res
      have r0 := hR.cell 0
      have r1 := hR.cell 1
      have r2 := hR.frozen 0
      have r3 := hR.frozen 1
      have HRb := Lib.hid hR
      clear hR
      go_wp2
      have hF : Blk ((wr.setCell ⟨w.heap.size, 0, none⟩ (.int .u64 (a : Int))).setCell ⟨w.heap.size, 1, none⟩ (.int .u64 (b : Int))) w.heap.size 24 #[.int .u64 (a : Int), .int .u64 (b : Int)] := (HRb.out.set_ 0 _).set_ 1 _
      have f0 := hF.cell 0
      have f1 := hF.cell 1
      exact bodyPost_ret (v := ofV (some (a, b))) (by simp [results, Tryd.results21, go_sem, f0, f1, ofV]) rfl ⟨by rw [HN.out], (HI.out.below.setCell (by first | omega | (simp; done) | (simp; omega)) _).setCell (by first | omega | (simp; done) | (simp; omega)) _⟩
end Go.Proofs.YtacdfhgamjinbaaDoor
