/-
  CONTRACTS of dates: a calendar's set of holidays, Business.
-/
import Derived.Test.YtaagifggeafgnaaDoorC9
import Derived.Maps.OwnSet
import Derived.Maps.OwnOps
import Derived.Maps.Views
import Derived.Laws.OwnMore
namespace Go.Proofs.YtaagifggeafgnaaDoor
open Go.RowKit Go.Maps
set_option linter.unusedVariables false
set_option linter.unusedSimpArgs false
theorem block_of_add (a : Addr) (n : Nat) : (a.add n).block = a.block := by unfold Addr.add; split <;> rfl
theorem add_of_add (a : Addr) (i j : Nat) : (a.add i).add j = a.add (i + j) := by
  unfold Addr.add
  by_cases hi : i = 0 <;> by_cases hj : j = 0 <;> simp [hi, hj, Nat.add_assoc]

def Reads (w : World) (B size : Nat) (A : Option Addr) (n : Nat) (xs : List Value) : Prop :=
  xs.length = n * size ∧ (0 < n → ∃ ad, A = some ad ∧ ad.block < B ∧ ∀ j u, xs[j]? = some u → w.cell? (ad.add j) = some u)

section
variable {w w' : World} {B B' size n : Nat} {A : Option Addr} {xs : List Value}
theorem Reads.none_ : Reads w B size A 0 [] := ⟨by simp, fun h => absurd h (by omega)⟩
theorem Reads.at_ {k : Nat} (h : Reads w B 1 A n xs) (hk : k < n) : ∃ ad u, A = some ad ∧ ad.block < B ∧ xs[k]? = some u ∧ w.cell? (ad.add k) = some u := by
  obtain ⟨ad, e, hb, hc⟩ := h.2 (by omega)
  have hl : k < xs.length := by have := h.1; omega
  exact ⟨ad, xs[k], e, hb, List.getElem?_eq_getElem hl, hc k _ (List.getElem?_eq_getElem hl)⟩
theorem Reads.keep (h : Reads w B size A n xs) (hk : ∀ p : Addr, p.block < B → w'.cell? p = w.cell? p) : Reads w' B size A n xs :=
  ⟨h.1, fun hn => by
    obtain ⟨ad, e, hb, hc⟩ := h.2 hn
    exact ⟨ad, e, hb, fun j u hu => (hk _ (by rw [block_of_add]; exact hb)).trans (hc j u hu)⟩⟩
theorem Reads.more (h : Reads w B size A n xs) (hB : B ≤ B') : Reads w B' size A n xs :=
  ⟨h.1, fun hn => by
    obtain ⟨ad, e, hb, hc⟩ := h.2 hn
    exact ⟨ad, e, by omega, hc⟩⟩
theorem Reads.below (h : Reads w B size A n xs) (hb : Below B w w') : Reads w' B size A n xs := h.keep fun _ hp => hb.cell hp
theorem Reads.drew (h : Reads w B size A n xs) : Reads w.drew B size A n xs := h
theorem Reads.drewN (h : Reads w B size A n xs) (k : Nat) : Reads (w.drewN k) B size A n xs := h
theorem Reads.alloc (h : Reads w B size A n xs) (hB : B ≤ w.heap.size) (o : Obj) : Reads (w.alloc o) B size A n xs := h.keep fun p hp => World.cell?_alloc_lt w o p (by omega)
theorem Reads.setCell (h : Reads w B size A n xs) {p : Addr} (hB : B ≤ p.block) (u : Value) : Reads (w.setCell p u) B size A n xs :=
  h.keep fun q hq => World.cell?_setCell_other w p q u (fun e => by subst e; omega)
theorem Reads.grown (h : Reads w B size A n xs) {row : Option Nat} (hg : w.grownBy w' row) (hB : B ≤ w.heap.size) (hr : ∀ g, row = some g → B ≤ g) : Reads w' B size A n xs :=
  h.keep fun p hp => World.cell?_of_block (hg.block p.block (by omega) (fun e => by have := hr _ e.symm; omega))
theorem Reads.cut (h : Reads w B size A n xs) {k cap : Nat} (hk : k ≤ n) (hc : n ≤ cap) :
    Reads w B size (if cap = k then A else A.map (·.add (k * size))) (n - k) (xs.drop (k * size)) := by
  refine ⟨by rw [List.length_drop, h.1, Nat.sub_mul], fun hn => ?_⟩
  obtain ⟨ad, rfl, hb, hcell⟩ := h.2 (by omega)
  rw [if_neg (by omega)]
  refine ⟨ad.add (k * size), rfl, by rw [block_of_add]; exact hb, fun j u hu => ?_⟩
  rw [add_of_add]
  exact hcell _ u (by rw [← hu, List.getElem?_drop])
end


abbrev intV (z : Int) : Value := .int .i64 z
def Ints (w : World) (B : Nat) (A : Option Addr) (n : Nat) (zs : List Int) : Prop := Reads w B 1 A n (zs.map intV)
theorem Ints.len {w : World} {B : Nat} {A : Option Addr} {n : Nat} {zs : List Int} (h : Ints w B A n zs) : zs.length = n := by have := h.1; simpa using this
theorem Ints.at {w : World} {B : Nat} {A : Option Addr} {n : Nat} {zs : List Int} (h : Ints w B A n zs) {k : Nat} (hk : k < n) :
    ∃ ad z, A = some ad ∧ ad.block < B ∧ zs[k]? = some z ∧ w.cell? (ad.add k) = some (.int .i64 z) := by
  obtain ⟨ad, u, rfl, hb, hu, hc⟩ := Reads.at_ h hk
  rw [List.getElem?_map] at hu
  obtain ⟨z, hz, rfl⟩ := Option.map_eq_some_iff.1 hu
  exact ⟨ad, z, rfl, hb, hz, hc⟩

theorem law : Keyed Tryd.prog 3 := int_keyed Tryd.underlying3
theorem zeroB (w : World) : (zeroValue 4).run Tryd.prog w = .ok (.bool false) w := by kernel_rfl
/-- A key that is asked for reads so. -/
abbrev keyL (z : Int) : Lit := .int .i64 z
/-- Block c holds a calendar whose holidays are those that S says; m is the block of its map. -/
structure CalAt (w : World) (c m n : Nat) (S : Int → Bool) : Prop where
  cell : w.cell? ⟨c, 0, none⟩ = some (.map (some m))
  own : ∃ D : DataW Unit, w.ownsMap Tryd.prog 3 (plainElem Tryd.prog 4) m n D ∧ ∀ z : Int, (Lit.int .i64 z).wf = true → D.atKey (keyL z) (.lit (.bool false)) = .lit (.bool (S z))
theorem elem_bool {v : Value} {b : Bool} {ps : List MemPlace} (h : plainElem (H := Unit) Tryd.prog 4 v = some (.lit (.bool b), ps)) : v = .bool b := by
  unfold plainElem at h
  rw [show Tryd.prog.underlying 4 = some .bool from Tryd.underlying4] at h
  split at h
  · simp at h; rw [h.1]
  · rename_i heq; simp at heq
  · rename_i heq; simp at heq
  · cases h
theorem CalAt.look {w : World} {c m n : Nat} {S : Int → Bool} (h : CalAt w c m n S) (z : Int) (hz : (Lit.int .i64 z).wf = true) : (Instr.lookup 48 (.map (some m)) (.int .i64 z) false).run Tryd.prog w = .ok (.bool (S z)) w := by
  obtain ⟨D, ho, hS⟩ := h.own
  obtain ⟨v, ps, hrun, hv⟩ := ho.lookup law Tryd.underlying48 (zeroB w) (plainElem_bool Tryd.underlying4 false) (keyOf_int_mk Tryd.underlying3 hz)
  rw [show D.atKey (Lit.int .i64 z) (.lit (.bool false)) = .lit (.bool (S z)) from hS z hz] at hv
  rw [elem_bool hv] at hrun
  exact hrun
theorem CalAt.lt {w : World} {c m n : Nat} {S : Int → Bool} (h : CalAt w c m n S) : c < w.heap.size ∧ m < w.heap.size := by
  obtain ⟨D, ho, _⟩ := h.own
  refine ⟨?_, ho.lt⟩
  rcases Nat.lt_or_ge c w.heap.size with hl | hl
  · exact hl
  · have := h.cell
    simp [World.cell?, Array.getElem?_eq_none hl] at this
theorem CalAt.later {w w' : World} {c m n : Nat} {S : Int → Bool} (h : CalAt w c m n S) (hb : Below w.heap.size w w') : CalAt w' c m n S := by
  obtain ⟨l1, l2⟩ := h.lt
  obtain ⟨D, ⟨es, clock, hh, r⟩, hS⟩ := h.own
  exact ⟨(hb.cell (p := ⟨c, 0, none⟩) l1).trans h.cell, D, ⟨es, clock, (hb.block m l2).trans hh, r⟩, hS⟩
def biz (S : Int → Bool) (z : Int) : Bool := isDt z && (decide ((z + 3) % 7 < 5) && !S z)
theorem ptr_ne (a : Addr) (w : World) : True := trivial
set_option maxHeartbeats 800000 in
theorem biz_any {w : World} {c m n : Nat} {S : Int → Bool} (h : CalAt w c m n S) (z : Int) (hz : (Lit.int .i64 z).wf = true) : Calls Tryd.prog 29 #[.pointer (some ⟨c, 0, none⟩), .int .i64 z] w fun e w' => e = .returned (.bool (biz S z)) ∧ w = w' := by
  have hl := h.look z hz
  have hc := h.cell
  cases hd : isDt z
  · have HR : Hid (biz S z = false) := Lib.hid (by simp [biz, hd])
    have hD := Lib.hid hd
    clear hd h hl
    go_enter Tryd.func29, Tryd.ntmps29
    go_wp2_with fail
    refine (isDate_any _ _ hD).mono ?_
    rintro e w' ⟨rfl, rfl⟩
    go_wp2
    go_ret
    exact ⟨ret_bool HR.out.symm, rfl⟩
  · obtain ⟨z0, z1⟩ : 0 ≤ z ∧ z ≤ 99999 := of_decide_eq_true hd
    obtain ⟨k, rfl⟩ := Int.eq_ofNat_of_zero_le z0
    have HW := Lib.hid (fun w => wday_ok k (by omega) w)
    have hD := Lib.hid hd
    by_cases h5 : ((k : Int) + 3) % 7 < 5
    · have HR : Hid (biz S k = !S k) := Lib.hid (by simp [biz, hd, h5])
      clear hd h
      generalize S k = b at *
      go_enter Tryd.func29, Tryd.ntmps29
      go_wp2_with fail
      refine (isDate_any _ _ hD).mono ?_
      rintro e w' ⟨rfl, rfl⟩
      go_wp2_with fail
      refine (HW.out _).mono ?_
      rintro e w' ⟨rfl, rfl⟩
      go_wp2
      go_ret
      exact ⟨ret_bool HR.out.symm, rfl⟩
    · have HR : Hid (biz S k = false) := Lib.hid (by simp [biz, hd, h5])
      clear hd h hl
      go_enter Tryd.func29, Tryd.ntmps29
      go_wp2_with fail
      refine (isDate_any _ _ hD).mono ?_
      rintro e w' ⟨rfl, rfl⟩
      go_wp2_with fail
      refine (HW.out _).mono ?_
      rintro e w' ⟨rfl, rfl⟩
      go_wp2
      go_ret
      exact ⟨ret_bool HR.out.symm, rfl⟩
end Go.Proofs.YtaagifggeafgnaaDoor
