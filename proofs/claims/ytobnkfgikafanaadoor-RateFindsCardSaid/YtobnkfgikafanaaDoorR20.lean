/-
  CONTRACTS of rates: lists of rates, and the first stated one.
-/
import Derived.Test.YtobnkfgikafanaaDoorR19
namespace Go.Proofs.YtobnkfgikafanaaDoor
open Go.RowKit
set_option linter.unusedVariables false
set_option linter.unusedSimpArgs false
structure RR where
  f : ByteArray
  t : ByteArray
  n : Int
  d : Int
theorem ad_block (a : Addr) (n : Nat) : (a.add n).block = a.block := by unfold Addr.add; split <;> rfl
theorem ad_add (a : Addr) (i j : Nat) : (a.add i).add j = a.add (i + j) := by
  unfold Addr.add
  by_cases hi : i = 0 <;> by_cases hj : j = 0 <;> simp [hi, hj, Nat.add_assoc]
/-- A slice holds these rates. -/
def Rts (w : World) (B : Nat) (A : Option Addr) (n : Nat) (L : List RR) : Prop :=
  L.length = n ∧ (0 < n → ∃ ad, A = some ad ∧ ad.block < B ∧ ∀ k r, L[k]? = some r → w.cell? (ad.add (k * 4)) = some (.string r.f) ∧ w.cell? ((ad.add (k * 4)).add 1) = some (.string r.t) ∧ w.cell? ((ad.add (k * 4)).add 2) = some (.int .i64 r.n) ∧ w.cell? ((ad.add (k * 4)).add 3) = some (.int .i64 r.d))
theorem Rts.keep {w w' : World} {B n : Nat} {A : Option Addr} {L : List RR} (h : Rts w B A n L) (hk : ∀ p : Addr, p.block < B → w'.cell? p = w.cell? p) : Rts w' B A n L :=
  ⟨h.1, fun hn => by
    obtain ⟨ad, e, hb, hc⟩ := h.2 hn
    refine ⟨ad, e, hb, fun k r hr => ?_⟩
    obtain ⟨c0, c1, c2, c3⟩ := hc k r hr
    refine ⟨?_, ?_, ?_, ?_⟩ <;> (rw [hk _ (by simp only [ad_block]; exact hb)]; assumption)⟩
theorem Rts.below {w w' : World} {B n : Nat} {A : Option Addr} {L : List RR} (h : Rts w B A n L) (hb : Below B w w') : Rts w' B A n L := h.keep fun _ hp => hb.cell hp
theorem Rts.at {w : World} {B n : Nat} {A : Option Addr} {L : List RR} (h : Rts w B A n L) {k : Nat} (hk : k < n) :
    ∃ ad r p, A = some ad ∧ L[k]? = some r ∧ ad.add (k * 4) = p ∧ p.block < B ∧ w.cell? p = some (.string r.f) ∧ w.cell? ⟨p.block, p.off + 1, none⟩ = some (.string r.t) ∧ w.cell? ⟨p.block, p.off + 2, none⟩ = some (.int .i64 r.n) ∧ w.cell? ⟨p.block, p.off + 3, none⟩ = some (.int .i64 r.d) := by
  obtain ⟨ad, e, hb, hc⟩ := h.2 (by omega)
  have hl : k < L.length := by have := h.1; omega
  obtain ⟨c0, c1, c2, c3⟩ := hc k L[k] (List.getElem?_eq_getElem hl)
  exact ⟨ad, L[k], _, e, List.getElem?_eq_getElem hl, rfl, by rw [ad_block]; exact hb, c0, c1, c2, c3⟩
/-- Whether a rate is one that goes from a to b. -/
def hitR (a b : ByteArray) (r : RR) : Prop := r.f = a ∧ r.t = b ∧ chkR r.f r.t r.n r.d = 0
instance (a b : ByteArray) (r : RR) : Decidable (hitR a b r) := by unfold hitR; exact inferInstance
def zeroR : RR := ⟨⟨#[]⟩, ⟨#[]⟩, 0, 0⟩
def firstR (a b : ByteArray) (L : List RR) : RR := (L.find? fun r => decide (hitR a b r)).getD zeroR
theorem first_hit {a b : ByteArray} {L : List RR} {k : Nat} {r : RR} (hr : L[k]? = some r) (h : hitR a b r) (hno : ∀ j x, j < k → L[j]? = some x → ¬ hitR a b x) : L.find? (fun r => decide (hitR a b r)) = some r := by
  induction L generalizing k with
  | nil => simp at hr
  | cons y l ih =>
    cases k with
    | zero =>
      simp at hr
      subst hr
      simp [h]
    | succ k =>
      have hy := hno 0 y (by omega) rfl
      rw [List.find?_cons_of_neg (by simpa using hy)]
      exact ih (by simpa using hr) (fun j x hj hx => hno (j + 1) x (by omega) (by simpa using hx))
theorem first_none {a b : ByteArray} {L : List RR} (hno : ∀ j x, j < L.length → L[j]? = some x → ¬ hitR a b x) : L.find? (fun r => decide (hitR a b r)) = none := by
  rw [List.find?_eq_none]
  intro x hx
  obtain ⟨j, hj, rfl⟩ := List.getElem_of_mem hx
  simpa using hno j _ hj (List.getElem?_eq_getElem hj)
def okL (L : List RR) : Prop := ∀ r ∈ L, r.f.size ≤ 1000 ∧ r.t.size ≤ 1000
theorem no_snoc {a b : ByteArray} {L : List RR} {k : Nat} {r : RR} (h : ∀ j x, j < k → L[j]? = some x → ¬ hitR a b x) (hr : L[k]? = some r) (hn : ¬ hitR a b r) : ∀ j x, j < k + 1 → L[j]? = some x → ¬ hitR a b x := fun j x hj hx => by
  rcases Nat.lt_or_ge j k with hl | hl
  · exact h j x hl hx
  · obtain rfl : j = k := by omega
    rw [hr] at hx
    cases hx
    exact hn
theorem rr_mem {L : List RR} {k : Nat} {x : RR} (h : L[k]? = some x) : x ∈ L := List.mem_of_getElem? h
set_option maxRecDepth 20000 in
set_option maxHeartbeats 6400000 in
theorem rstated_any (A : Option Addr) (n c : Nat) (L : List RR) (w : World) (hS : Rts w w.heap.size A n L) (hn : n ≤ 1000) (hc : n ≤ c) (hL : okL L) (a b : ByteArray) (ha : a.size ≤ 1000) (hb : b.size ≤ 1000) {r : RR} {y : Bool} (H : Hid (firstR a b L = r ∧ (L.find? fun r => decide (hitR a b r)).isSome = y)) :
    Calls Tryd.prog 56 #[.slice A n c, .string a, .string b] w fun e w' => e = .returned (.tuple #[.agg #[.string r.f, .string r.t, .int .i64 r.n, .int .i64 r.d], .bool y]) ∧ Below w.heap.size w w' := by
  have HS := Lib.hid hS
  have HL := Lib.hid hL
  clear hS hL
  go_enter Tryd.func56, Tryd.ntmps56
  go_wp2_with fail
  go_loopw [8] (fun i wr => ∃ k : Nat, k ≤ n ∧ i = .int .i64 (k : Int) ∧ (∀ j x, j < k → L[j]? = some x → ¬ hitR a b x) ∧ Blk wr w.heap.size 23 #[.string ⟨#[]⟩, .string ⟨#[]⟩, .int .i64 0, .int .i64 0] ∧ Below w.heap.size w wr) (fun i _ => n - (intOf i).toNat)
  case atStart => exact ⟨0, Nat.zero_le _, rfl, fun j x hj => absurd hj (by omega), Blk.new _ _ _, (Below.refl _ _).alloc (Nat.le_refl _) _⟩
  case round =>
    obtain ⟨k, hk, rfl, hno, hA, hB⟩ := hrel
    have HN := Lib.hid hno
    have HA := Lib.hid hA
    have HB := Lib.hid hB
    clear hno
    by_cases hlt : k < n
    · obtain ⟨ad, x, p, rfl, hx, hp, hpb, c0, c1, c2, c3⟩ := Rts.at (Rts.below HS.out hB) hlt
      have HX := Lib.hid hx
      have hpl : p.block < wr.heap.size := Nat.lt_of_lt_of_le hpb hB.size
      have HPL := Lib.hid hpl
      have hsz := HL.out _ (rr_mem hx)
      clear hA hB hx
      by_cases h0 : x.f = a
      case neg =>
        have e0 := str_ne h0
        go_wp2
        go_round
        case rel => exact ⟨k + 1, by omega, by go_num, no_snoc HN.out HX.out (fun h => h0 h.1), HA.out, HB.out⟩
        case measure => simp [intOf]; omega
      by_cases h1 : x.t = b
      case neg =>
        have e1 := str_ne h1
        go_wp2
        go_round
        case rel => exact ⟨k + 1, by omega, by go_num, no_snoc HN.out HX.out (fun h => h1 h.2.1), HA.out, HB.out⟩
        case measure => simp [intOf]; omega
      by_cases h2 : chkR x.f x.t x.n x.d = 0
      case neg =>
        have CK := Lib.hid (fun w => rchk_any a b x.n x.d (by omega) (by omega) (Lib.hid (show chkR a b x.n x.d = chkR x.f x.t x.n x.d by rw [h0, h1])) w)
        have g2 : ¬ hitR a b x := fun h => h2 h.2.2
        have e2 : (chkR x.f x.t x.n x.d == 0) = false := by simp [h2]
        generalize chkR x.f x.t x.n x.d = e at *
        go_wp2_with fail
        with_reducible refine (CK.out _).mono ?_
        rintro z w1 ⟨rfl, hP⟩
        have HA1 := Lib.hid (HA.out.below hP.below HA.out.lt)
        have HB1 := Lib.hid (HB.out.trans (hP.below.mono HB.out.size))
        clear hP c0 c1 c2 c3
        go_wp2
        go_round
        case rel => exact ⟨k + 1, by omega, by go_num, no_snoc HN.out HX.out g2, HA1.out, HB1.out⟩
        case measure => simp [intOf]; omega
      have CK := Lib.hid (fun w => rchk_any a b x.n x.d (by omega) (by omega) (Lib.hid (show chkR a b x.n x.d = 0 by rw [← h0, ← h1]; exact h2)) w)
      obtain rfl : r = x := by rw [← H.out.1, firstR, first_hit HX.out ⟨h0, h1, h2⟩ HN.out]; rfl
      obtain rfl : y = true := by rw [← H.out.2, first_hit HX.out ⟨h0, h1, h2⟩ HN.out]; rfl
      go_wp2_with fail
      with_reducible refine (CK.out _).mono ?_
      rintro z w1 ⟨rfl, hP⟩
      have HA1 := Lib.hid (HA.out.below hP.below HA.out.lt)
      have HB1 := Lib.hid (HB.out.trans (hP.below.mono HB.out.size))
      have d0 := (hP.below.cell (p := p) HPL.out).trans c0
      have d1 := (hP.below.cell (p := ⟨p.block, p.off + 1, none⟩) HPL.out).trans c1
      have d2 := (hP.below.cell (p := ⟨p.block, p.off + 2, none⟩) HPL.out).trans c2
      have d3 := (hP.below.cell (p := ⟨p.block, p.off + 3, none⟩) HPL.out).trans c3
      have a0 := HA1.out.cell 0
      have a1 := HA1.out.cell 1
      have a2 := HA1.out.cell 2
      have a3 := HA1.out.cell 3
      have af0 := HA1.out.frozen 0
      have af1 := HA1.out.frozen 1
      have af2 := HA1.out.frozen 2
      have af3 := HA1.out.frozen 3
      have al := HA1.out.lt
      clear hP c0 c1 c2 c3
      go_wp2
      have hF : Blk ((((w1.setCell ⟨w.heap.size, 0, none⟩ (.string a)).setCell ⟨w.heap.size, 1, none⟩ (.string b)).setCell ⟨w.heap.size, 2, none⟩ (.int .i64 r.n)).setCell ⟨w.heap.size, 3, none⟩ (.int .i64 r.d)) (w.heap.size) 23 #[.string a, .string b, .int .i64 r.n, .int .i64 r.d] := ((((HA1.out.set_ 0 _).set_ 1 _).set_ 2 _).set_ 3 _)
      have f0 := hF.cell 0
      have f1 := hF.cell 1
      have f2 := hF.cell 2
      have f3 := hF.cell 3
      exact bodyPost_ret (v := .tuple #[.agg #[.string a, .string b, .int .i64 r.n, .int .i64 r.d], .bool true]) (by simp [results, Tryd.results56, go_sem, f0, f1, f2, f3]) rfl ⟨(by rw [h0, h1]), ((((HB1.out.setCell (Nat.le_refl _) _).setCell (Nat.le_refl _) _).setCell (Nat.le_refl _) _).setCell (Nat.le_refl _) _)⟩
    · obtain rfl : k = n := by omega
      have hno : (L.find? fun r => decide (hitR a b r)) = none := first_none (by rw [HS.out.1]; exact HN.out)
      obtain rfl : r = zeroR := by rw [← H.out.1, firstR, hno]; rfl
      obtain rfl : y = false := by rw [← H.out.2, hno]; rfl
      have a0 := HA.out.cell 0
      have a1 := HA.out.cell 1
      have a2 := HA.out.cell 2
      have a3 := HA.out.cell 3
      have af0 := HA.out.frozen 0
      have af1 := HA.out.frozen 1
      have af2 := HA.out.frozen 2
      have af3 := HA.out.frozen 3
      have al := HA.out.lt
      clear hA hB hno
      go_wp2
      have hF : Blk ((((wr.setCell ⟨w.heap.size, 0, none⟩ (.string ⟨#[]⟩)).setCell ⟨w.heap.size, 1, none⟩ (.string ⟨#[]⟩)).setCell ⟨w.heap.size, 2, none⟩ (.int .i64 0)).setCell ⟨w.heap.size, 3, none⟩ (.int .i64 0)) (w.heap.size) 23 #[.string ⟨#[]⟩, .string ⟨#[]⟩, .int .i64 0, .int .i64 0] := ((((HA.out.set_ 0 _).set_ 1 _).set_ 2 _).set_ 3 _)
      have f0 := hF.cell 0
      have f1 := hF.cell 1
      have f2 := hF.cell 2
      have f3 := hF.cell 3
      exact bodyPost_ret (v := .tuple #[.agg #[.string ⟨#[]⟩, .string ⟨#[]⟩, .int .i64 0, .int .i64 0], .bool false]) (by simp [results, Tryd.results56, go_sem, f0, f1, f2, f3]) rfl ⟨rfl, ((((HB.out.setCell (Nat.le_refl _) _).setCell (Nat.le_refl _) _).setCell (Nat.le_refl _) _).setCell (Nat.le_refl _) _)⟩
end Go.Proofs.YtobnkfgikafanaaDoor
