/-
  CONTRACTS of dates: New.
-/
import Derived.Test.YtaagifggeafgnaaDoorC10
namespace Go.Proofs.YtaagifggeafgnaaDoor
open Go.RowKit Go.Maps
set_option linter.unusedVariables false
set_option linter.unusedSimpArgs false
def hol (zs : List Int) (k : Nat) (z : Int) : Bool := (zs.take k).contains z
theorem hol_succ {zs : List Int} {k : Nat} {x : Int} (h : zs[k]? = some x) (z : Int) : hol zs (k + 1) z = (hol zs k z || z == x) := by
  unfold hol
  obtain ⟨hk, rfl⟩ := List.getElem?_eq_some_iff.1 h
  rw [List.take_succ_eq_append_getElem hk, List.contains_eq_any_beq, List.contains_eq_any_beq, List.any_append]
  simp
theorem hol_all (zs : List Int) {n : Nat} (h : zs.length = n) : hol zs n = fun z => zs.contains z := by
  funext z
  unfold hol
  rw [List.take_of_length_le (by omega)]
theorem CalAt.made (w : World) : CalAt ((w.alloc (.map #[] 0)).alloc (.cells #[.map (some w.heap.size)] 50)) (w.heap.size + 1) w.heap.size 0 (hol [] 0) := by
  refine ⟨?_, .map [], (World.ownsMap_made _ _ _ _).alloc _, fun z hz => rfl⟩
  have : (w.alloc (.map #[] 0)).heap.size = w.heap.size + 1 := by simp
  rw [← this, World.cell?_alloc_new]
  rfl
theorem CalAt.put {w w' : World} {c m k : Nat} {zs : List Int} {x : Int} {D : DataW Unit} (hc : w.cell? ⟨c, 0, none⟩ = some (.map (some m))) (hne : c ≠ m) (hlt : c < w.heap.size) (him : IsMap D)
    (hD : ∀ z : Int, (Lit.int .i64 z).wf = true → D.atKey (keyL z) (.lit (.bool false)) = .lit (.bool (hol zs k z))) (hx : zs[k]? = some x)
    (ho : w'.ownsMap Tryd.prog 3 (plainElem Tryd.prog 4) m (k + 1) (D.put (keyL x) (.lit (.bool true)))) (hg : w.grownBy w' (some m)) : CalAt w' c m (k + 1) (hol zs (k + 1)) := by
  refine ⟨(World.cell?_of_block (hg.block c hlt (fun e => hne (Option.some.inj e)))).trans hc, _, ho, fun z hz => ?_⟩
  rw [hol_succ hx]
  by_cases he : z = x
  · subst he
    rw [atKey_put_same him (by trivial)]
    simp
  · rw [atKey_put_other (fun e => he (by injection e)), hD z hz]
    simp [he]
set_option maxHeartbeats 1600000 in
theorem new_ok (A : Option Addr) (n c : Nat) (zs : List Int) (w : World) (hS : Ints w w.heap.size A n zs) (hn : n ≤ 400) (hc : n ≤ c) (hall : ∀ k, k < n → ∀ z, zs[k]? = some z → isDt z = true) :
    Calls Tryd.prog 26 #[.slice A n c] w fun e w' => e = .returned (.tuple #[.pointer (some ⟨w.heap.size + 1, 0, none⟩), .int .i64 0]) ∧ CalAt w' (w.heap.size + 1) w.heap.size n (fun z => zs.contains z) ∧ Below w.heap.size w w' := by
  have HS := Lib.hid hS
  have HA := Lib.hid hall
  clear hS hall
  have hmm := @run_makeMap Tryd.prog
  have hn4 : ¬ (400 : Int) < (n : Int) := by omega
  go_enter Tryd.func26, Tryd.ntmps26
  go_wp2_with fail
  go_loopw [15] (fun i wr => ∃ k : Nat, k ≤ n ∧ i = .int .i64 (k : Int) ∧ CalAt wr (w.heap.size + 1) w.heap.size k (hol zs k) ∧ Below w.heap.size w wr) (fun i _ => n - (intOf i).toNat)
  case atStart => exact ⟨0, Nat.zero_le _, rfl, by have := CalAt.made w; exact this, ((Below.refl _ _).alloc (Nat.le_refl _) _).alloc (by simp) _⟩
  case round =>
    obtain ⟨k, hk, rfl, hC, hB⟩ := hrel
    by_cases hlt : k < n
    · obtain ⟨ad, z, rfl, hb, hs, hcell⟩ := Ints.at (Reads.below HS.out hB) hlt
      have HD : Hid (isDt z = true) := Lib.hid (HA.out k hlt z hs)
      obtain ⟨z0, z1⟩ : 0 ≤ z ∧ z ≤ 99999 := of_decide_eq_true HD.out
      obtain ⟨D, hown, hat⟩ := hC.own
      have hmc := hC.cell
      have hl := hC.lt
      have hwf : (Lit.int .i64 z).wf = true := WalkArith.wf_i64 (by omega)
      have HX := Lib.hid hs
      have HT := Lib.hid hat
      have HB := Lib.hid hB
      clear hs hat hC hB
      go_wp2_with (first | (go_at_call 35; with_reducible refine (isDate_any _ _ HD).mono ?_; rintro e w' ⟨rfl, rfl⟩) | (at_mapUpdate; refine wpList_mapUpdate_own _ rfl _ _ _ 48 rfl 3 4 law Tryd.underlying48 _ w.heap.size k D rfl hown (by unfold maxLen; omega) _ _ (keyL z) rfl rfl (keyOf_int_mk Tryd.underlying3 hwf) _ [] (plainElem_bool Tryd.underlying4 true) ?_) | go_in)
      intro w1 hown1 hgrow1
      have HC1 := Lib.hid (CalAt.put hmc (by omega) hl.1 hown.isMap HT.out HX.out hown1 hgrow1)
      have HB1 := Lib.hid (HB.out.grown hgrow1 HB.out.size (fun j hj => by cases hj; exact Nat.le_refl _))
      clear hown hmc hl hown1 hgrow1 hcell
      go_wp2
      go_round
      case rel => exact ⟨k + 1, by omega, by go_num, HC1.out, HB1.out⟩
      case measure => simp [intOf]; omega
    · obtain rfl : k = n := by omega
      have HL := Lib.hid (hol_all zs HS.out.len)
      go_wp2
      go_ret2
      exact ⟨rfl, by rw [← HL.out]; exact hC, hB⟩
theorem new_long (A : Option Addr) (n c : Nat) (w : World) (hn : ¬ n ≤ 400) (hm : n ≤ maxLen) :
    Calls Tryd.prog 26 #[.slice A n c] w fun e w' => e = .returned (.tuple #[.pointer none, .int .i64 3]) ∧ w = w' := by
  have hn4 : (400 : Int) < (n : Int) := by omega
  go_enter Tryd.func26, Tryd.ntmps26
  go_wp2
  go_ret2
  exact ⟨rfl, rfl⟩
/-- The first number of a list that is no date. -/
theorem first_bad {zs : List Int} {n : Nat} (h : ¬ ∀ k, k < n → ∀ z, zs[k]? = some z → isDt z = true) : ∃ k z, k < n ∧ zs[k]? = some z ∧ isDt z = false ∧ ∀ j, j < k → ∀ z, zs[j]? = some z → isDt z = true := by
  induction n with
  | zero => exact absurd (fun k hk => absurd hk (by omega)) h
  | succ n ih =>
    by_cases h1 : ∀ k, k < n → ∀ z, zs[k]? = some z → isDt z = true
    · have : ∃ z, zs[n]? = some z ∧ isDt z = false := by
        apply Classical.byContradiction
        intro hc
        apply h
        intro k hk z hz
        rcases Nat.lt_or_ge k n with hl | hl
        · exact h1 k hl z hz
        · obtain rfl : k = n := by omega
          cases hd : isDt z
          · exact absurd ⟨z, hz, hd⟩ hc
          · rfl
      obtain ⟨z, hz, hd⟩ := this
      exact ⟨n, z, by omega, hz, hd, h1⟩
    · obtain ⟨k, z, hk, r⟩ := ih h1
      exact ⟨k, z, by omega, r⟩
set_option maxHeartbeats 1600000 in
theorem new_bad (A : Option Addr) (n c : Nat) (zs : List Int) (w : World) (hS : Ints w w.heap.size A n zs) (hn : n ≤ 400) (hc : n ≤ c) (hall : ¬ ∀ k, k < n → ∀ z, zs[k]? = some z → isDt z = true) :
    Calls Tryd.prog 26 #[.slice A n c] w fun e w' => e = .returned (.tuple #[.pointer none, .int .i64 4]) ∧ Below w.heap.size w w' := by
  obtain ⟨K, zK, hK, hzK, hdK, hbef⟩ := first_bad hall
  have HS := Lib.hid hS
  have HA := Lib.hid hbef
  have HZ := Lib.hid hzK
  have HDK := Lib.hid hdK
  clear hS hall hbef hzK hdK
  have hmm := @run_makeMap Tryd.prog
  have hn4 : ¬ (400 : Int) < (n : Int) := by omega
  go_enter Tryd.func26, Tryd.ntmps26
  go_wp2_with fail
  go_loopw [15] (fun i wr => ∃ k : Nat, k ≤ K ∧ i = .int .i64 (k : Int) ∧ CalAt wr (w.heap.size + 1) w.heap.size k (hol zs k) ∧ Below w.heap.size w wr) (fun i _ => n - (intOf i).toNat)
  case atStart => exact ⟨0, Nat.zero_le _, rfl, by have := CalAt.made w; exact this, ((Below.refl _ _).alloc (Nat.le_refl _) _).alloc (by simp) _⟩
  case round =>
    obtain ⟨k, hk, rfl, hC, hB⟩ := hrel
    have hlt : k < n := by omega
    obtain ⟨ad, z, rfl, hb, hs, hcell⟩ := Ints.at (Reads.below HS.out hB) hlt
    by_cases hKk : k < K
    · have HD : Hid (isDt z = true) := Lib.hid (HA.out k hKk z hs)
      obtain ⟨z0, z1⟩ : 0 ≤ z ∧ z ≤ 99999 := of_decide_eq_true HD.out
      obtain ⟨D, hown, hat⟩ := hC.own
      have hmc := hC.cell
      have hl := hC.lt
      have hwf : (Lit.int .i64 z).wf = true := WalkArith.wf_i64 (by omega)
      have HX := Lib.hid hs
      have HT := Lib.hid hat
      have HB := Lib.hid hB
      clear hs hat hC hB
      go_wp2_with (first | (go_at_call 35; with_reducible refine (isDate_any _ _ HD).mono ?_; rintro e w' ⟨rfl, rfl⟩) | (at_mapUpdate; refine wpList_mapUpdate_own _ rfl _ _ _ 48 rfl 3 4 law Tryd.underlying48 _ w.heap.size k D rfl hown (by unfold maxLen; omega) _ _ (keyL z) rfl rfl (keyOf_int_mk Tryd.underlying3 hwf) _ [] (plainElem_bool Tryd.underlying4 true) ?_) | go_in)
      intro w1 hown1 hgrow1
      have HC1 := Lib.hid (CalAt.put hmc (by omega) hl.1 hown.isMap HT.out HX.out hown1 hgrow1)
      have HB1 := Lib.hid (HB.out.grown hgrow1 HB.out.size (fun j hj => by cases hj; exact Nat.le_refl _))
      clear hown hmc hl hown1 hgrow1 hcell
      go_wp2
      go_round
      case rel => exact ⟨k + 1, by omega, by go_num, HC1.out, HB1.out⟩
      case measure => simp [intOf]; omega
    · obtain rfl : k = K := by omega
      have HD : Hid (isDt z = false) := Lib.hid (by have := HZ.out; rw [hs] at this; cases this; exact HDK.out)
      have HB := Lib.hid hB
      clear hs hC hB
      go_wp2_with (first | (go_at_call 35; with_reducible refine (isDate_any _ _ HD).mono ?_; rintro e w' ⟨rfl, rfl⟩) | go_in)
      go_ret2
      exact ⟨rfl, HB.out⟩
end Go.Proofs.YtaagifggeafgnaaDoor
