/-
  PROVED: for every list of gaps and any two windows, the law VelocityWindows returns true: a greater window does not count fewer uses, and what is added and removed does not change the counts. Conditions: none besides the form's own reach.
-/
import Derived.Test.YtkfiekpinojahabVK9
import Derived.ChangeSlices
import Derived.Test.YtkfiekpinojahabRows
import Derived.WalkKit
import Derived.ProofKit
import Derived.OpenShut
import Derived.ShutString
import Derived.ChangeOld
import Derived.Below
namespace Go.Proofs.Ytkfiekpinojahab.velocityWindows
open Go.ChangeShapes Go.WideShapes Go.ChangeAt Go.RowKit
open Go.ChangeMaps (open_string shut_string)
set_option linter.unusedVariables false
def kB : ByteArray := ⟨#[107]⟩
def fK (i : Nat) : ByteArray := kB
def mK (i : Nat) : Int := 1
def wsS (G : List Int) (k : Nat) : VS := ⟨100000, acc G k, fulE fK mK G k⟩
theorem old_zero {us : List UR} {b : Int} (h : ∀ x ∈ us, b < x.a) : oldS us b = 0 := by
  unfold oldS
  cases us with
  | nil => rfl
  | cons x l =>
    rw [List.takeWhile_cons_of_neg (by have := h x (List.mem_cons_self ..); simp; omega)]
    rfl
theorem fulE_mem {f : Nat → ByteArray} {m : Nat → Int} {G : List Int} {k : Nat} {x : UR} (h : x ∈ fulE f m G k) : ∃ j, j < k ∧ x = useE f m G j := by
  obtain ⟨j, hj, rfl⟩ := List.mem_map.1 h
  exact ⟨j, List.mem_range.1 hj, rfl⟩
theorem ws_old {G : List Int} (hG : ∀ x ∈ G, 0 ≤ x ∧ x < 256) (k : Nat) {y : Int} (hy : y < 100000) : oldS (wsS G k).us (y - 100000) = 0 := old_zero fun x hx => by
  obtain ⟨j, _, rfl⟩ := fulE_mem hx
  have := (acc_bound hG (j + 1)).1
  unfold useE
  simp only
  omega
theorem ws_add {G : List Int} (hG : ∀ x ∈ G, 0 ≤ x ∧ x < 256) (k : Nat) {y m : Int} (hy : y < 100000) : addS (wsS G k) kB y m = ⟨100000, y, fulE fK mK G k ++ [⟨kB, y, m⟩]⟩ := by
  unfold addS
  rw [show ((wsS G k).hor : Int) = 100000 from rfl, ws_old hG k hy]
  rfl
theorem ws_step {G : List Int} (hG : ∀ x ∈ G, 0 ≤ x ∧ x < 256) (k : Nat) (hy : acc G (k + 1) < 100000) : addS (wsS G k) kB (acc G (k + 1)) 1 = wsS G (k + 1) := by
  rw [ws_add hG k hy]
  unfold wsS
  rw [fulE_succ]
  rfl
theorem sum_ones {l : List UR} (h : ∀ x ∈ l, x.m = 1) : sumU l = l.length := by
  induction l with
  | nil => rfl
  | cons x l ih =>
    have h1 := ih (fun y hy => h y (List.mem_cons_of_mem _ hy))
    have h2 := h x (List.mem_cons_self ..)
    simp only [sumU, List.map_cons, List.sum_cons, List.length_cons] at h1 ⊢
    rw [h1, h2]
    omega
theorem ws_mono (us : List UR) (key : ByteArray) (a : Int) {n m : Int} (h : n ≤ m) : (wS us key a n).length ≤ (wS us key a m).length := by
  induction us with
  | nil => exact Nat.le_refl _
  | cons x l ih =>
    unfold wS at ih ⊢
    rw [List.filter_cons, List.filter_cons]
    by_cases h1 : inW key a n x = true
    · have h2 : inW key a m x = true := by
        unfold inW at h1 ⊢
        simp only [decide_eq_true_eq] at h1 ⊢
        exact ⟨h1.1, by omega, h1.2.2⟩
      rw [if_pos h1, if_pos h2]
      simp only [List.length_cons]
      omega
    · rw [if_neg h1]
      split
      · simp only [List.length_cons]
        omega
      · exact ih
theorem m20000 (a : Nat) : (a : Int) % 20000 = ((a % 20000 : Nat) : Int) := by omega
set_option maxHeartbeats 3200000 in
set_option maxRecDepth 5000 in
theorem walk0 (A : Option Addr) (gk gc : Nat) (G : List Int) (wi mo : Nat) (w : World) (lS : Us w w.heap.size A gk G) (lL : ∀ r ∈ G, 0 ≤ r ∧ r < 256) :
    Calls Try.prog 5 #[.slice A gk gc, .int .u16 (wi : Int), .int .u16 (mo : Int)] w fun e w' => e = .returned (.bool true) ∧ Below w.heap.size w w' := by
  obtain ⟨p, hp, hp2⟩ : ∃ p : Nat, (wi : Int) % 20000 = (p : Int) ∧ p < 20000 := ⟨wi % 20000, m20000 wi, Nat.mod_lt _ (by decide)⟩
  obtain ⟨q, hq, hq2⟩ : ∃ q : Nat, (mo : Int) % 20000 = (q : Int) ∧ q < 20000 := ⟨mo % 20000, m20000 mo, Nat.mod_lt _ (by decide)⟩
  obtain ⟨n, hn⟩ : ∃ n : Nat, 1 + (p : Int) = (n : Int) := ⟨1 + p, by omega⟩
  obtain ⟨m, hm⟩ : ∃ m : Nat, (n : Int) + (q : Int) = (m : Int) := ⟨n + q, by omega⟩
  have HN := Lib.hid (show 1 ≤ n ∧ n ≤ m ∧ m ≤ 40000 by omega)
  have AW := Lib.hid awake_any
  have HG := Lib.hid lL
  have HS := Lib.hid lS
  clear lL lS
  go_enter Try.func5, Try.ntmps5
  go_wp2_with fail
  refine (new_any 100000 (by omega) (by omega) w (K := w.heap.size) (Nat.le_refl _)).mono ?_
  rintro e w1 ⟨D, rfl, hr, hB⟩
  have HR := Lib.hid hr
  have HB := Lib.hid hB
  clear hr hB
  by_cases hg60 : gk ≤ 60
  case neg =>
    have g1 : decide ((60 : Int) < (gk : Int)) = true := decide_eq_true (by omega)
    clear hg60
    go_wp2_with fail
    refine (AW.out _).mono ?_
    rintro e w3 ⟨rfl, hB3⟩
    go_wp2
    go_ret
    exact ⟨rfl, HB.out.trans (hB3.mono HB.out.size)⟩
  have g1 : decide ((60 : Int) < (gk : Int)) = false := decide_eq_false (by omega)
  have HG60 := Lib.hid hg60
  have HX1 : Hid (∀ W v s, Left w1 W w.heap.size D (.slice none 0 0) v s → Below w.heap.size w W) := Lib.hid fun W v s hL => HB.out.trans (hL.below HR.out (Nat.le_refl _) HB.out.size)
  go_wp2_with fail
  go_loopw [9, 10] (fun nv i wr => ∃ k : Nat, k ≤ gk ∧ i = .int .i64 (k : Int) ∧ nv = .int .i64 (acc G k) ∧ ∃ v', Left w1 wr w.heap.size D (.slice none 0 0) v' (wsS G k)) (fun _ i _ => gk - (intOf i).toNat)
  case atStart => exact ⟨0, by omega, rfl, rfl, _, Left.same HR.out (Below.refl _ _)⟩
  case round =>
    obtain ⟨k, hk, rfl, rfl, v', hL⟩ := hrel
    have HL := Lib.hid hL
    clear hL
    by_cases hlt : k < gk
    · obtain ⟨ad, x, p2, rfl, hx, hp2, hpb, c0⟩ := Us.at (HS.out.below (HX1.out wr v' _ HL.out)) hlt
      have hxr := HG.out x (List.mem_of_getElem? hx)
      have hacc := acc_succ hx
      have hb1 := acc_bound HG.out (k + 1)
      obtain ⟨y, hy⟩ : ∃ y, y = acc G (k + 1) := ⟨_, rfl⟩
      have hya : acc G k + x = y := by rw [hy]; exact hacc.symm
      rw [← hy] at hb1
      have hyw : wrap64 y = y := by unfold wrap64; omega
      have HY := Lib.hid hy
      have HYB := Lib.hid hb1
      have hpl : p2.block < wr.heap.size := by have := (HX1.out wr v' _ HL.out).size; omega
      obtain ⟨hx2, hx3⟩ := hxr
      clear hx hacc hy hb1 hpb
      go_wp2_with fail
      have hy5 : y < 100000 := by have := HYB.out.2; have := HG60.out; omega
      have hok : AddOk (wsS G k) kB y 1 := ⟨by decide, by decide, HYB.out.1, by omega, by show acc G k ≤ y; omega, by decide, by decide⟩
      have hful : (wsS G k).us.length - oldS (wsS G k).us (y - (wsS G k).hor) < 1000 := by
        have h1 : (wsS G k).us.length = k := fulE_len _ _ _ _
        have := HG60.out
        omega
      have hst : addS (wsS G k) kB y 1 = wsS G (k + 1) := by rw [HY.out]; exact ws_step HG.out k (by rw [← HY.out]; exact hy5)
      refine (add_eq HL.out.rep hok hful hst).mono ?_
      rintro e w6 ⟨rfl, v6, hL6⟩
      have HL6 := Lib.hid hL6
      clear hL6 hok hful hst hy5
      go_wp2_with fail
      go_round
      case rel => exact ⟨k + 1, by omega, by go_num, by rw [HY.out], v6, HL.out.trans HL6.out⟩
      case measure => simp [intOf]; omega
    · obtain rfl : k = gk := by omega
      have hb1 := acc_bound HG.out k
      obtain ⟨a, ha⟩ : ∃ a, a = acc G k := ⟨_, rfl⟩
      have HA := Lib.hid (show 0 ≤ a ∧ a < 100000 ∧ a ≤ 1099511627776 by have := HG60.out; omega)
      have HAE := Lib.hid ha
      have hs0 : wsS G k = ⟨100000, a, fulE fK mK G k⟩ := by unfold wsS; rw [ha]
      rw [← ha]
      have hL0 := HL.out
      rw [hs0] at hL0
      clear HL
      have HL := Lib.hid hL0
      obtain ⟨c0, hc0⟩ : ∃ c : Nat, c = (wS (fulE fK mK G k) kB a n).length := ⟨_, rfl⟩
      obtain ⟨c1, hc1⟩ : ∃ c : Nat, c = (wS (fulE fK mK G k) kB a m).length := ⟨_, rfl⟩
      have hw : ∀ (us : List UR) (t : Int), 1 ≤ t → t ≤ 40000 → wL ⟨100000, a, us⟩ kB a t = wS us kB a t := fun us t h1 h2 => by
        unfold wL
        rw [if_neg (by simp only; omega)]
      have hle : c0 ≤ c1 := by rw [hc0, hc1]; exact ws_mono _ _ _ (by have := HN.out; omega)
      have hclen : c0 ≤ k := by
        have h1 := List.length_filter_le (inW kB a n) (fulE fK mK G k)
        rw [fulE_len] at h1
        rw [hc0]
        exact h1
      have C0 : Hid (((wL ⟨100000, a, fulE fK mK G k⟩ kB a n).length : Int) = (c0 : Int)) := Lib.hid (by rw [hw _ _ (by have := HN.out; omega) (by have := HN.out; omega), hc0])
      have C1 : Hid (((wL ⟨100000, a, fulE fK mK G k⟩ kB a m).length : Int) = (c1 : Int)) := Lib.hid (by rw [hw _ _ (by have := HN.out; omega) (by have := HN.out; omega), hc1])
      have C2 : Hid (((wL ⟨100000, a, fulE fK mK G k⟩ kB a 100001).length : Int) = 0) := Lib.hid (by unfold wL; rw [if_pos (.inr (show (100000 : Int) < 100001 by decide))]; rfl)
      have C3 : Hid (((wL ⟨100000, a, fulE fK mK G k⟩ kB a 0).length : Int) = 0) := Lib.hid (by unfold wL; rw [if_pos (.inl (by decide))]; rfl)
      have C4 : Hid (sumU (wL ⟨100000, a, fulE fK mK G k⟩ kB a n) = (c0 : Int)) := Lib.hid (by
        rw [hw _ _ (by have := HN.out; omega) (by have := HN.out; omega), sum_ones (fun x hx => ?_), hc0]
        obtain ⟨j, _, rfl⟩ := fulE_mem (List.mem_filter.1 hx).1
        rfl)
      have C5 : Hid (((wL ⟨100000, a, fulE fK mK G k ++ [⟨kB, a, 9⟩]⟩ kB a n).length : Int) = (c0 : Int) + 1) := Lib.hid (by
        rw [hw _ _ (by have := HN.out; omega) (by have := HN.out; omega)]
        unfold wS at hc0 ⊢
        rw [List.filter_append, List.length_append, ← hc0, List.filter_cons, if_pos (by unfold inW; simp only [decide_eq_true_eq]; have := HN.out; exact ⟨trivial, by omega, by omega⟩)]
        rfl)
      have hok : AddOk ⟨100000, a, fulE fK mK G k⟩ kB a 9 := ⟨by decide, by decide, HA.out.1, HA.out.2.2, Int.le_refl _, by decide, by decide⟩
      have HOK := Lib.hid hok
      have hful : (fulE fK mK G k).length - oldS (fulE fK mK G k) (a - 100000) < 1000 := by
        rw [fulE_len]
        have := HG60.out
        omega
      have HFU := Lib.hid hful
      have hst : addS ⟨100000, a, fulE fK mK G k⟩ kB a 9 = ⟨100000, a, fulE fK mK G k ++ [⟨kB, a, 9⟩]⟩ := by
        have := ws_add (m := 9) HG.out k (y := a) HA.out.2.1
        rw [hs0] at this
        exact this
      have HST := Lib.hid hst
      have HLE := Lib.hid (decide_eq_false (show ¬ ((c1 : Int) < (c0 : Int)) by omega))
      have hcle := HLE.out
      have HCL := Lib.hid hclen
      have hc60 : c0 ≤ 60 := by have := HG60.out; omega
      clear hb1 ha hs0 hL0 hc0 hc1 hw hclen hok hful hst hcle
      go_wp2_with fail
      refine (count_any HL.out.rep _ a n HA.out.1 HA.out.2.2 (c := (c0 : Int)) C0.out).mono ?_
      rintro e w2 ⟨rfl, hL⟩
      have HL2 := Lib.hid (HL.out.trans hL)
      clear HL hL
      have HL := HL2
      clear HL2
      go_wp2_with fail
      refine (count_any HL.out.rep _ a m HA.out.1 HA.out.2.2 (c := (c1 : Int)) C1.out).mono ?_
      rintro e w2 ⟨rfl, hL⟩
      have HL2 := Lib.hid (HL.out.trans hL)
      clear HL hL
      have HL := HL2
      clear HL2
      go_wp2_with fail
      refine (count_any HL.out.rep _ a 100001 HA.out.1 HA.out.2.2 (c := 0) C2.out).mono ?_
      rintro e w2 ⟨rfl, hL⟩
      have HL2 := Lib.hid (HL.out.trans hL)
      clear HL hL
      have HL := HL2
      clear HL2
      go_wp2_with fail
      refine (count_any HL.out.rep _ a 0 HA.out.1 HA.out.2.2 (c := 0) C3.out).mono ?_
      rintro e w2 ⟨rfl, hL⟩
      have HL2 := Lib.hid (HL.out.trans hL)
      clear HL hL
      have HL := HL2
      clear HL2
      go_wp2_with fail
      refine (sum_any HL.out.rep _ a n HA.out.1 HA.out.2.2 (c := (c0 : Int)) C4.out).mono ?_
      rintro e w2 ⟨rfl, hL⟩
      have HL2 := Lib.hid (HL.out.trans hL)
      clear HL hL
      have HL := HL2
      clear HL2
      go_wp2_with fail
      refine (add_eq HL.out.rep HOK.out HFU.out HST.out).mono ?_
      rintro e w2 ⟨rfl, v2, hL⟩
      have HL2 := Lib.hid (HL.out.trans hL)
      clear HL hL
      have HL := HL2
      clear HL2
      go_wp2_with fail
      refine (count_any HL.out.rep _ a n HA.out.1 HA.out.2.2 (c := (c0 : Int) + 1) C5.out).mono ?_
      rintro e w2 ⟨rfl, hL⟩
      have HL2 := Lib.hid (HL.out.trans hL)
      clear HL hL
      have HL := HL2
      clear HL2
      go_wp2_with fail
      refine (rem_last (us := fulE fK mK G k) (x := ⟨kB, a, 9⟩) HL.out.rep rfl).mono ?_
      rintro e w2 ⟨rfl, v2, hL⟩
      have HL2 := Lib.hid (HL.out.trans hL)
      clear HL hL
      have HL := HL2
      clear HL2
      go_wp2_with fail
      refine (rem_none HL.out.rep kB a 9 (fun x hx => by obtain ⟨j, _, rfl⟩ := fulE_mem hx; rfl) (fun x hx => by obtain ⟨j, _, rfl⟩ := fulE_mem hx; exact (show (1 : Int) ≠ 9 by decide))).mono ?_
      rintro e w2 ⟨rfl, hL⟩
      have HL2 := Lib.hid (HL.out.trans hL)
      clear HL hL
      have HL := HL2
      clear HL2
      go_wp2_with fail
      refine (count_any HL.out.rep _ a n HA.out.1 HA.out.2.2 (c := (c0 : Int)) C0.out).mono ?_
      rintro e w2 ⟨rfl, hL⟩
      have HL2 := Lib.hid (HL.out.trans hL)
      clear HL hL
      have HL := HL2
      clear HL2
      go_wp2_with fail
      refine (len_any HL.out.rep (c := (k : Int)) (by show ((fulE fK mK G k).length : Int) = (k : Int); rw [fulE_len])).mono ?_
      rintro e w2 ⟨rfl, hL⟩
      have HL2 := Lib.hid (HL.out.trans hL)
      clear HL hL
      have HL := HL2
      clear HL2
      go_wp2_with fail
      refine (AW.out _).mono ?_
      rintro e w3 ⟨rfl, hB3⟩
      go_wp2
      go_ret
      have hb := HX1.out _ _ _ HL.out
      exact ⟨rfl, hb.trans (hB3.mono hb.size)⟩
theorem walk (A : Option Addr) (gk gc : Nat) (G : List Int) (wi mo : Int) (w : World) (lS : Us w w.heap.size A gk G) (lL : ∀ r ∈ G, 0 ≤ r ∧ r < 256) (h1 : (Lit.int .u16 wi).wf = true) (h2 : (Lit.int .u16 mo).wf = true) :
    Calls Try.prog 5 #[.slice A gk gc, .int .u16 wi, .int .u16 mo] w fun e w' => e = .returned (.bool true) ∧ Below w.heap.size w w' := by
  obtain ⟨a1, -⟩ := u16_in h1
  obtain ⟨b1, -⟩ := u16_in h2
  obtain ⟨i, rfl⟩ : ∃ n : Nat, wi = (n : Int) := ⟨wi.toNat, by omega⟩
  obtain ⟨l, rfl⟩ : ∃ n : Nat, mo = (n : Int) := ⟨mo.toNat, by omega⟩
  exact walk0 A gk gc G i l w lS lL

theorem own : ownKnob Try.prog.godebug = none := by kernel_rfl
theorem laidOut : laidOutB Try.prog = true := by kernel_rfl
set_option maxRecDepth 100000 in
theorem lifted (os : Os) (started : os.Started) (H : Type) (enc : TypeId × Value → H) :
    ReturnsInHanded {} Try.checked os 5 .any (Rows.velocityWindowsSpec.pre6 enc Try.prog Try.f5 Rows.velocityWindowsRow.domain false) (Rows.velocityWindowsSpec.post enc Try.prog Try.f5 false true false false) := by
  refine returnsInHanded_of_change (C := Try.checked) own started (by kernel_rfl) Try.func5
    (ChangeSpec.witness6 (enc := enc) (C := Try.checked) false ⟨#[], #[.slice none 0 0, .int .u16 0, .int .u16 0], []⟩ 8 (by kernel_rfl) (by kernel_rfl) (by kernel_rfl) (by kernel_rfl)) ?_
  intro W base args ds gs before hval0 hW hcnd _
  have hval : ∀ (j : Nat) t v, Try.f5.params[j]? = some t → args[j]? = some v → Value.okWide Try.prog W .any base t v := hval0
  have hW' := hW
  obtain ⟨p, q, hA0, hV, rfl, hfz, hnd⟩ := hW
  have hA : DataW.TrodAll enc Try.prog W 0 (fun _ => true) true Try.f5.params.toList args.toList ds p := hA0
  rw [Try.params5] at hA hval
  obtain ⟨v0, vs0, d0, ds0, p0, q0, hargs, rfl, rfl, h0, r0⟩ := trodAll_cons hA
  obtain ⟨v1, vs1, d1, ds1, p1, q1, rfl, rfl, rfl, h1, r1⟩ := trodAll_cons r0
  obtain ⟨v2, vs2, d2, ds2, p2, q2, rfl, rfl, rfl, h2, r2⟩ := trodAll_cons r1
  obtain ⟨rfl, rfl, rfl⟩ := trodAll_nil r2
  obtain rfl : args = #[v0, v1, v2] := by cases args; simp_all
  obtain ⟨rfl, rfl⟩ := trodVars_none hV
  have k0 := h0
  have lt0 : ∀ x ∈ p0, x.block < W.heap.size := by obtain ⟨m, hm⟩ := k0; exact DataW.trod_lt m _ _ _ hm
  obtain ⟨zA, zk, zc, zL, rfl, lk, lc, lS, lL⟩ := open_u8T (hval 0 41 v0 rfl rfl) h0
  have k1 := h1
  have lt1 : ∀ x ∈ p1, x.block < W.heap.size := by obtain ⟨m, hm⟩ := k1; exact DataW.trod_lt m _ _ _ hm
  obtain ⟨a1, rfl, -, -, w1⟩ := open_int Try.underlying42 (hval 1 42 v1 rfl rfl) h1
  have k2 := h2
  have lt2 : ∀ x ∈ p2, x.block < W.heap.size := by obtain ⟨m, hm⟩ := k2; exact DataW.trod_lt m _ _ _ hm
  obtain ⟨a2, rfl, -, -, w2⟩ := open_int Try.underlying42 (hval 2 42 v2 rfl rfl) h2
  clear hA0 hval0
  refine (walk zA zk zc zL a1 a2 W lS lL w1 w2).mono fun e W' ⟨he, bel⟩ => ?_
  subst he
  exact ⟨_, rfl, _, _, _, [], _, [], hW', trodAll_mk1 (shut_bool Try.underlying4 _), (trodAll_cons_mk (Below.trod laidOut (by kernel_rfl) (of_decide_eq_true (by kernel_rfl)) k0 bel lt0) (trodAll_cons_mk (Below.trod laidOut (by kernel_rfl) (of_decide_eq_true (by kernel_rfl)) k1 bel lt1) (trodAll_cons_mk (Below.trod laidOut (by kernel_rfl) (of_decide_eq_true (by kernel_rfl)) k2 bel lt2) trodAll_mk0))), rfl, bel.frame _, fun h => by cases h⟩

theorem over : Rows.velocityWindowsRow.holds Try.pinned (OpenSpec.ofChange Rows.velocityWindowsSpec) :=
  OpenClaim.holds_of_wide 5 Try.f5 rfl rfl rfl rfl rfl rfl rfl ⟨rfl, rfl, rfl, rfl, rfl⟩ rfl rfl rfl rfl rfl (by kernel_rfl) Try.func5 (by kernel_rfl)
    (of_decide_eq_true (by kernel_rfl)) (by unfold Func.isWrapper; first | (rw [if_pos (by decide +kernel)]; kernel_rfl) | (rw [if_neg (by decide +kernel)]; exact ⟨rfl, rfl⟩))
    (fun os started H enc _ => lifted os started H enc)
/-- THE STATEMENT. -/
theorem proved : Rows.VelocityWindowsSaid := over
#print axioms proved
end Go.Proofs.Ytkfiekpinojahab.velocityWindows
