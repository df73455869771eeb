/-
  PROVED: for every list of gaps, horizon, window and time after the last use, the law VelocityExact returns true: a use counts for exactly the seconds of the window after it. Conditions: none besides the form's own reach.
-/
import Derived.Test.YtkfiekpinojahabVK9
import Derived.ChangeSlices
import Derived.Test.YtkfiekpinojahabRows
import Derived.WalkKit
import Derived.ProofKit
import Derived.OpenShut
import Derived.ShutString
import Derived.ChangeOld
import Derived.Below
namespace Go.Proofs.Ytkfiekpinojahab.velocityExact
open Go.ChangeShapes Go.WideShapes Go.ChangeAt Go.RowKit
open Go.ChangeMaps (open_string shut_string)
set_option linter.unusedVariables false
theorem int_info : (Try.prog.info? 3).map (fun i => (i.zero, i.size, i.bytes)) = some (some (.int .i64 0), 1, 8) := by kernel_rfl
def mE (i : Nat) : Int := (i : Int)
def tmS (G : List Int) (k : Nat) : List Value := (List.range k).map fun j => .int .i64 (acc G (j + 1))
theorem tmS_len (G : List Int) (k : Nat) : (tmS G k).length = k := by simp [tmS]
theorem tmS_succ (G : List Int) (k : Nat) : tmS G (k + 1) = tmS G k ++ [.int .i64 (acc G (k + 1))] := by simp [tmS, List.range_succ]
theorem tmS_get {G : List Int} {k j : Nat} (h : j < k) : (tmS G k)[j]? = some (.int .i64 (acc G (j + 1))) := by simp [tmS, h]
theorem wS_full (f : Nat → ByteArray) (m : Nat → Int) (G : List Int) (j : Nat) (key : ByteArray) (a n : Int) : wS (fulE f m G (j + 1)) key a n = if inW key a n (useE f m G j) = true then wS (fulE f m G j) key a n ++ [useE f m G j] else wS (fulE f m G j) key a n := by
  unfold wS
  rw [fulE_succ, List.filter_append]
  simp only [List.filter_cons, List.filter_nil]
  split <;> simp
structure EX (w1 wr : World) (K D : Nat) (v0 v' tv : Value) (G : List Int) (h k : Nat) : Prop where
  st : ∃ s, VI nmS mE G h k s ∧ Left w1 wr K D v0 v' s
  row : wr.ownsRow w1.heap.size 3 1 tv k (tmS G k)
  far : ∀ i, tv.ownBlock = some i → ¬ Own D v' i
theorem one_int_cell (z : Int) : ∀ u ∈ [Value.int .i64 z], u.oneCell' = true := fun u hu => by
  simp at hu
  subst hu
  rfl
theorem m1000 (a : Nat) : (a : Int) % 1000 = ((a % 1000 : Nat) : Int) := by omega
theorem ask_nums (ho wi la : Nat) (hwi : wi < 65536) : ∃ p h r n q : Nat, (ho : Int) % 1000 = (p : Int) ∧ 1 + (p : Int) = (h : Int) ∧ (wi : Int).tmod (h : Int) = (r : Int) ∧ 1 + (r : Int) = (n : Int) ∧ wrap64 (n : Int) = (n : Int) ∧ (la : Int) % 1000 = (q : Int) ∧ ((h : Int) == 0) = false ∧ wrap64 (wi : Int) = (wi : Int) ∧ Hid (1 ≤ h ∧ h ≤ 1000 ∧ 1 ≤ n ∧ n ≤ h ∧ q < 1000) := by
  have h1 : ho % 1000 < 1000 := Nat.mod_lt _ (by decide)
  have h2 : la % 1000 < 1000 := Nat.mod_lt _ (by decide)
  have h3 : wi % (1 + ho % 1000) < 1 + ho % 1000 := Nat.mod_lt _ (by omega)
  have h4 : (wi : Int).tmod ((1 + ho % 1000 : Nat) : Int) = ((wi % (1 + ho % 1000) : Nat) : Int) := by
    rw [Int.tmod_eq_emod_of_nonneg (Int.natCast_nonneg wi)]
    exact (Int.natCast_emod wi (1 + ho % 1000)).symm
  refine ⟨ho % 1000, 1 + ho % 1000, wi % (1 + ho % 1000), 1 + wi % (1 + ho % 1000), la % 1000, m1000 ho, ?_, h4, ?_, ?_, m1000 la, ?_, ?_, Lib.hid ?_⟩
  · generalize ho % 1000 = a
    omega
  · generalize wi % (1 + ho % 1000) = a
    omega
  · generalize wi % (1 + ho % 1000) = a at *
    generalize ho % 1000 = b at *
    unfold wrap64
    omega
  · generalize ho % 1000 = b
    exact beq_false_of_ne (by omega)
  · unfold wrap64
    omega
  · generalize wi % (1 + ho % 1000) = a at *
    generalize ho % 1000 = b at *
    generalize la % 1000 = c at *
    omega
set_option maxHeartbeats 3200000 in
set_option maxRecDepth 5000 in
theorem walk0 (A : Option Addr) (gk gc : Nat) (G : List Int) (ho wi la : Nat) (w : World) (lS : Us w w.heap.size A gk G) (lL : ∀ r ∈ G, 0 ≤ r ∧ r < 256) (hwi : wi < 65536) :
    Calls Try.prog 4 #[.agg #[.slice A gk gc, .int .u16 (ho : Int), .int .u16 (wi : Int), .int .u16 (la : Int)]] w fun e w' => e = .returned (.bool true) ∧ Below w.heap.size w w' := by
  obtain ⟨p, h, r, n, q, e1, e2, e3, e4, e5, e6, e7, e8, HH⟩ := ask_nums ho wi la hwi
  have AW := Lib.hid awake_any
  have HG := Lib.hid lL
  have HX0 : Hid (Blk (w.alloc (.cells #[.slice A gk gc, .int .u16 (ho : Int), .int .u16 (wi : Int), .int .u16 (la : Int)] 44)) w.heap.size 44 #[.slice A gk gc, .int .u16 (ho : Int), .int .u16 (wi : Int), .int .u16 (la : Int)]) := Lib.hid (Blk.new _ _ _)
  have HB0 : Hid (Below w.heap.size w (w.alloc (.cells #[.slice A gk gc, .int .u16 (ho : Int), .int .u16 (wi : Int), .int .u16 (la : Int)] 44))) := Lib.hid ((Below.refl _ _).alloc (Nat.le_refl _) _)
  have HS := Lib.hid lS
  clear lL lS hwi
  go_enter Try.func4, Try.ntmps4
  go_wp2_with fail
  generalize w.alloc (.cells #[.slice A gk gc, .int .u16 (ho : Int), .int .u16 (wi : Int), .int .u16 (la : Int)] 44) = W0 at *
  refine (new_any h HH.out.1 (by have := HH.out.2.1; omega) W0 (K := W0.heap.size) (Nat.le_refl _)).mono ?_
  rintro e w1 ⟨D, rfl, hr, hB⟩
  have HR := Lib.hid hr
  have HB := Lib.hid hB
  clear hr hB
  by_cases hg60 : gk ≤ 60
  case neg =>
    have g1 : decide ((60 : Int) < (gk : Int)) = true := decide_eq_true (by omega)
    clear hg60
    go_wp2_with fail
    refine (AW.out _).mono ?_
    rintro e w3 ⟨rfl, hB3⟩
    go_wp2
    go_ret
    have hb := HB0.out.trans (HB.out.mono HB0.out.size)
    exact ⟨rfl, hb.trans (hB3.mono hb.size)⟩
  have g1 : decide ((60 : Int) < (gk : Int)) = false := decide_eq_false (by omega)
  obtain ⟨ii, hi, hz, hz1, hz2⟩ := info_parts int_info
  have HI := Lib.hid hi
  have HZ := Lib.hid hz
  have H1 := Lib.hid hz1
  have H2 := Lib.hid hz2
  have HG60 := Lib.hid hg60
  have HX1 : Hid (∀ W v s, Left w1 W W0.heap.size D (.slice none 0 0) v s → Blk W w.heap.size 44 #[.slice A gk gc, .int .u16 (ho : Int), .int .u16 (wi : Int), .int .u16 (la : Int)] ∧ Below w.heap.size w W) := Lib.hid fun W v s hL => by
    have hxlt := HX0.out.lt
    have hb1 : Below W0.heap.size w1 W := hL.below HR.out (Nat.le_refl _) HB.out.size
    exact ⟨(HX0.out.below HB.out hxlt).below hb1 hxlt, HB0.out.trans ((HB.out.trans hb1).mono HB0.out.size)⟩
  clear hi hz hz1 hz2
  go_wp2_with fail
  go_loopw [8, 9, 10] (fun nv tv i wr => ∃ k : Nat, k ≤ gk ∧ i = .int .i64 (k : Int) ∧ nv = .int .i64 (acc G k) ∧ ∃ v', EX w1 wr W0.heap.size D (.slice none 0 0) v' tv G h k) (fun _ _ i _ => gk - (intOf i).toNat)
  case atStart => exact ⟨0, by omega, rfl, rfl, _, ⟨⟨newS h, ⟨rfl, rfl, 0, Nat.le_refl _, rfl, fun j hj => absurd hj (by omega)⟩, Left.same HR.out (Below.refl _ _)⟩, World.ownsRow_nil _ _ _ _, fun i hi => by cases hi⟩⟩
  case round =>
    obtain ⟨k, hk, rfl, rfl, v', hE⟩ := hrel
    have HE := Lib.hid hE
    obtain ⟨s, hVI, hL⟩ := hE.st
    have HV := Lib.hid hVI
    have HL := Lib.hid hL
    obtain ⟨tA, tc, htv, -⟩ := row_form hE.row
    subst htv
    have HRW := Lib.hid hE.row
    have HFAR := Lib.hid hE.far
    clear hE hVI hL
    by_cases hlt : k < gk
    · obtain ⟨ad, x, p2, rfl, hx, hp2, hpb, c0⟩ := Us.at (HS.out.below (HX1.out wr v' s HL.out).2) hlt
      have HX := Lib.hid hx
      have hxr := HG.out x (List.mem_of_getElem? hx)
      have hacc := acc_succ hx
      have hb1 := acc_bound HG.out (k + 1)
      obtain ⟨y, hy⟩ : ∃ y, y = acc G (k + 1) := ⟨_, rfl⟩
      have hya : acc G k + x = y := by rw [hy]; exact hacc.symm
      rw [← hy] at hb1
      have hyw : wrap64 y = y := by unfold wrap64; omega
      have HY := Lib.hid hy
      have HYB := Lib.hid hb1
      have hpl : p2.block < wr.heap.size := by have := (HX1.out wr v' s HL.out).2.size; omega
      obtain ⟨hx2, hx3⟩ := hxr
      have NM := Lib.hid (fun w => name_any k w)
      clear hx hacc hy hb1 hpb
      go_wp2_with (at_builtin; refine wpList_append_own_at _ rfl _ _ 45 rfl w1.heap.size 3 ii (.int .i64 0) 1 8 Try.underlying45 HI.out HZ.out H1.out H2.out rfl (by decide) _ k (tmS G k) rfl (row_alloc HRW.out _) ⟨wr.heap.size, 0, none⟩ 1 1 [.int .i64 y] rfl rfl (cell_one_new _ _ _) (one_int_cell y) (by have := HG60.out; unfold maxLen; omega) (by have := HG60.out; omega) (by have := HL.out.kp.size; simp; omega) ?_; intro v5 w5 ho hg hnil hl; obtain ⟨A5, k5, rfl, -, -, -⟩ := row_form ho; have HGR := Lib.hid hg; have HOO := Lib.hid ho; have HLL := Lib.hid hl; clear hg ho hl hnil)
      have hgrow : Left w1 w5 W0.heap.size D (.slice none 0 0) v' s := HL.out.grow (((Kp.refl _ wr).alloc _).grown HGR.out (fun i hi => .inl ⟨(row_lt HRW.out hi).1, HFAR.out i hi⟩))
      have hfar5 : ∀ i, (Value.slice A5 (k + 1) k5).ownBlock = some i → ¬ Own D v' i := fun i hi ho => by
        rcases HLL.out with h2 | h2
        · exact HFAR.out i (h2 ▸ hi) ho
        · rw [h2] at hi
          injection hi with hi
          have := (HL.out.rep.lt ho).2
          simp at hi
          omega
      have HL5 := Lib.hid hgrow
      have HF5 := Lib.hid hfar5
      clear hgrow hfar5
      refine (NM.out _).mono ?_
      rintro e w6 ⟨rfl, rfl⟩
      go_wp2_with fail
      have hok : AddOk s (nmS k) y (k : Int) := ⟨by unfold nmS evenB oddB; split <;> decide, by unfold nmS evenB oddB; split <;> decide, HYB.out.1, by have := HYB.out.2; have := HG60.out; omega, by rw [HV.out.last]; omega, by omega, by have := HG60.out; omega⟩
      have hful : s.us.length - oldS s.us (y - s.hor) < 1000 := by have := HV.out.len; have := HG60.out; omega
      refine (add_eq HL5.out.rep hok hful rfl).mono ?_
      rintro e w6 ⟨rfl, v6, hL6⟩
      have HL6 := Lib.hid hL6
      clear hL6 hok hful
      go_wp2_with fail
      go_round
      case rel =>
        refine ⟨k + 1, by omega, by go_num, by rw [HY.out], v6, ⟨⟨addS s (nmS k) y (k : Int), ?_, HL5.out.trans HL6.out⟩, ?_, ?_⟩⟩
        · rw [HY.out]
          exact HV.out.step HG.out
        · have h1 := HL6.out.kp.row HOO.out HF5.out
          rw [tmS_succ, ← HY.out]
          exact h1
        · intro i hi
          exact (HL6.out.far (row_lt HOO.out hi).2 (HF5.out i hi)).2
      case measure => simp [intOf]; omega
    · obtain rfl : k = gk := by omega
      have hx4 := (HX1.out wr v' s HL.out).1.cell 3
      simp at hx4
      have hx5 := (HX1.out wr v' s HL.out).1.lt
      have hb1 := acc_bound HG.out k
      obtain ⟨a, ha⟩ : ∃ a, a = acc G k + (q : Int) := ⟨_, rfl⟩
      obtain ⟨b, hb⟩ : ∃ b, b = a - (n : Int) := ⟨_, rfl⟩
      have ha1 : acc G k + (q : Int) = a := ha.symm
      have hb2 : a - (n : Int) = b := hb.symm
      have haw : wrap64 a = a := by have := HH.out; unfold wrap64; omega
      have hbw : wrap64 b = b := by have := HH.out; unfold wrap64; omega
      have HA := Lib.hid (show acc G k ≤ a ∧ 0 ≤ a ∧ a ≤ 1099511627776 by have := HH.out; omega)
      have HALL := Lib.hid (fun key => HV.out.all (key := key) (at_ := a) (n := (n : Int)) (by have := HH.out; omega) (by have := HH.out; omega) HA.out.1)
      clear ha hb hb1
      go_wp2_with fail
      go_loop [12, 13, 14] (fun c t i => ∃ j : Nat, j ≤ k ∧ i = .int .i64 (j : Int) ∧ c = .int .i64 ((wS (fulE nmS mE G j) evenB a n).length : Int) ∧ t = .int .i64 (sumU (wS (fulE nmS mE G j) evenB a n))) (fun _ _ i => k - (intOf i).toNat)
      case atStart => exact ⟨0, by omega, rfl, rfl, rfl⟩
      case round =>
        obtain ⟨j, hj, rfl, rfl, rfl⟩ := hrel
        have HSU := Lib.hid (wS_full nmS mE G j evenB a n)
        have hlen : (wS (fulE nmS mE G j) evenB a n).length ≤ j := by
          have h1 := List.length_filter_le (inW evenB a n) (fulE nmS mE G j)
          rw [fulE_len] at h1
          exact h1
        have hsum := sumU_bound (l := wS (fulE nmS mE G j) evenB a n) (fun u hu => by
          have h1 := (List.mem_filter.1 hu).1
          obtain ⟨i, hi, rfl⟩ := List.mem_map.1 h1
          have := List.mem_range.1 hi
          have := HG60.out
          exact ⟨by unfold useE mE; simp, by unfold useE mE; simp only; omega⟩)
        obtain ⟨cN, hcN⟩ : ∃ cN : Nat, cN = (wS (fulE nmS mE G j) evenB a n).length := ⟨_, rfl⟩
        obtain ⟨sN, hsN⟩ : ∃ sN, sN = sumU (wS (fulE nmS mE G j) evenB a n) := ⟨_, rfl⟩
        rw [← hcN, ← hsN]
        rw [← hcN] at hlen
        rw [← hsN, ← hcN] at hsum
        have HCN := Lib.hid hcN
        have HSN := Lib.hid hsN
        have HLEN := Lib.hid hlen
        have HSM := Lib.hid hsum
        clear hcN hsN hlen hsum
        by_cases hjk : j < k
        · obtain ⟨g, cap', e, -, hgl, hcell⟩ := row_cells HRW.out (by omega)
          injection e with e1' e2' e3'
          subst e1' e3'
          have p0 : wr.cell? ⟨g, j, none⟩ = some (.int .i64 (acc G (j + 1))) := (hcell j (by omega)).trans (tmS_get hjk)
          obtain ⟨t, ht⟩ : ∃ t, t = acc G (j + 1) := ⟨_, rfl⟩
          rw [← ht] at p0
          have HT := Lib.hid ht
          clear hcell ht
          by_cases hev : j % 2 = 0
          case neg =>
            have d0 : (j : Int) % 2 = 1 := by omega
            have HN : Hid (wS (fulE nmS mE G (j + 1)) evenB a n = wS (fulE nmS mE G j) evenB a n) := Lib.hid (by rw [HSU.out, if_neg (by unfold inW useE nmS; rw [if_neg hev]; simp [evenB, oddB])])
            clear hev
            go_wp2
            go_round
            case rel => exact ⟨j + 1, by omega, by go_num, by rw [HN.out, ← HCN.out], by rw [HN.out, ← HSN.out]⟩
            case measure => simp [intOf]; omega
          have d0 : (j : Int) % 2 = 0 := by omega
          by_cases hlo : b < t
          case neg =>
            have d1 : decide (b < t) = false := decide_eq_false hlo
            have HN : Hid (wS (fulE nmS mE G (j + 1)) evenB a n = wS (fulE nmS mE G j) evenB a n) := Lib.hid (by rw [HSU.out, if_neg (by unfold inW useE; rw [← HT.out, hb2]; simp [hlo])])
            clear hev hlo
            go_wp2
            go_round
            case rel => exact ⟨j + 1, by omega, by go_num, by rw [HN.out, ← HCN.out], by rw [HN.out, ← HSN.out]⟩
            case measure => simp [intOf]; omega
          by_cases hhi : t ≤ a
          case neg =>
            have d1 : decide (b < t) = true := decide_eq_true hlo
            have d2 : decide (t ≤ a) = false := decide_eq_false hhi
            have HN : Hid (wS (fulE nmS mE G (j + 1)) evenB a n = wS (fulE nmS mE G j) evenB a n) := Lib.hid (by rw [HSU.out, if_neg (by unfold inW useE; rw [← HT.out, hb2]; simp [hhi])])
            clear hev hlo hhi
            go_wp2
            go_round
            case rel => exact ⟨j + 1, by omega, by go_num, by rw [HN.out, ← HCN.out], by rw [HN.out, ← HSN.out]⟩
            case measure => simp [intOf]; omega
          have d1 : decide (b < t) = true := decide_eq_true hlo
          have d2 : decide (t ≤ a) = true := decide_eq_true hhi
          have HN : Hid (wS (fulE nmS mE G (j + 1)) evenB a n = wS (fulE nmS mE G j) evenB a n ++ [useE nmS mE G j]) := Lib.hid (by rw [HSU.out, if_pos (by unfold inW useE nmS; rw [← HT.out, hb2, if_pos hev]; simp [hlo, hhi])])
          have hc5 : cN < 100 := by have := HLEN.out; have := HG60.out; omega
          have hs5 : wrap64 (sN + (j : Int)) = sN + (j : Int) := by have := HSM.out; have := HG60.out; unfold wrap64; omega
          clear hev hlo hhi
          go_wp2
          go_round
          case rel =>
            refine ⟨j + 1, by omega, by go_num, ?_, ?_⟩
            · rw [HN.out, List.length_append, ← HCN.out]
              rfl
            · have : sumU (wS (fulE nmS mE G j) evenB a n ++ [useE nmS mE G j]) = sN + (j : Int) := by
                rw [HSN.out]
                unfold sumU useE mE
                simp
              rw [HN.out, this]
              first | rfl | (rw [hs5])
          case measure => simp [intOf]; omega
        · obtain rfl : j = k := by omega
          clear HLEN HSM
          have c1 : ((wL s ⟨#[101, 118, 101, 110]⟩ a n).length : Int) = (cN : Int) := by
            have := HALL.out ⟨#[101, 118, 101, 110]⟩
            rw [this, HCN.out]
            rfl
          have c2 : sumU (wL s ⟨#[101, 118, 101, 110]⟩ a n) = sN := by
            have := HALL.out ⟨#[101, 118, 101, 110]⟩
            rw [this, HSN.out]
            rfl
          have c3 : ((wL s ⟨#[110, 111, 110, 101]⟩ a n).length : Int) = 0 := by
            rw [HALL.out, show wS (fulE nmS mE G j) ⟨#[110, 111, 110, 101]⟩ a n = [] from ?_]
            · rfl
            · unfold wS
              rw [List.filter_eq_nil_iff]
              intro u hu
              obtain ⟨i, hi, rfl⟩ := List.mem_map.1 hu
              unfold inW useE nmS evenB oddB
              simp only [decide_eq_true_eq]
              rintro ⟨h1, -⟩
              split at h1 <;> exact absurd h1 (by decide)
          have C1 := Lib.hid c1
          have C2 := Lib.hid c2
          have C3 := Lib.hid c3
          clear c1 c2 c3
          go_wp2_with fail
          refine (count_any HL.out.rep _ a n HA.out.2.1 HA.out.2.2 (c := (cN : Int)) C1.out).mono ?_
          rintro e w2 ⟨rfl, hL⟩
          have HL2 := Lib.hid (HL.out.trans hL)
          clear HL hL
          have HL := HL2
          clear HL2
          go_wp2_with fail
          refine (sum_any HL.out.rep _ a n HA.out.2.1 HA.out.2.2 (c := sN) C2.out).mono ?_
          rintro e w2 ⟨rfl, hL⟩
          have HL2 := Lib.hid (HL.out.trans hL)
          clear HL hL
          have HL := HL2
          clear HL2
          go_wp2_with fail
          refine (count_any HL.out.rep _ a n HA.out.2.1 HA.out.2.2 (c := 0) C3.out).mono ?_
          rintro e w2 ⟨rfl, hL⟩
          have HL2 := Lib.hid (HL.out.trans hL)
          clear HL hL
          have HL := HL2
          clear HL2
          go_wp2_with fail
          refine (AW.out _).mono ?_
          rintro e w3 ⟨rfl, hB3⟩
          go_wp2
          go_ret
          have hb := (HX1.out _ _ _ HL.out).2
          exact ⟨rfl, hb.trans (hB3.mono hb.size)⟩
theorem walk (A : Option Addr) (gk gc : Nat) (G : List Int) (ho wi la : Int) (w : World) (lS : Us w w.heap.size A gk G) (lL : ∀ r ∈ G, 0 ≤ r ∧ r < 256) (h1 : (Lit.int .u16 ho).wf = true) (h2 : (Lit.int .u16 wi).wf = true) (h3 : (Lit.int .u16 la).wf = true) :
    Calls Try.prog 4 #[.agg #[.slice A gk gc, .int .u16 ho, .int .u16 wi, .int .u16 la]] w fun e w' => e = .returned (.bool true) ∧ Below w.heap.size w w' := by
  obtain ⟨a1, -⟩ := u16_in h1
  obtain ⟨b1, b2⟩ := u16_in h2
  obtain ⟨d1, -⟩ := u16_in h3
  obtain ⟨o, rfl⟩ : ∃ n : Nat, ho = (n : Int) := ⟨ho.toNat, by omega⟩
  obtain ⟨i, rfl⟩ : ∃ n : Nat, wi = (n : Int) := ⟨wi.toNat, by omega⟩
  obtain ⟨l, rfl⟩ : ∃ n : Nat, la = (n : Int) := ⟨la.toNat, by omega⟩
  exact walk0 A gk gc G o i l w lS lL (by omega)

theorem own : ownKnob Try.prog.godebug = none := by kernel_rfl
theorem laidOut : laidOutB Try.prog = true := by kernel_rfl
set_option maxRecDepth 100000 in
theorem lifted (os : Os) (started : os.Started) (H : Type) (enc : TypeId × Value → H) :
    ReturnsInHanded {} Try.checked os 4 .any (Rows.velocityExactSpec.pre6 enc Try.prog Try.f4 Rows.velocityExactRow.domain false) (Rows.velocityExactSpec.post enc Try.prog Try.f4 false true false false) := by
  refine returnsInHanded_of_change (C := Try.checked) own started (by kernel_rfl) Try.func4
    (ChangeSpec.witness6 (enc := enc) (C := Try.checked) false ⟨#[], #[.agg #[.slice none 0 0, .int .u16 0, .int .u16 0, .int .u16 0]], []⟩ 8 (by kernel_rfl) (by kernel_rfl) (by kernel_rfl) (by kernel_rfl)) ?_
  intro W base args ds gs before hval0 hW hcnd _
  have hval : ∀ (j : Nat) t v, Try.f4.params[j]? = some t → args[j]? = some v → Value.okWide Try.prog W .any base t v := hval0
  have hW' := hW
  obtain ⟨p, q, hA0, hV, rfl, hfz, hnd⟩ := hW
  have hA : DataW.TrodAll enc Try.prog W 0 (fun _ => true) true Try.f4.params.toList args.toList ds p := hA0
  rw [Try.params4] at hA hval
  obtain ⟨v0, vs0, d0, ds0, p0, q0, hargs, rfl, rfl, h0, r0⟩ := trodAll_cons hA
  obtain ⟨rfl, rfl, rfl⟩ := trodAll_nil r0
  obtain rfl : args = #[v0] := by cases args; simp_all
  obtain ⟨rfl, rfl⟩ := trodVars_none hV
  have k0 := h0
  have lt0 : ∀ x ∈ p0, x.block < W.heap.size := by obtain ⟨m, hm⟩ := k0; exact DataW.trod_lt m _ _ _ hm
  obtain ⟨u0_0, u0_1, u0_2, u0_3, y0_0, y0_1, y0_2, y0_3, m0, rfl, g0_0, g0_1, g0_2, g0_3⟩ := open_agg4 Try.underlying44 (by kernel_rfl) (by kernel_rfl) (hval 0 44 v0 rfl rfl) h0
  obtain ⟨zA, zk, zc, zL, rfl, lk, lc, lS, lL⟩ := open_u8 g0_0
  obtain ⟨xo, rfl, w_o⟩ := one_int Try.underlying42 g0_1
  obtain ⟨xw, rfl, w_w⟩ := one_int Try.underlying42 g0_2
  obtain ⟨xl, rfl, w_l⟩ := one_int Try.underlying42 g0_3
  clear hA0 hval0
  refine (walk zA zk zc zL xo xw xl W lS lL w_o w_w w_l).mono fun e W' ⟨he, bel⟩ => ?_
  subst he
  exact ⟨_, rfl, _, _, _, [], _, [], hW', trodAll_mk1 (shut_bool Try.underlying4 _), (trodAll_cons_mk (Below.trod laidOut (by kernel_rfl) (of_decide_eq_true (by kernel_rfl)) k0 bel lt0) trodAll_mk0), rfl, bel.frame _, fun h => by cases h⟩

theorem over : Rows.velocityExactRow.holds Try.pinned (OpenSpec.ofChange Rows.velocityExactSpec) :=
  OpenClaim.holds_of_wide 4 Try.f4 rfl rfl rfl rfl rfl rfl rfl ⟨rfl, rfl, rfl, rfl, rfl⟩ rfl rfl rfl rfl rfl (by kernel_rfl) Try.func4 (by kernel_rfl)
    (of_decide_eq_true (by kernel_rfl)) (by unfold Func.isWrapper; first | (rw [if_pos (by decide +kernel)]; kernel_rfl) | (rw [if_neg (by decide +kernel)]; exact ⟨rfl, rfl⟩))
    (fun os started H enc _ => lifted os started H enc)
/-- THE STATEMENT. -/
theorem proved : Rows.VelocityExactSaid := over
#print axioms proved
end Go.Proofs.Ytkfiekpinojahab.velocityExact
