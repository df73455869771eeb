/-
  THE WALK of the law AuthConserves, for an authorization that New accepts: the loop's relation says that the authorization at hand passes the check.
-/
import Derived.Test.YtmigodjkenhedaaCons0
import Derived.Test.YtmigodjkenhedaaParts1
import Derived.Deep.RegionWith
import Derived.Deep.RegionHeld3
import Derived.Deep.DeepCutAuto
namespace Go.Proofs.Ytmigodjkenhedaa
open Go.RowKit
set_option linter.unusedVariables false
structure CRel (w : World) (g : Nat) (ap rv cl ex st un pa : Int) (wr : World) : Prop where
  blk : Blk wr g 24 #[.string sX, .string sEur, .int .i64 ap, .int .i64 rv, .int .i64 cl, .int .i64 ex, .int .i64 st, .int .i64 0, .int .i64 un, .int .i64 pa]
  bel : Below w.heap.size w wr
  old : w.heap.size ≤ g
  ok : AuOk ap rv cl ex st 0 un pa
structure CutC (wr wx : World) (r : AuR) (g : Nat) : Prop where
  blk : Blk wx g 24 #[.string r.id, .string r.cur, .int .i64 r.ap, .int .i64 r.rv, .int .i64 r.cl, .int .i64 r.ex, .int .i64 r.st, .int .i64 r.at_, .int .i64 r.un, .int .i64 r.pa]
  new : wr.heap.size ≤ g
  push : Pushed wr wx
theorem cutC_A (wr : World) (r : AuR) (l : List Obj) (n g : Nat) (hg : g = wr.heap.size + l.length) : CutC wr (((push wr l).alloc (.cells #[.string r.id, .string r.cur, .int .i64 r.ap, .int .i64 r.rv, .int .i64 r.cl, .int .i64 r.ex, .int .i64 r.st, .int .i64 r.at_, .int .i64 r.un, .int .i64 r.pa] 24)).drewN n) r g := by
  subst hg
  refine ⟨?_, by omega, ((Pushed.push (Pushed.refl _) _).alloc _).drewN _⟩
  have h := (Blk.new (push wr l) 24 #[.string r.id, .string r.cur, .int .i64 r.ap, .int .i64 r.rv, .int .i64 r.cl, .int .i64 r.ex, .int .i64 r.st, .int .i64 r.at_, .int .i64 r.un, .int .i64 r.pa]).drewN n
  rwa [size_push] at h
theorem cutC_A0 (wr : World) (r : AuR) (l : List Obj) (n : Nat) : CutC wr (((push wr l).alloc (.cells #[.string r.id, .string r.cur, .int .i64 r.ap, .int .i64 r.rv, .int .i64 r.cl, .int .i64 r.ex, .int .i64 r.st, .int .i64 r.at_, .int .i64 r.un, .int .i64 r.pa] 24)).drewN n) r (wr.heap.size + l.length) := cutC_A wr r l n _ rfl
theorem cutC_B0 (wr : World) (r : AuR) (m : List Obj) (n : Nat) : CutC wr ((push (wr.alloc (.cells #[.string r.id, .string r.cur, .int .i64 r.ap, .int .i64 r.rv, .int .i64 r.cl, .int .i64 r.ex, .int .i64 r.st, .int .i64 r.at_, .int .i64 r.un, .int .i64 r.pa] 24)) m).drewN n) r wr.heap.size :=
  ⟨((Blk.new wr 24 _).push m).drewN n, Nat.le_refl _, (((Pushed.refl _).alloc _).push _).drewN _⟩
theorem cutC_B (wr : World) (r : AuR) (l m : List Obj) (n g : Nat) (hg : g = wr.heap.size + l.length) : CutC wr ((push ((push wr l).alloc (.cells #[.string r.id, .string r.cur, .int .i64 r.ap, .int .i64 r.rv, .int .i64 r.cl, .int .i64 r.ex, .int .i64 r.st, .int .i64 r.at_, .int .i64 r.un, .int .i64 r.pa] 24)) m).drewN n) r g := by
  subst hg
  refine ⟨?_, by omega, (((Pushed.push (Pushed.refl _) _).alloc _).push _).drewN _⟩
  have h := ((Blk.new (push wr l) 24 #[.string r.id, .string r.cur, .int .i64 r.ap, .int .i64 r.rv, .int .i64 r.cl, .int .i64 r.ex, .int .i64 r.st, .int .i64 r.at_, .int .i64 r.un, .int .i64 r.pa]).push m).drewN n
  rwa [size_push] at h
theorem chk_zero {ap rv cl ex st un pa : Int} (k : AuOk ap rv cl ex st 0 un pa) : Hid (0 = auCheck (identB sX.data.toList 16) (curB sEur.data.toList) ap rv cl ex st 0 un pa) := (auCheck_zero.2 ⟨by decide, by decide, k⟩).symm
theorem cons_same {w wr W0 wc : World} {gA : Nat} {ap rv cl ex st un pa : Int} (R : CRel w gA ap rv cl ex st un pa wr) (P0 : Pushed wr W0) (P : Pushed W0 wc) : CRel w gA ap rv cl ex st un pa wc :=
  have hp := P0.trans P
  ⟨R.blk.below hp.below R.blk.lt, R.bel.trans (Below.mono hp.below R.bel.size), R.old, R.ok⟩
theorem cons_next {w wc : World} {gA : Nat} {ap rv cl ex st un pa ap' rv' cl' ex' st' un' pa' : Int} (hA : Blk wc gA 24 #[.string sX, .string sEur, .int .i64 ap, .int .i64 rv, .int .i64 cl, .int .i64 ex, .int .i64 st, .int .i64 0, .int .i64 un, .int .i64 pa]) (bel : Below w.heap.size w wc) (old : w.heap.size ≤ gA) (ok : AuOk ap' rv' cl' ex' st' 0 un' pa') :
    CRel w gA ap' rv' cl' ex' st' un' pa' ((((((((((wc.setCell ⟨gA, 0, none⟩ (.string sX)).setCell ⟨gA, 1, none⟩ (.string sEur)).setCell ⟨gA, 2, none⟩ (.int .i64 ap')).setCell ⟨gA, 3, none⟩ (.int .i64 rv')).setCell ⟨gA, 4, none⟩ (.int .i64 cl')).setCell ⟨gA, 5, none⟩ (.int .i64 ex')).setCell ⟨gA, 6, none⟩ (.int .i64 st')).setCell ⟨gA, 7, none⟩ (.int .i64 0)).setCell ⟨gA, 8, none⟩ (.int .i64 un')).setCell ⟨gA, 9, none⟩ (.int .i64 pa')) := by
  refine ⟨?_, ?_, old, ok⟩
  · have h := ((((((((((hA.set_ 0 (.string sX)).set_ 1 (.string sEur)).set_ 2 (.int .i64 ap')).set_ 3 (.int .i64 rv')).set_ 4 (.int .i64 cl')).set_ 5 (.int .i64 ex')).set_ 6 (.int .i64 st')).set_ 7 (.int .i64 0)).set_ 8 (.int .i64 un')).set_ 9 (.int .i64 pa'))
    simp only [List.setIfInBounds_toArray, List.set_cons_zero, List.set_cons_succ] at h
    exact h
  · exact (((((((((bel.setCell (by exact old) _).setCell (by exact old) _).setCell (by exact old) _).setCell (by exact old) _).setCell (by exact old) _).setCell (by exact old) _).setCell (by exact old) _).setCell (by exact old) _).setCell (by exact old) _).setCell (by exact old) _
theorem step_cases {ap rv cl ex st un pa kd am t d : Int} {fin : Bool} {r : AuR} (k : AuOk ap rv cl ex st 0 un pa) (hd : d = openE (auCheck (identB sX.data.toList 16) (curB sEur.data.toList) ap rv cl ex st 0 un pa) st) (hr : r = stepR d sX sEur ap rv cl ex st 0 un pa kd am t fin) :
    (r.err ≠ 0 ∧ r = .bad r.err) ∨ (0 < ap - rv - cl - ex ∧ r.err = 0 ∧ r.id = sX ∧ r.cur = sEur ∧ Kept ap rv cl ex 0 kd r) := by
  have hz := (chk_zero k).out
  by_cases h1 : st = 1
  · subst h1
    have h0 : d = 0 := by rw [hd, ← hz]; rfl
    subst h0
    rcases step_kept k hr with h | ⟨a, b, c, e⟩
    · exact .inl h
    · exact .inr ⟨st_of k.k_state.symm, a, b, c, e⟩
  · have h8 : d = 8 := by rw [hd, ← hz]; unfold openE; rw [if_neg (by simp), if_pos h1]
    subst h8
    left
    have : r = .bad 8 := by
      rw [hr]
      unfold stepR raiseR reverseR expireR clearR
      (repeat' split) <;> first | rfl | omega
    rw [this]
    exact ⟨by simp [AuR.bad], rfl⟩
theorem cons_push {w X : World} {gA : Nat} {ap rv cl ex st un pa : Int} (h : CRel w gA ap rv cl ex st un pa X) (l : List Obj) (n : Nat) : CRel w gA ap rv cl ex st un pa ((push X l).drewN n) :=
  ⟨(h.blk.push l).drewN n, below_drewN (h.bel.trans (Below.mono (Pushed.push (Pushed.refl _) l).below h.bel.size)) n, h.old, h.ok⟩
theorem num_next (k : Nat) : Value.int .i64 ((k : Int) + 1) = Value.int .i64 ((k + 1 : Nat) : Int) := by go_num
theorem meas_next {k len : Nat} (h : k < len) : len - (intOf (Value.int .i64 ((k : Int) + 1))).toNat < len - (intOf (Value.int .i64 (k : Int))).toNat := by simp [intOf]; omega
theorem val_int2 {a b : Int} (h : a = b) : Value.int .i64 a = Value.int .i64 b := by rw [h]
set_option maxRecDepth 100000 in
set_option maxHeartbeats 8000000 in
theorem cons_walk (amount : Int) (A : Option Addr) (len cap : Nat) (w : World) (hlm : len ≤ 9223372036854775807) (hc : ∀ j, j < len → ∃ (b off : Nat) (kd am t : Int) (fin : Bool), A = some ⟨b, off, none⟩ ∧ (0 ≤ kd ∧ kd ≤ 255) ∧ w.cell? ⟨b, off + j * 4, none⟩ = some (.int .u8 kd) ∧ w.cell? ⟨b, off + j * 4 + 1, none⟩ = some (.int .i64 am) ∧ w.cell? ⟨b, off + j * 4 + 2, none⟩ = some (.int .i64 t) ∧ w.cell? ⟨b, off + j * 4 + 3, none⟩ = some (.bool fin)) (hk0 : AuOk amount 0 0 0 1 0 10 0) :
    Calls Try.prog 3 #[.int .i64 amount, .slice A len cap] w fun e w' => e = .returned (.bool true) ∧ Below w.heap.size w w' := by
  have HC0 := chk_zero hk0
  have HCell := Lib.hid hc
  have HK0 := Lib.hid hk0
  clear hc hk0
  go_enter Try.func3, Try.ntmps3
  go_wp2_with fail
  refine (new_ok sX sEur _ amount 0 10 (by decide) (by decide) HC0).mono ?_
  rintro e w1 ⟨rfl, l1, n1, rfl⟩
  go_wp2_with fail
  go_loopw [7] (fun i wr => ∃ (k : Nat) (ap rv cl ex st un pa : Int), k ≤ len ∧ i = .int .i64 k ∧ CRel w (w.heap.size + l1.length) ap rv cl ex st un pa wr) (fun i _ => len - (intOf i).toNat)
  case atStart =>
    refine ⟨0, amount, 0, 0, 0, 1, 10, 0, Nat.zero_le _, rfl, ⟨?_, ?_, by omega, HK0.out⟩⟩
    · have h := ((Blk.new (push w l1) 24 #[.string sX, .string sEur, .int .i64 amount, .int .i64 0, .int .i64 0, .int .i64 0, .int .i64 1, .int .i64 0, .int .i64 10, .int .i64 0]).drewN n1)
      rw [size_push] at h
      exact h
    · exact below_drewN (Below.alloc (Pushed.below (Pushed.push (Pushed.refl w) l1)) (by rw [size_push]; omega) _) n1
  case round =>
    obtain ⟨k, ap, rv, cl, ex, st, un, pa, hk, rfl, R⟩ := hrel
    have kg : w.heap.size + l1.length < wr.heap.size := R.blk.lt
    have c0 := R.blk.cell 0
    have c1 := R.blk.cell 1
    have c2 := R.blk.cell 2
    have c3 := R.blk.cell 3
    have c4 := R.blk.cell 4
    have c5 := R.blk.cell 5
    have c6 := R.blk.cell 6
    have c7 := R.blk.cell 7
    have c8 := R.blk.cell 8
    have c9 := R.blk.cell 9
    have cf := R.blk.frozen
    simp only [List.getElem?_toArray, List.getElem?_cons_zero, List.getElem?_cons_succ] at c0 c1 c2 c3 c4 c5 c6 c7 c8 c9
    have RB := Lib.hid R
    have HC := chk_zero R.ok
    have HO := Lib.hid R.ok
    clear R
    by_cases hlt : k < len
    · by_cases h200 : k < 200
      · obtain ⟨b, off, kd, am, t, fin, rfl, hkd, e0, e1, e2, e3⟩ := HCell.out k hlt
        have kb : b < wr.heap.size := Nat.lt_of_lt_of_le (World.block_lt_of_cell? w _ e0) RB.out.bel.size
        have kb0 : b < w.heap.size := World.block_lt_of_cell? w _ e0
        have p0 : wr.cell? ⟨b, off + k * 4, none⟩ = some (.int .u8 kd) := by rw [RB.out.bel.cell (p := ⟨b, off + k * 4, none⟩) kb0]; exact e0
        have p1 : wr.cell? ⟨b, off + k * 4 + 1, none⟩ = some (.int .i64 am) := by rw [RB.out.bel.cell (p := ⟨b, off + k * 4 + 1, none⟩) kb0]; exact e1
        have p2 : wr.cell? ⟨b, off + k * 4 + 2, none⟩ = some (.int .i64 t) := by rw [RB.out.bel.cell (p := ⟨b, off + k * 4 + 2, none⟩) kb0]; exact e2
        have p3 : wr.cell? ⟨b, off + k * 4 + 3, none⟩ = some (.bool fin) := by rw [RB.out.bel.cell (p := ⟨b, off + k * 4 + 3, none⟩) kb0]; exact e3
        clear e0 e1 e2 e3
        have hk0 : (0 : Int) ≤ (k : Int) := Int.natCast_nonneg _
        have hk1 : (k : Int) < (len : Int) := by omega
        have OP := fun W => open_ok sX sEur ap rv cl ex st 0 un pa W (by decide) (by decide) HC HO.out (by decide +kernel) (by decide +kernel)
        obtain ⟨d, hd⟩ : ∃ d, d = openE (auCheck (identB sX.data.toList 16) (curB sEur.data.toList) ap rv cl ex st 0 un pa) st := ⟨_, rfl⟩
        obtain ⟨r, hr⟩ : ∃ r, r = stepR d sX sEur ap rv cl ex st 0 un pa kd am t fin := ⟨_, rfl⟩
        have SP := fun W => step_is sX sEur ap rv cl ex st 0 un pa W kd am t fin (by decide) (by decide) hkd (Lib.hid hd) (Lib.hid hr)
        have HD := Lib.hid hd
        have HR := Lib.hid hr
        clear hd hr
        go_upto_region 8 with (go_at_call 10; refine (OP _).mono ?_; rintro e w1 ⟨rfl, l2, n2, rfl⟩)
        have hP0 : Pushed wr ((push wr l2).drewN n2) := (Pushed.push (Pushed.refl _) _).drewN _
        have hA0 := (RB.out.blk.push l2).drewN n2
        generalize (push wr l2).drewN n2 = W0 at *
        have q0 : W0.cell? ⟨b, off + k * 4, none⟩ = some (.int .u8 kd) := by rw [hP0.below.cell (p := ⟨b, off + k * 4, none⟩) kb]; exact p0
        have q1 : W0.cell? ⟨b, off + k * 4 + 1, none⟩ = some (.int .i64 am) := by rw [hP0.below.cell (p := ⟨b, off + k * 4 + 1, none⟩) kb]; exact p1
        have q2 : W0.cell? ⟨b, off + k * 4 + 2, none⟩ = some (.int .i64 t) := by rw [hP0.below.cell (p := ⟨b, off + k * 4 + 2, none⟩) kb]; exact p2
        have q3 : W0.cell? ⟨b, off + k * 4 + 3, none⟩ = some (.bool fin) := by rw [hP0.below.cell (p := ⟨b, off + k * 4 + 3, none⟩) kb]; exact p3
        have kbW : b < W0.heap.size := Nat.lt_of_lt_of_le kb hP0.below.size
        have kgW : w.heap.size + l1.length < W0.heap.size := hA0.lt
        clear OP c0 c1 c2 c3 c4 c5 c6 c7 c8 c9 cf p0 p1 p2 p3
        have c0 := hA0.cell 0
        have c1 := hA0.cell 1
        have c2 := hA0.cell 2
        have c3 := hA0.cell 3
        have c4 := hA0.cell 4
        have c5 := hA0.cell 5
        have c6 := hA0.cell 6
        have c7 := hA0.cell 7
        have c8 := hA0.cell 8
        have c9 := hA0.cell 9
        simp only [List.getElem?_toArray, List.getElem?_cons_zero, List.getElem?_cons_succ] at c0 c1 c2 c3 c4 c5 c6 c7 c8 c9
        have HA0 := Lib.hid hA0
        have HP0 := Lib.hid hP0
        clear hA0 hP0
        go_cut [9, 10, 11, 12] (fun s9 s10 s11 s12 wx => ∃ g : Nat, s9 = .pointer (some ⟨g, 0, none⟩) ∧ s10 = .int .i64 r.n1 ∧ s11 = .int .i64 r.n2 ∧ s12 = .int .i64 r.err ∧ CutC W0 wx r g)
        case first =>
          go_region_with (first | (go_at_call 11; refine (SP _).mono ?_; rintro e w1 ⟨rfl, l3, n3, rfl⟩))
          all_goals go_wp2_with fail
          all_goals go_meet
          all_goals first | exact ⟨_, rfl, rfl, rfl, rfl, cutC_A0 _ _ _ _⟩ | exact ⟨_, rfl, rfl, rfl, rfl, cutC_B0 _ _ _ _⟩
        case rest =>
          obtain ⟨g, rfl, h10, h11, h12, X⟩ := hcut
          have CS := step_cases HO.out HD.out HR.out
          have hA := HA0.out.below X.push.below HA0.out.lt
          have kgC : w.heap.size + l1.length < wc.heap.size := hA.lt
          have kbC : b < wc.heap.size := Nat.lt_of_lt_of_le kbW X.push.below.size
          have p0 : wc.cell? ⟨b, off + k * 4, none⟩ = some (.int .u8 kd) := by rw [X.push.below.cell (p := ⟨b, off + k * 4, none⟩) kbW]; exact q0
          clear c0 c1 c2 c3 c4 c5 c6 c7 c8 c9 q0 q1 q2 q3 SP kbW kgW
          have ng : ¬ (w.heap.size + l1.length = g) := by have := X.new; have := HA0.out.lt; omega
          have ng' : ¬ (g = w.heap.size + l1.length) := by omega
          rcases CS with ⟨he, hb⟩ | ⟨hop, he, hid, hcur, K⟩
          · have h10' := h10.trans (show Value.int .i64 r.n1 = .int .i64 0 by rw [hb]; rfl)
            have h11' := h11.trans (show Value.int .i64 r.n2 = .int .i64 0 by rw [hb]; rfl)
            have XB : Blk wc g 24 #[.string ⟨#[]⟩, .string ⟨#[]⟩, .int .i64 0, .int .i64 0, .int .i64 0, .int .i64 0, .int .i64 0, .int .i64 0, .int .i64 0, .int .i64 0] := by
              have h := X.blk
              rw [hb] at h
              exact h
            obtain ⟨e0, hee⟩ : ∃ e0, r.err = e0 := ⟨_, rfl⟩
            rw [hee] at h12 he
            subst h10' h11' h12
            have hne : (e0 != 0) = true := by simp [he]
            have x0 := XB.cell 0
            have x1 := XB.cell 1
            have x2 := XB.cell 2
            have x3 := XB.cell 3
            have x4 := XB.cell 4
            have x5 := XB.cell 5
            have x6 := XB.cell 6
            have x7 := XB.cell 7
            have x8 := XB.cell 8
            have x9 := XB.cell 9
            simp only [List.getElem?_toArray, List.getElem?_cons_zero, List.getElem?_cons_succ] at x0 x1 x2 x3 x4 x5 x6 x7 x8 x9
            have HX := Lib.hid X.push
            clear X XB hA hee hb he h10 h11
            go_wp2
            exact ⟨⟨k + 1, ap, rv, cl, ex, st, un, pa, by omega, by go_num, cons_same RB.out HP0.out HX.out⟩, by simp [intOf]; omega⟩
          · have HX := Lib.hid X.push
            have XB := X.blk
            clear X HD HR
            obtain ⟨rid, rcur, rap, rrv, rcl, rex, rst, rat, run, rpa, rn1, rn2, rerr⟩ := r
            obtain ⟨K1, K2, K3, K4, K5, K6, K7, K8, K9, K10⟩ := K
            dsimp only at he hid hcur K1 K2 K3 K4 K5 K6 K7 K8 K9 K10 h10 h11 h12 XB
            subst hid hcur he K2 h10 h11 h12
            have HC2 := chk_zero K1
            have HK := Lib.hid K1
            have OP2 := fun W => open_ok sX sEur rap rrv rcl rex rst 0 run rpa W (by decide) (by decide) HC2 K1 (by decide +kernel) (by decide +kernel)
            have CH2 := fun W => check_is sX sEur rap rrv rcl rex rst 0 run rpa W (by decide) (by decide) HC2
            have z1 := K1.k_ap
            have z2 := K1.k_rv
            have z3 := K1.k_cl
            have z4 := K1.k_ex
            have z5 := K1.k_left
            have y1 := HO.out.k_ap
            have y2 := HO.out.k_rv
            have y3 := HO.out.k_cl
            have y4 := HO.out.k_ex
            have f1 : ((rap - rrv - rcl - rex) != (ap - rv - cl - ex + (rap - ap) - rn1 - rn2)) = false := by simp; omega
            have f2 : (rap != (rrv + rcl + rex + (rap - rrv - rcl - rex))) = false := by simp; omega
            have f3 : (rcl != (cl + rn1)) = false := by simp; omega
            have f4 : decide (rrv < rv) = false := decide_eq_false (by omega)
            have f5 : decide (rex < ex) = false := decide_eq_false (by omega)
            have f6 : decide (rap - ap < 0) = false := decide_eq_false (by omega)
            have f7 : decide (ap - rv - cl - ex ≤ 0) = false := decide_eq_false (by omega)
            have b1 : rn1 ≤ 9999999999999 := by omega
            have b2 : rn2 ≤ 9999999999999 := by omega
            have F9 := Lib.hid K9
            clear K1 K9 K7
            have c0 := hA.cell 0
            have c1 := hA.cell 1
            have c2 := hA.cell 2
            have c3 := hA.cell 3
            have c4 := hA.cell 4
            have c5 := hA.cell 5
            have c6 := hA.cell 6
            have c7 := hA.cell 7
            have c8 := hA.cell 8
            have c9 := hA.cell 9
            have cf := hA.frozen
            have x0 := XB.cell 0
            have x1 := XB.cell 1
            have x2 := XB.cell 2
            have x3 := XB.cell 3
            have x4 := XB.cell 4
            have x5 := XB.cell 5
            have x6 := XB.cell 6
            have x7 := XB.cell 7
            have x8 := XB.cell 8
            have x9 := XB.cell 9
            have kgX : g < wc.heap.size := XB.lt
            simp only [List.getElem?_toArray, List.getElem?_cons_zero, List.getElem?_cons_succ] at c0 c1 c2 c3 c4 c5 c6 c7 c8 c9 x0 x1 x2 x3 x4 x5 x6 x7 x8 x9
            have HA := Lib.hid hA
            have HXB := Lib.hid XB
            clear hA XB
            have hz : (∃ z, ((rap - ap) != 0) = z ∧ (z = true → ((kd % 4) != 1) = false)) := ⟨_, rfl, fun h => by
              have := K6 (by intro hh; rw [hh] at h; simp at h)
              simp [this]⟩
            obtain ⟨z, hz1, hz2⟩ := hz
            clear K6
            have PWC := HP0.out.trans HX.out
            cases z
            all_goals (try have hz3 := hz2 rfl)
            all_goals clear hz2
            all_goals go_wp2_with (first | (go_at_call 12; refine (CH2 _).mono ?_; rintro e w1 ⟨rfl, l4, n4, rfl⟩) | (go_at_call 10; refine (OP2 _).mono ?_; rintro e w1 ⟨rfl, l5, n5, rfl⟩))
            all_goals have s1 : IntKind.i64.wrap (rrv + rcl) = rrv + rcl := IntWalk.i64_in _ (by omega)
            all_goals have s2 : IntKind.i64.wrap (rrv + rcl + rex) = rrv + rcl + rex := IntWalk.i64_in _ (by clear s1; omega)
            all_goals have s3 : IntKind.i64.wrap (rrv + rcl + rex + (rap - rrv - rcl - rex)) = rrv + rcl + rex + (rap - rrv - rcl - rex) := IntWalk.i64_in _ (by clear s1 s2; omega)
            all_goals have s4 : IntKind.i64.wrap (cl + rn1) = cl + rn1 := IntWalk.i64_in _ (by clear s1 s2 s3; omega)
            all_goals go_region_held3 (fun w' => Pushed wc w' ∧ w.heap.size + l1.length < w'.heap.size ∧ g < w'.heap.size ∧ w'.cell? ⟨g, 0, none⟩ = some (.string sX) ∧ w'.cell? ⟨g, 1, none⟩ = some (.string sEur) ∧ w'.cell? ⟨g, 2, none⟩ = some (.int .i64 rap) ∧ w'.cell? ⟨g, 3, none⟩ = some (.int .i64 rrv) ∧ w'.cell? ⟨g, 4, none⟩ = some (.int .i64 rcl) ∧ w'.cell? ⟨g, 5, none⟩ = some (.int .i64 rex) ∧ w'.cell? ⟨g, 6, none⟩ = some (.int .i64 rst) ∧ w'.cell? ⟨g, 7, none⟩ = some (.int .i64 0) ∧ w'.cell? ⟨g, 8, none⟩ = some (.int .i64 run) ∧ w'.cell? ⟨g, 9, none⟩ = some (.int .i64 rpa) ∧ w'.cell? ⟨w.heap.size + l1.length, 0, none⟩ = some (.string sX) ∧ w'.cell? ⟨w.heap.size + l1.length, 1, none⟩ = some (.string sEur) ∧ w'.cell? ⟨w.heap.size + l1.length, 2, none⟩ = some (.int .i64 ap) ∧ w'.cell? ⟨w.heap.size + l1.length, 3, none⟩ = some (.int .i64 rv) ∧ w'.cell? ⟨w.heap.size + l1.length, 4, none⟩ = some (.int .i64 cl) ∧ w'.cell? ⟨w.heap.size + l1.length, 5, none⟩ = some (.int .i64 ex) ∧ w'.cell? ⟨w.heap.size + l1.length, 6, none⟩ = some (.int .i64 st) ∧ w'.cell? ⟨w.heap.size + l1.length, 7, none⟩ = some (.int .i64 0) ∧ w'.cell? ⟨w.heap.size + l1.length, 8, none⟩ = some (.int .i64 un) ∧ w'.cell? ⟨w.heap.size + l1.length, 9, none⟩ = some (.int .i64 pa) ∧ (∀ i, w'.frozen? ⟨w.heap.size + l1.length, i, none⟩ = false)) (first | ((repeat' apply And.intro) <;> first | ((repeat (first | with_reducible exact Pushed.refl _ | with_reducible assumption | with_reducible refine Pushed.push ?_ _ | with_reducible refine Pushed.alloc ?_ _ | with_reducible refine Pushed.drewN ?_ _ | with_reducible refine Pushed.drew ?_)); done) | (go_simp; done) | (intro i; go_simp; done) | (simp [size_push]; omega))) (first | (go_at_call 10; refine (OP2 _).mono ?_; rintro e w1 ⟨rfl, l6, n6, rfl⟩))
            all_goals clear s1 s2 s3 s4
            all_goals go_wp2_with fail
            all_goals (exact ⟨⟨k + 1, rap, rrv, rcl, rex, rst, run, rpa, hlt, num_next k, cons_push (cons_next HA.out (RB.out.bel.trans (Below.mono (Pushed.below PWC) RB.out.bel.size)) RB.out.old HK.out) _ _⟩, meas_next hlt⟩)
      · go_wp2_with (go_at_call 9; refine (awake_any _).mono ?_; rintro e w1 ⟨rfl, l3, n3, rfl⟩)
        go_ret
        exact ⟨rfl, RB.out.bel.trans (Below.mono (Pushed.below (by repeat (first | with_reducible exact Pushed.refl _ | with_reducible refine Pushed.push ?_ _ | with_reducible refine Pushed.drewN ?_ _ | with_reducible refine Pushed.drew ?_))) RB.out.bel.size)⟩
    · go_wp2_with (go_at_call 9; refine (awake_any _).mono ?_; rintro e w1 ⟨rfl, l3, n3, rfl⟩)
      go_ret
      exact ⟨rfl, RB.out.bel.trans (Below.mono (Pushed.below (by repeat (first | with_reducible exact Pushed.refl _ | with_reducible refine Pushed.push ?_ _ | with_reducible refine Pushed.drewN ?_ _ | with_reducible refine Pushed.drew ?_))) RB.out.bel.size)⟩
end Go.Proofs.Ytmigodjkenhedaa
