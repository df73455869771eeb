/-
  PROVED: for any limits and any uses, the law CardLimits returns true: the sum and the number of the uses of a day never exceed the limits, and are those of the uses that returned OK (at most 60 uses). Conditions: none besides the form's own reach.
-/
import Derived.Test.YtacdfhgamjinbabCard8
import Derived.Deep.Slices
import Derived.Deep.Fields
import Derived.ChangeSame
import Derived.Test.YtacdfhgamjinbabRows
import Derived.WalkKit
import Derived.ProofKit
import Derived.OpenShut
import Derived.ShutString
import Derived.ChangeOld
import Derived.Below
namespace Go.Proofs.Ytacdfhgamjinbab.cardLimits
open Go.ChangeShapes Go.WideShapes Go.ChangeAt Go.RowKit Go.Deep
set_option linter.unusedVariables false
section
variable {H : Type} {enc : TypeId × Value → H} {P : Program} {w : World} {base : Nat} {spare : Nat → Bool} {held : Bool}
theorem open_slice_fields {t e : TypeId} {fs : Array Field} {fuel : Nat} {cs : List Value} {x : DataW H × List MemPlace} (ht : P.underlying t = some (.slice e)) (he : P.underlying e = some (.struct fs))
    (hone : oneCellFields P fs = true) (hC : P.cellsOf e = fs.size) (h : DataW.trod enc P w base spare held fuel t cs = some x) :
    (cs = [.slice none 0 0] ∧ x = (.nil, [])) ∨
    ∃ (a : Addr) (len cap m : Nat) (D : Nat → DataW H) (Pl : Nat → List MemPlace), cs = [.slice (some a) len cap] ∧ base ≤ a.block ∧ len ≤ cap ∧ cap ≤ maxLen ∧ m = (if spare a.block then cap else len) ∧
      x = (.slice ((List.range len).map D) ((List.range (m - len)).map fun j => D (len + j)), MemPlace.row a (m * fs.size) ++ (List.range m).flatMap Pl) ∧
      ∀ i, i < m → ∃ (ys : List (DataW H × List MemPlace)) (n : Nat), D i = .agg (ys.map (·.1)) ∧ Pl i = ys.flatMap (·.2) ∧ ys.length = fs.size ∧
        ∀ (j : Nat) (f : Field), fs[j]? = some f → ∃ (v : Value) (y : DataW H × List MemPlace), w.cell? (a.add (i * fs.size + j)) = some v ∧ ys[j]? = some y ∧ DataW.trod enc P w base spare held n f.type [v] = some y := by
  rcases open_slice ht h with h0 | ⟨a, len, cap, m, n, D, Pl, hcs, hb, hl, hm, hmm, hx, hi⟩
  · exact .inl h0
  · refine .inr ⟨a, len, cap, m, D, Pl, hcs, hb, hl, hm, hmm, by rw [hC] at hx; exact hx, fun i him => ?_⟩
    obtain ⟨cs', hc, ht'⟩ := hi i him
    rw [hC] at hc
    obtain ⟨ys, n', hn', hy, hlen, hyl, hf⟩ := DataW.trod_struct he ht'
    obtain ⟨_, hcl, hat⟩ := World.cells?_some hc
    simp only [Prod.mk.injEq] at hy
    refine ⟨ys, n', hy.1, hy.2, hyl, fun j f hj => ?_⟩
    obtain ⟨ho, hk⟩ := hone_of hone j f hj
    have hjl : j < fs.size := (Array.getElem?_eq_some_iff.1 hj).1
    have hcell := hat j hjl
    have hv : cs'[j]? = some (cs'[j]'(by omega)) := List.getElem?_eq_getElem (by omega)
    have h1 := hf j f hj
    rw [ho, hk] at h1
    have hone' : (cs'.drop j).take 1 = [cs'[j]'(by omega)] := by
      rw [List.drop_eq_getElem_cons (by omega)]
      rfl
    rw [hone'] at h1
    have hys : ys[j]? = some (ys[j]'(by omega)) := List.getElem?_eq_getElem (by omega)
    refine ⟨_, _, ?_, hys, h1.trans hys⟩
    rw [← Go.Deep.add_add, hcell, hv]
theorem one_int {t : TypeId} {k : IntKind} {n : Nat} {v : Value} {x : DataW H × List MemPlace} (ht : P.underlying t = some (.int k)) (h : DataW.trod enc P w base spare held n t [v] = some x) : ∃ a, v = .int k a ∧ (Lit.int k a).wf = true := by
  obtain ⟨a, e, _, wf⟩ := DataW.trod_int ht h
  exact ⟨a, by simpa using e, wf⟩
end
/-- The steps that came in: the third and the fourth cell of each. -/
def IsSteps (w : World) (A : Option Addr) (len : Nat) : Prop := ∀ j, j < len → ∃ (b off : Nat) (dt am : Int), A = some ⟨b, off, none⟩ ∧ w.cell? ⟨b, off + j * 4 + 2, none⟩ = some (.int .i64 dt) ∧ w.cell? ⟨b, off + j * 4 + 3, none⟩ = some (.int .i64 am)
theorem add_at {w : World} {x : Addr} {n : Nat} {v : Value} (h : w.cell? (x.add n) = some v) : w.cell? ⟨x.block, x.off + n, none⟩ = some v := by
  by_cases h0 : n = 0
  · subst h0
    have hs := World.cell?_spot h
    obtain ⟨b, off, spot⟩ := x
    simp only [Addr.add, if_true] at hs h
    subst hs
    exact h
  · simpa [Addr.add, h0] using h
theorem steps_at {H : Type} {enc : TypeId × Value → H} {w : World} {base : Nat} {spare : Nat → Bool} {held : Bool} {x : Addr} {m : Nat} {fs : Array Field} {D : Nat → DataW H} {Pl : Nat → List MemPlace}
    (hfs : fs.size = 4) (t0 : (fs[0]?).map (·.type) = some 5) (t2 : (fs[2]?).map (·.type) = some 3) (t3 : (fs[3]?).map (·.type) = some 2)
    (hi : ∀ i, i < m → ∃ (ys : List (DataW H × List MemPlace)) (n : Nat), D i = .agg (ys.map (·.1)) ∧ Pl i = ys.flatMap (·.2) ∧ ys.length = fs.size ∧ ∀ (j : Nat) (f : Field), fs[j]? = some f → ∃ (v : Value) (y : DataW H × List MemPlace), w.cell? (x.add (i * fs.size + j)) = some v ∧ ys[j]? = some y ∧ DataW.trod enc Try.prog w base spare held n f.type [v] = some y)
    (j : Nat) (hj : j < m) : ∃ (b off : Nat) (dt am : Int), some x = some (⟨b, off, none⟩ : Addr) ∧ w.cell? ⟨b, off + j * 4 + 2, none⟩ = some (.int .i64 dt) ∧ w.cell? ⟨b, off + j * 4 + 3, none⟩ = some (.int .i64 am) := by
  obtain ⟨f0, e0, k0⟩ : ∃ f, fs[0]? = some f ∧ f.type = 5 := by cases h : fs[0]? <;> simp_all
  obtain ⟨f2, e2, k2⟩ : ∃ f, fs[2]? = some f ∧ f.type = 3 := by cases h : fs[2]? <;> simp_all
  obtain ⟨f3, e3, k3⟩ : ∃ f, fs[3]? = some f ∧ f.type = 2 := by cases h : fs[3]? <;> simp_all
  have hsp : x.spot = none := by
    obtain ⟨ys, n, _, _, _, hf⟩ := hi 0 (by omega)
    obtain ⟨v, y, c, _, _⟩ := hf 0 f0 e0
    have := World.cell?_spot c
    simpa [Addr.add] using this
  obtain ⟨ys, n, _, _, _, hf⟩ := hi j hj
  obtain ⟨v2, y2, c2, _, r2⟩ := hf 2 f2 e2
  obtain ⟨v3, y3, c3, _, r3⟩ := hf 3 f3 e3
  rw [k2] at r2
  rw [k3] at r3
  rw [hfs] at c2 c3
  obtain ⟨dt, rfl, _⟩ := one_int Try.underlying3 r2
  obtain ⟨am, rfl, _⟩ := one_int Try.underlying2 r3
  have d2 := add_at c2
  have d3 := add_at c3
  obtain ⟨b, off, spot⟩ := x
  dsimp only at hsp d2 d3
  subst hsp
  exact ⟨b, off, dt, am, rfl, by simpa [Nat.add_assoc] using d2, by simpa [Nat.add_assoc] using d3⟩
theorem u8_bd {a : Int} (h : (Lit.int .u8 a).wf = true) : 0 ≤ a ∧ a ≤ 255 := by simpa [Lit.wf, IntKind.min, IntKind.max, IntKind.signed, IntKind.bits] using h
structure LR (w : World) (g : Nat) (lim cnt day sum n : Int) (k : Nat) (wr : World) : Prop where
  blk : Lim wr g lim cnt day sum n
  bel : Below w.heap.size w wr
  old : w.heap.size ≤ g
  k_day : 0 ≤ day ∧ day ≤ 3 * k
  k_sum : 0 ≤ sum ∧ sum ≤ lim ∧ 0 ≤ n ∧ n ≤ cnt
theorem num_next (k : Nat) : Value.int .i64 ((k : Int) + 1) = Value.int .i64 ((k + 1 : Nat) : Int) := by go_num
theorem meas_next {k len : Nat} (h : k < len) : len - (intOf (Value.int .i64 ((k : Int) + 1))).toNat < len - (intOf (Value.int .i64 (k : Int))).toNat := by simp [intOf]; omega
set_option maxRecDepth 100000 in
set_option maxHeartbeats 8000000 in
theorem loop_walk (lim cn cnt : Int) (A : Option Addr) (len cap : Nat) (w : World) (hl : (len : Int) ≤ 60) (hlim : 0 ≤ lim ∧ lim ≤ 255) (hcn : 0 ≤ cn ∧ cn ≤ 255) (hq : cn % 16 = cnt) (hc : IsSteps w A len) :
    Calls Try.prog 5 #[.int .u8 lim, .int .u8 cn, .slice A len cap] w fun e w' => e = .returned (.bool true) ∧ Below w.heap.size w w' := by
  have hl8 : len ≤ 60 := by omega
  have hcnt : 0 ≤ cnt ∧ cnt ≤ 15 := by omega
  have HCell := Lib.hid hc
  have oL := Lib.hid (amt (n := lim) (by omega))
  clear hc
  go_enter Try.func5, Try.ntmps5
  go_wp2_with fail
  refine (new_any _ 1000 lim cnt (by decide) oL.out (by omega) (by omega)).mono ?_
  rintro e w1 ⟨g, hg, rfl, b1, n1⟩
  have HB1 := Lib.hid b1
  have HN1 := Lib.hid n1
  clear b1 n1
  go_wp2_with fail
  refine (do_ok g _ sample 1000 1 0 lim cnt (-1) 0 0 1 2 (by decide) (by decide) HB1.out).mono ?_
  rintro e w2 ⟨rfl, b2, n2⟩
  have HB2 := Lib.hid b2
  have HN2 := Lib.hid (nearB HN1.out hg n2)
  clear b2 n2 HB1 HN1
  go_wp2_with fail
  go_loopw [9, 10, 11, 12] (fun dy sm nn i wr => ∃ (k : Nat) (day sum n : Int), k ≤ len ∧ dy = .int .i64 day ∧ sm = .int .i64 sum ∧ nn = .int .i64 n ∧ i = .int .i64 k ∧ LR w g lim cnt day sum n k wr) (fun _ _ _ i _ => len - (intOf i).toNat)
  case atStart => exact ⟨0, 0, 0, 0, Nat.zero_le _, rfl, rfl, rfl, rfl, ⟨⟨-1, 0, 0, HB2.out, by omega, .inr ⟨by omega, rfl, rfl⟩⟩, HN2.out, hg, by omega, by omega⟩⟩
  case round =>
    obtain ⟨k, day, sum, n, hk, rfl, rfl, rfl, rfl, R⟩ := hrel
    have RR := Lib.hid R
    by_cases hlt : k < len
    · obtain ⟨b, off, dt, am, rfl, e2, e3⟩ := HCell.out k hlt
      have kb0 : b < w.heap.size := World.block_lt_of_cell? w _ e2
      have p2 : wr.cell? ⟨b, off + k * 4 + 2, none⟩ = some (.int .i64 dt) := by rw [R.bel.cell (p := ⟨b, off + k * 4 + 2, none⟩) kb0]; exact e2
      have p3 : wr.cell? ⟨b, off + k * 4 + 3, none⟩ = some (.int .i64 am) := by rw [R.bel.cell (p := ⟨b, off + k * 4 + 3, none⟩) kb0]; exact e3
      clear e2 e3
      have hk0 : (0 : Int) ≤ (k : Int) := Int.natCast_nonneg _
      have hk1 : (k : Int) < (len : Int) := by omega
      have hx0 : 0 ≤ (bits .and .i64 am 255) ∧ (bits .and .i64 am 255) ≤ 255 := and_small am 255 (by decide)
      have hy0 : 0 ≤ (bits .and .i64 dt 3) ∧ (bits .and .i64 dt 3) ≤ 3 := and_small dt 3 (by decide)
      obtain ⟨xx, hX⟩ : ∃ xx, (bits .and .i64 am 255) = xx := ⟨_, rfl⟩
      obtain ⟨yy, hY⟩ : ∃ yy, (bits .and .i64 dt 3) = yy := ⟨_, rfl⟩
      have hx : 0 ≤ xx ∧ xx ≤ 255 := by rw [← hX]; exact hx0
      have hy : 0 ≤ yy ∧ yy ≤ 3 := by rw [← hY]; exact hy0
      clear hx0 hy0
      have r1 := R.k_day
      have r2 := R.k_sum
      clear R
      by_cases y0 : yy = 0
      · have y1 : (yy != 0) = false := by simp [y0]
        clear y0
        by_cases g1 : lim < sum + xx
        · skip
          go_wp2_with fail
          refine (use_bad g _ lim cnt day sum n xx hlim hcnt (by omega) hx (by omega) (by omega) (by omega) RR.out.blk).mono ?_
          rintro e w3 ⟨rfl, b3, n3⟩
          skip
          have HB3 := Lib.hid b3
          have HN3 := Lib.hid (nearB RR.out.bel RR.out.old n3)
          clear b3 n3
          go_wp2_with fail
          refine (used_lim g _ lim cnt day sum n HB3.out).mono ?_
          rintro e w4 ⟨rfl, b4, n4⟩
          have HB4 := Lib.hid b4
          have HN4 := Lib.hid (nearB HN3.out RR.out.old n4)
          clear b4 n4
          go_wp2_with fail
          exact ⟨⟨k + 1, day, sum, n, hlt, rfl, rfl, rfl, num_next k, ⟨HB4.out, HN4.out, RR.out.old, by omega, by omega⟩⟩, meas_next hlt⟩
        · by_cases g2 : cnt < n + 1
          · skip
            go_wp2_with fail
            refine (use_bad g _ lim cnt day sum n xx hlim hcnt (by omega) hx (by omega) (by omega) (by omega) RR.out.blk).mono ?_
            rintro e w3 ⟨rfl, b3, n3⟩
            skip
            have HB3 := Lib.hid b3
            have HN3 := Lib.hid (nearB RR.out.bel RR.out.old n3)
            clear b3 n3
            go_wp2_with fail
            refine (used_lim g _ lim cnt day sum n HB3.out).mono ?_
            rintro e w4 ⟨rfl, b4, n4⟩
            have HB4 := Lib.hid b4
            have HN4 := Lib.hid (nearB HN3.out RR.out.old n4)
            clear b4 n4
            go_wp2_with fail
            exact ⟨⟨k + 1, day, sum, n, hlt, rfl, rfl, rfl, num_next k, ⟨HB4.out, HN4.out, RR.out.old, by omega, by omega⟩⟩, meas_next hlt⟩
          · have g3 : sum + xx ≤ lim := by omega
            have g4 : n + 1 ≤ cnt := by omega
            clear g1 g2
            go_wp2_with fail
            refine (use_ok g _ lim cnt day sum n xx hlim hcnt (by omega) hx (by omega) (by omega) (by omega) (by omega) RR.out.blk).mono ?_
            rintro e w3 ⟨rfl, b3, n3⟩
            skip
            have HB3 := Lib.hid b3
            have HN3 := Lib.hid (nearB RR.out.bel RR.out.old n3)
            clear b3 n3
            go_wp2_with fail
            refine (used_lim g _ lim cnt day (sum + xx) (n + 1) HB3.out).mono ?_
            rintro e w4 ⟨rfl, b4, n4⟩
            have HB4 := Lib.hid b4
            have HN4 := Lib.hid (nearB HN3.out RR.out.old n4)
            clear b4 n4
            go_wp2_with fail
            exact ⟨⟨k + 1, day, (sum + xx), (n + 1), hlt, rfl, rfl, rfl, num_next k, ⟨HB4.out, HN4.out, RR.out.old, by omega, by omega⟩⟩, meas_next hlt⟩
      · have y1 : (yy != 0) = true := by simp [y0]
        have HLT := Lib.hid (RR.out.blk.later (day' := day + yy) (by omega))
        clear y0
        by_cases g1 : lim < xx
        · skip
          go_wp2_with fail
          refine (use_bad g _ lim cnt (day + yy) 0 0 xx hlim hcnt (by omega) hx (by omega) (by omega) (by omega) HLT.out).mono ?_
          rintro e w3 ⟨rfl, b3, n3⟩
          skip
          have HB3 := Lib.hid b3
          have HN3 := Lib.hid (nearB RR.out.bel RR.out.old n3)
          clear b3 n3
          go_wp2_with fail
          refine (used_lim g _ lim cnt (day + yy) 0 0 HB3.out).mono ?_
          rintro e w4 ⟨rfl, b4, n4⟩
          have HB4 := Lib.hid b4
          have HN4 := Lib.hid (nearB HN3.out RR.out.old n4)
          clear b4 n4
          go_wp2_with fail
          exact ⟨⟨k + 1, (day + yy), 0, 0, hlt, rfl, rfl, rfl, num_next k, ⟨HB4.out, HN4.out, RR.out.old, by omega, by omega⟩⟩, meas_next hlt⟩
        · by_cases g2 : cnt < 1
          · skip
            go_wp2_with fail
            refine (use_bad g _ lim cnt (day + yy) 0 0 xx hlim hcnt (by omega) hx (by omega) (by omega) (by omega) HLT.out).mono ?_
            rintro e w3 ⟨rfl, b3, n3⟩
            skip
            have HB3 := Lib.hid b3
            have HN3 := Lib.hid (nearB RR.out.bel RR.out.old n3)
            clear b3 n3
            go_wp2_with fail
            refine (used_lim g _ lim cnt (day + yy) 0 0 HB3.out).mono ?_
            rintro e w4 ⟨rfl, b4, n4⟩
            have HB4 := Lib.hid b4
            have HN4 := Lib.hid (nearB HN3.out RR.out.old n4)
            clear b4 n4
            go_wp2_with fail
            exact ⟨⟨k + 1, (day + yy), 0, 0, hlt, rfl, rfl, rfl, num_next k, ⟨HB4.out, HN4.out, RR.out.old, by omega, by omega⟩⟩, meas_next hlt⟩
          · have g3 : xx ≤ lim := by omega
            have g4 : 1 ≤ cnt := by omega
            clear g1 g2
            go_wp2_with fail
            refine (use_ok g _ lim cnt (day + yy) 0 0 xx hlim hcnt (by omega) hx (by omega) (by omega) (by omega) (by omega) HLT.out).mono ?_
            rintro e w3 ⟨rfl, b3, n3⟩
            rw [Int.zero_add, Int.zero_add] at b3
            have HB3 := Lib.hid b3
            have HN3 := Lib.hid (nearB RR.out.bel RR.out.old n3)
            clear b3 n3
            go_wp2_with fail
            refine (used_lim g _ lim cnt (day + yy) xx 1 HB3.out).mono ?_
            rintro e w4 ⟨rfl, b4, n4⟩
            have HB4 := Lib.hid b4
            have HN4 := Lib.hid (nearB HN3.out RR.out.old n4)
            clear b4 n4
            go_wp2_with fail
            exact ⟨⟨k + 1, (day + yy), xx, 1, hlt, rfl, rfl, rfl, num_next k, ⟨HB4.out, HN4.out, RR.out.old, by omega, by omega⟩⟩, meas_next hlt⟩
    · clear R
      go_wp2_with (go_at_call 8; refine (awake_any _).mono ?_; rintro e wz ⟨rfl, hzz⟩)
      go_ret
      exact ⟨rfl, RR.out.bel.trans (Below.mono (by assumption) RR.out.bel.size)⟩
theorem walk (lim cn : Int) (A : Option Addr) (len cap : Nat) (w : World) (w0 : (Lit.int .u8 lim).wf = true) (w1 : (Lit.int .u8 cn).wf = true) (hr : len ≤ maxLen ∧ IsSteps w A len) :
    Calls Try.prog 5 #[.int .u8 lim, .int .u8 cn, .slice A len cap] w fun e w' => e = .returned (.bool true) ∧ Below w.heap.size w w' := by
  have b0 := u8_bd w0
  have b1 := u8_bd w1
  have hlm := hr.1
  unfold maxLen at hlm
  by_cases hl : (len : Int) ≤ 60
  · exact loop_walk lim cn _ A len cap w hl b0 b1 rfl hr.2
  · have hl' : 60 < (len : Int) := by omega
    have oL := amt (n := lim) (by omega)
    have OL := Lib.hid oL
    have hq : 0 ≤ cn % 16 ∧ cn % 16 ≤ 15 := by omega
    clear hl hr w1 w0 oL
    go_enter Try.func5, Try.ntmps5
    go_wp2_with fail
    refine (new_any _ 1000 lim (cn % 16) (by decide) OL.out (by omega) (by omega)).mono ?_
    rintro e w1 ⟨g, hg, rfl, b1, n1⟩
    have HN1 := Lib.hid n1
    clear b1 n1
    go_wp2_with (go_at_call 8; refine (awake_any _).mono ?_; rintro e wz ⟨rfl, hzz⟩)
    go_ret
    exact ⟨rfl, HN1.out.trans (Below.mono (by assumption) HN1.out.size)⟩

theorem own : ownKnob Try.prog.godebug = none := by kernel_rfl
theorem laidOut : laidOutB Try.prog = true := by kernel_rfl
set_option maxRecDepth 100000 in
theorem lifted (os : Os) (started : os.Started) (H : Type) (enc : TypeId × Value → H) :
    ReturnsInHanded {} Try.checked os 5 .any (Rows.cardLimitsSpec.pre6 enc Try.prog Try.f5 Rows.cardLimitsRow.domain false) (Rows.cardLimitsSpec.post enc Try.prog Try.f5 false true false false) := by
  refine returnsInHanded_of_change (C := Try.checked) own started (by kernel_rfl) Try.func5
    (ChangeSpec.witness6 (enc := enc) (C := Try.checked) false ⟨#[], #[.int .u8 0, .int .u8 0, .slice none 0 0], []⟩ 8 (by kernel_rfl) (by kernel_rfl) (by kernel_rfl) (by kernel_rfl)) ?_
  intro W base args ds gs before hval0 hW hcnd _
  have hval : ∀ (j : Nat) t v, Try.f5.params[j]? = some t → args[j]? = some v → Value.okWide Try.prog W .any base t v := hval0
  have hW' := hW
  obtain ⟨p, q, hA0, hV, rfl, hfz, hnd⟩ := hW
  have hA : DataW.TrodAll enc Try.prog W 0 (fun _ => true) true Try.f5.params.toList args.toList ds p := hA0
  rw [Try.params5] at hA hval
  obtain ⟨v0, vs0, d0, ds0, p0, q0, hargs, rfl, rfl, h0, r0⟩ := trodAll_cons hA
  obtain ⟨v1, vs1, d1, ds1, p1, q1, rfl, rfl, rfl, h1, r1⟩ := trodAll_cons r0
  obtain ⟨v2, vs2, d2, ds2, p2, q2, rfl, rfl, rfl, h2, r2⟩ := trodAll_cons r1
  obtain ⟨rfl, rfl, rfl⟩ := trodAll_nil r2
  obtain rfl : args = #[v0, v1, v2] := by cases args; simp_all
  obtain ⟨rfl, rfl⟩ := trodVars_none hV
  have k0 := h0
  have lt0 : ∀ x ∈ p0, x.block < W.heap.size := by obtain ⟨m, hm⟩ := k0; exact DataW.trod_lt m _ _ _ hm
  obtain ⟨a0, rfl, -, -, w0⟩ := open_int Try.underlying5 (hval 0 5 v0 rfl rfl) h0
  have k1 := h1
  have lt1 : ∀ x ∈ p1, x.block < W.heap.size := by obtain ⟨m, hm⟩ := k1; exact DataW.trod_lt m _ _ _ hm
  obtain ⟨a1, rfl, -, -, w1⟩ := open_int Try.underlying5 (hval 1 5 v1 rfl rfl) h1
  have k2 := h2
  have lt2 : ∀ x ∈ p2, x.block < W.heap.size := by obtain ⟨m, hm⟩ := k2; exact DataW.trod_lt m _ _ _ hm
  obtain ⟨a2, len2, cap2, rfl⟩ := okWide_slice Try.underlying24 (hval 2 24 v2 rfl rfl)
  have w2 : len2 ≤ maxLen ∧ IsSteps W a2 len2 := by
    obtain ⟨fuel, hf⟩ := h2
    rcases open_slice_fields Try.underlying24 Try.underlying35 (by kernel_rfl) (by kernel_rfl) hf with ⟨hcs, _⟩ | ⟨x, l, c, m, D, Pl, hcs, _, hl, hm, hmm, _, hi⟩
    · simp [Value.cells] at hcs
      obtain ⟨rfl, rfl, rfl⟩ := hcs
      exact ⟨Nat.zero_le _, fun j hj => absurd hj (Nat.not_lt_zero _)⟩
    · simp [Value.cells] at hcs
      obtain ⟨rfl, rfl, rfl⟩ := hcs
      simp only [if_true] at hmm
      exact ⟨by omega, fun j hj => steps_at rfl rfl rfl rfl hi j (by omega)⟩
  clear hA0 hval0
  refine (walk a0 a1 a2 len2 cap2 W w0 w1 w2).mono fun e W' ⟨he, bel⟩ => ?_
  subst he
  exact ⟨_, rfl, _, _, _, [], _, [], hW', trodAll_mk1 (shut_bool Try.underlying4 _), (trodAll_cons_mk (Below.trod laidOut (by kernel_rfl) (of_decide_eq_true (by kernel_rfl)) k0 bel lt0) (trodAll_cons_mk (Below.trod laidOut (by kernel_rfl) (of_decide_eq_true (by kernel_rfl)) k1 bel lt1) (trodAll_cons_mk (Below.trod laidOut (by kernel_rfl) (of_decide_eq_true (by kernel_rfl)) k2 bel lt2) trodAll_mk0))), rfl, bel.frame _, fun h => by cases h⟩

theorem over : Rows.cardLimitsRow.holds Try.pinned (OpenSpec.ofChange Rows.cardLimitsSpec) :=
  OpenClaim.holds_of_wide 5 Try.f5 rfl rfl rfl rfl rfl rfl rfl ⟨rfl, rfl, rfl, rfl, rfl⟩ rfl rfl rfl rfl rfl (by kernel_rfl) Try.func5 (by kernel_rfl)
    (of_decide_eq_true (by kernel_rfl)) (by unfold Func.isWrapper; first | (rw [if_pos (by decide +kernel)]; kernel_rfl) | (rw [if_neg (by decide +kernel)]; exact ⟨rfl, rfl⟩))
    (fun os started H enc _ => lifted os started H enc)
/-- THE STATEMENT. -/
theorem proved : Rows.CardLimitsSaid := over
#print axioms proved
end Go.Proofs.Ytacdfhgamjinbab.cardLimits
