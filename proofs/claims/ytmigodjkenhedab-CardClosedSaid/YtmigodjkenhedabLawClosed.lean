/-
  PROVED: for any list of events and any day, the law CardClosed returns true: a closed card stays closed and can not be used, and only an active card can be used (at most 40 events). Conditions: none besides the form's own reach.
-/
import Derived.Test.YtmigodjkenhedabCard6
import Derived.Test.YtmigodjkenhedabRows
import Derived.WalkKit
import Derived.ProofKit
import Derived.OpenShut
import Derived.ShutString
import Derived.ChangeOld
import Derived.Below
namespace Go.Proofs.Ytmigodjkenhedab.cardClosed
open Go.ChangeShapes Go.WideShapes Go.ChangeAt Go.RowKit
open Go.ChangeMaps (open_string shut_string)
set_option linter.unusedVariables false

def IsBytes (w : World) (A : Option Addr) (len : Nat) : Prop := ∀ j, j < len → ∃ (b off : Nat) (kd : Int), A = some ⟨b, off, none⟩ ∧ (0 ≤ kd ∧ kd ≤ 255) ∧ w.cell? ⟨b, off + j, none⟩ = some (.int .u8 kd)
theorem u8_bd {a : Int} (h : (Lit.int .u8 a).wf = true) : 0 ≤ a ∧ a ≤ 255 := by simpa [Lit.wf, IntKind.min, IntKind.max, IntKind.signed, IntKind.bits] using h
theorem bytes_at {w : World} {x : Addr} {len cap : Nat} {zs : List Int} (hl : len ≤ cap) (hz : zs.length = cap) (hcell : ∀ i, i < zs.length → w.cell? (x.add i) = some (.int .u8 (zs.getD i 0))) (hwz : ∀ n ∈ zs, (Lit.int .u8 n).wf = true) : IsBytes w (some x) len := by
  intro j hj
  obtain ⟨b, off, spot⟩ := x
  have h0 := hcell 0 (by omega)
  have hspot : spot = none := by simpa [Addr.add] using World.cell?_spot h0
  subst hspot
  have hc := hcell j (by omega)
  refine ⟨b, off, zs.getD j 0, rfl, u8_bd (hwz _ ?_), ?_⟩
  · rw [List.getD_eq_getElem?_getD, List.getElem?_eq_getElem (by omega)]
    exact List.getElem_mem _
  · by_cases hj0 : j = 0
    · subst hj0; simpa [Addr.add] using hc
    · simpa [Addr.add, hj0] using hc
structure KR (w : World) (g : Nat) (st d c : Int) (cb : Bool) (day : Int) (k : Nat) (wr : World) : Prop where
  blk : Blk wr g 57 #[.string sample, .int .i64 255, .int .i64 st, .int .i64 0, .int .i64 1000, .int .i64 1000, .int .i64 d, .int .i64 0, .int .i64 c]
  bel : Below w.heap.size w wr
  old : w.heap.size ≤ g
  k_st : 1 ≤ st ∧ st ≤ 4
  k_cb : cb = true ↔ st = 4
  k_d : (d = -1 ∧ c = 0) ∨ d = day
  k_c : 0 ≤ c ∧ c ≤ k
theorem bel2 {w wr w2 w3 : World} {g : Nat} (h : Below w.heap.size w wr) (hg : w.heap.size ≤ g) (n : Near wr g w2) (m : Near w2 g w3) : Below w.heap.size w w3 :=
  nearB (nearB h hg n) hg m
theorem num_next (k : Nat) : Value.int .i64 ((k : Int) + 1) = Value.int .i64 ((k + 1 : Nat) : Int) := by go_num
theorem meas_next {k len : Nat} (h : k < len) : len - (intOf (Value.int .i64 ((k : Int) + 1))).toNat < len - (intOf (Value.int .i64 (k : Int))).toNat := by simp [intOf]; omega
set_option maxRecDepth 100000 in
set_option maxHeartbeats 4000000 in
theorem loop_walk (day : Int) (A : Option Addr) (len cap : Nat) (w : World) (hl : (len : Int) ≤ 40) (hday : 0 ≤ day ∧ day ≤ 255) (hc : IsBytes w A len) :
    Calls Try.prog 7 #[.slice A len cap, .int .u8 day] w fun e w' => e = .returned (.bool true) ∧ Below w.heap.size w w' := by
  have hl8 : len ≤ 40 := by omega
  have HCell := Lib.hid hc
  have OD : Hid (okDate day = true) := by show okDate day = true; unfold okDate; simp; omega
  clear hc
  go_enter Try.func7, Try.ntmps7
  go_wp2_with fail
  refine (new_any _ 255 1000 1000 (by decide) (by decide) (by decide) (by decide)).mono ?_
  rintro e w1 ⟨g, hg, rfl, b1, n1⟩
  have HB1 := Lib.hid b1
  have HN1 := Lib.hid n1
  clear b1 n1
  go_wp2_with fail
  go_loopw [7, 8] (fun cl i wr => ∃ (k : Nat) (st d c : Int) (cb : Bool), k ≤ len ∧ cl = .bool cb ∧ i = .int .i64 k ∧ KR w g st d c cb day k wr) (fun _ i _ => len - (intOf i).toNat)
  case atStart => exact ⟨0, 1, -1, 0, false, Nat.zero_le _, rfl, rfl, ⟨HB1.out, HN1.out, hg, by omega, by simp, Or.inl ⟨rfl, rfl⟩, by omega⟩⟩
  case round =>
    obtain ⟨k, st, d, c, cb, hk, rfl, rfl, R⟩ := hrel
    have RR := Lib.hid R
    by_cases hlt : k < len
    · obtain ⟨b, off, kd, rfl, hkd, e0⟩ := HCell.out k hlt
      have kb0 : b < w.heap.size := World.block_lt_of_cell? w _ e0
      have p0 : wr.cell? ⟨b, off + k, none⟩ = some (.int .u8 kd) := by rw [R.bel.cell (p := ⟨b, off + k, none⟩) kb0]; exact e0
      clear e0
      have hk0 : (0 : Int) ≤ (k : Int) := Int.natCast_nonneg _
      have hk1 : (k : Int) < (len : Int) := by omega
      have hx : 1 ≤ 1 + kd % 4 ∧ 1 + kd % 4 ≤ 4 := by omega
      obtain ⟨f1, f2, f3⟩ := do_facts R.k_st hx
      obtain ⟨e0, he⟩ : ∃ e0, e0 = nextE st (1 + kd % 4) := ⟨_, rfl⟩
      obtain ⟨s1, hs1⟩ : ∃ s1, s1 = doS st (1 + kd % 4) := ⟨_, rfl⟩
      have DO := do_is g wr sample 255 st 0 1000 1000 d 0 c (1 + kd % 4) (Lib.hid he) (Lib.hid hs1) R.blk
      rw [← hs1] at f1 f2 f3
      rw [← he] at f2
      have hcb := R.k_cb
      have hdd := R.k_d
      have hcc := R.k_c
      clear he hs1 R
      cases cb
      · have hst : st ≠ 4 := fun h => by have := hcb.2 h; cases this
        have f3' := f3 hst
        clear f2 f3 hcb
        obtain ⟨xb, hxb⟩ : ∃ xb : Bool, xb = decide (s1 = 4) := ⟨_, rfl⟩
        have q1 : ((1 + kd % 4) == 4) = xb := by rw [hxb, Bool.eq_iff_iff]; simp; omega
        have q2 : (s1 == 4) = xb := by rw [hxb, Bool.eq_iff_iff]; simp
        have HXB : Hid (xb = true ↔ s1 = 4) := by show _ ↔ _; rw [hxb]; simp
        clear hxb f3'
        by_cases h2 : s1 = 2
        · subst h2
          have hxf : xb = false := by rw [← q2]; decide
          subst hxf
          clear q2 HXB
          rcases hdd with ⟨rfl, rfl⟩ | hdq
          · have Q1 : Hid (((-1 : Int) != day) = true) := by show (_ != _) = true; simp; omega
            go_wp2_with fail
            refine DO.mono ?_
            rintro e w2 ⟨rfl, b2, n2⟩
            have HB2 := Lib.hid b2
            have HN2 := Lib.hid n2
            clear b2 n2 p0
            go_wp2_with (go_at_call 12; refine (state_is g _ sample 255 2 0 1000 1000 _ 0 _ HB2.out).mono ?_; rintro e wy ⟨rfl, rfl⟩)
            refine (use_new g _ sample 255 2 0 1000 1000 (-1) 0 0 day 0 (by decide) OD.out (by omega) (by decide) (by decide) (by decide) (by decide) Q1.out (by omega) (by decide) (by decide) HB2.out).mono ?_
            rintro e w3 ⟨rfl, b3, n3⟩
            have HB3 := Lib.hid b3
            have HN3 := Lib.hid (bel2 RR.out.bel RR.out.old HN2.out n3)
            clear b3 n3
            go_wp2_with (go_at_call 12; refine (state_is g _ sample 255 2 0 1000 1000 _ 0 _ HB3.out).mono ?_; rintro e wy ⟨rfl, rfl⟩)
            exact ⟨⟨k + 1, 2, day, 1, false, hlt, rfl, num_next k, ⟨HB3.out, HN3.out, RR.out.old, by omega, by simp, Or.inr rfl, by omega⟩⟩, meas_next hlt⟩
          · have hdq2 := hdq.symm
            clear hdq
            subst hdq2
            go_wp2_with fail
            refine DO.mono ?_
            rintro e w2 ⟨rfl, b2, n2⟩
            have HB2 := Lib.hid b2
            have HN2 := Lib.hid n2
            clear b2 n2 p0
            go_wp2_with (go_at_call 12; refine (state_is g _ sample 255 2 0 1000 1000 _ 0 _ HB2.out).mono ?_; rintro e wy ⟨rfl, rfl⟩)
            refine (use_same g _ sample 255 2 0 1000 1000 day 0 c day 0 (by decide) OD.out (by omega) (by decide) (by decide) (by omega) (by decide) (by simp) (by omega) (by decide) (by omega) HB2.out).mono ?_
            rintro e w3 ⟨rfl, b3, n3⟩
            have HB3 := Lib.hid b3
            have HN3 := Lib.hid (bel2 RR.out.bel RR.out.old HN2.out n3)
            clear b3 n3
            go_wp2_with (go_at_call 12; refine (state_is g _ sample 255 2 0 1000 1000 _ 0 _ HB3.out).mono ?_; rintro e wy ⟨rfl, rfl⟩)
            exact ⟨⟨k + 1, 2, day, (c + 1), false, hlt, rfl, num_next k, ⟨HB3.out, HN3.out, RR.out.old, by omega, by simp, Or.inr rfl, by omega⟩⟩, meas_next hlt⟩
        have q3 : (s1 == 2) = false := by simp [h2]
        have q4 : (s1 != 2) = true := by simp [h2]
        clear h2
        go_wp2_with fail
        refine DO.mono ?_
        rintro e w2 ⟨rfl, b2, n2⟩
        have HB2 := Lib.hid b2
        have HN2 := Lib.hid n2
        clear b2 n2 p0
        go_wp2_with (go_at_call 12; refine (state_is g _ sample 255 s1 0 1000 1000 _ 0 _ HB2.out).mono ?_; rintro e wy ⟨rfl, rfl⟩)
        refine (use_card g _ sample 255 s1 0 1000 1000 d 0 c day 0 q4 HB2.out).mono ?_
        rintro e w3 ⟨rfl, b3, n3⟩
        have HB3 := Lib.hid b3
        have HN3 := Lib.hid (bel2 RR.out.bel RR.out.old HN2.out n3)
        clear b3 n3
        go_wp2_with (go_at_call 12; refine (state_is g _ sample 255 s1 0 1000 1000 _ 0 _ HB3.out).mono ?_; rintro e wy ⟨rfl, rfl⟩)
        exact ⟨⟨k + 1, s1, d, c, xb, hlt, rfl, num_next k, ⟨HB3.out, HN3.out, RR.out.old, by omega, HXB.out, hdd, by omega⟩⟩, meas_next hlt⟩
      · have hst : st = 4 := hcb.1 rfl
        obtain ⟨he8, hs4⟩ := f2 hst
        clear f2 f3 hcb
        subst he8 hs4
        clear hst
        go_wp2_with fail
        refine DO.mono ?_
        rintro e w2 ⟨rfl, b2, n2⟩
        have HB2 := Lib.hid b2
        have HN2 := Lib.hid n2
        clear b2 n2 p0
        go_wp2_with (go_at_call 12; refine (state_is g _ sample 255 4 0 1000 1000 _ 0 _ HB2.out).mono ?_; rintro e wy ⟨rfl, rfl⟩)
        refine (use_card g _ sample 255 4 0 1000 1000 d 0 c day 0 (by decide) HB2.out).mono ?_
        rintro e w3 ⟨rfl, b3, n3⟩
        have HB3 := Lib.hid b3
        have HN3 := Lib.hid (bel2 RR.out.bel RR.out.old HN2.out n3)
        clear b3 n3
        go_wp2_with (go_at_call 12; refine (state_is g _ sample 255 4 0 1000 1000 _ 0 _ HB3.out).mono ?_; rintro e wy ⟨rfl, rfl⟩)
        exact ⟨⟨k + 1, 4, d, c, true, hlt, rfl, num_next k, ⟨HB3.out, HN3.out, RR.out.old, by omega, by simp, hdd, by omega⟩⟩, meas_next hlt⟩
    · clear R
      go_wp2_with (go_at_call 8; refine (awake_any _).mono ?_; rintro e wz ⟨rfl, hzz⟩)
      go_ret
      exact ⟨rfl, RR.out.bel.trans (Below.mono (by assumption) RR.out.bel.size)⟩
theorem walk (A : Option Addr) (len cap : Nat) (day : Int) (w : World) (hr : len ≤ maxLen ∧ IsBytes w A len) (w1 : (Lit.int .u8 day).wf = true) :
    Calls Try.prog 7 #[.slice A len cap, .int .u8 day] w fun e w' => e = .returned (.bool true) ∧ Below w.heap.size w w' := by
  have hd := u8_bd w1
  have hlm := hr.1
  unfold maxLen at hlm
  by_cases hl : (len : Int) ≤ 40
  · exact loop_walk day A len cap w hl hd hr.2
  · have hl' : 40 < (len : Int) := by omega
    clear hl hr w1
    go_enter Try.func7, Try.ntmps7
    go_wp2_with fail
    refine (new_any _ 255 1000 1000 (by decide) (by decide) (by decide) (by decide)).mono ?_
    rintro e w1 ⟨g, hg, rfl, b1, n1⟩
    have HN1 := Lib.hid n1
    clear b1 n1
    go_wp2_with (go_at_call 8; refine (awake_any _).mono ?_; rintro e wz ⟨rfl, hzz⟩)
    go_ret
    exact ⟨rfl, HN1.out.trans (Below.mono (by assumption) HN1.out.size)⟩

theorem own : ownKnob Try.prog.godebug = none := by kernel_rfl
theorem laidOut : laidOutB Try.prog = true := by kernel_rfl
set_option maxRecDepth 100000 in
theorem lifted (os : Os) (started : os.Started) (H : Type) (enc : TypeId × Value → H) :
    ReturnsInHanded {} Try.checked os 7 .any (Rows.cardClosedSpec.pre6 enc Try.prog Try.f7 Rows.cardClosedRow.domain false) (Rows.cardClosedSpec.post enc Try.prog Try.f7 false true false false) := by
  refine returnsInHanded_of_change (C := Try.checked) own started (by kernel_rfl) Try.func7
    (ChangeSpec.witness6 (enc := enc) (C := Try.checked) false ⟨#[], #[.slice none 0 0, .int .u8 0], []⟩ 8 (by kernel_rfl) (by kernel_rfl) (by kernel_rfl) (by kernel_rfl)) ?_
  intro W base args ds gs before hval0 hW hcnd _
  have hval : ∀ (j : Nat) t v, Try.f7.params[j]? = some t → args[j]? = some v → Value.okWide Try.prog W .any base t v := hval0
  have hW' := hW
  obtain ⟨p, q, hA0, hV, rfl, hfz, hnd⟩ := hW
  have hA : DataW.TrodAll enc Try.prog W 0 (fun _ => true) true Try.f7.params.toList args.toList ds p := hA0
  rw [Try.params7] at hA hval
  obtain ⟨v0, vs0, d0, ds0, p0, q0, hargs, rfl, rfl, h0, r0⟩ := trodAll_cons hA
  obtain ⟨v1, vs1, d1, ds1, p1, q1, rfl, rfl, rfl, h1, r1⟩ := trodAll_cons r0
  obtain ⟨rfl, rfl, rfl⟩ := trodAll_nil r1
  obtain rfl : args = #[v0, v1] := by cases args; simp_all
  obtain ⟨rfl, rfl⟩ := trodVars_none hV
  have k0 := h0
  have lt0 : ∀ x ∈ p0, x.block < W.heap.size := by obtain ⟨m, hm⟩ := k0; exact DataW.trod_lt m _ _ _ hm
  obtain ⟨a0, len0, cap0, rfl⟩ := okWide_slice Try.underlying49 (hval 0 49 v0 rfl rfl)
  have w0 : len0 ≤ maxLen ∧ IsBytes W a0 len0 := by
    obtain ⟨fuel, hf⟩ := h0
    rcases open_ints Try.underlying49 Try.underlying5 (by kernel_rfl) hf with ⟨hcs, _⟩ | ⟨x, l, c, zs, hcs, _, hl, hm, hz, _, hcell, hwz⟩
    · simp [Value.cells] at hcs
      obtain ⟨rfl, rfl, rfl⟩ := hcs
      exact ⟨Nat.zero_le _, fun j hj => absurd hj (Nat.not_lt_zero _)⟩
    · simp [Value.cells] at hcs
      obtain ⟨rfl, rfl, rfl⟩ := hcs
      exact ⟨by omega, bytes_at hl (by simpa using hz) hcell hwz⟩
  have k1 := h1
  have lt1 : ∀ x ∈ p1, x.block < W.heap.size := by obtain ⟨m, hm⟩ := k1; exact DataW.trod_lt m _ _ _ hm
  obtain ⟨a1, rfl, -, -, w1⟩ := open_int Try.underlying5 (hval 1 5 v1 rfl rfl) h1
  clear hA0 hval0
  refine (walk a0 len0 cap0 a1 W w0 w1).mono fun e W' ⟨he, bel⟩ => ?_
  subst he
  exact ⟨_, rfl, _, _, _, [], _, [], hW', trodAll_mk1 (shut_bool Try.underlying4 _), (trodAll_cons_mk (Below.trod laidOut (by kernel_rfl) (of_decide_eq_true (by kernel_rfl)) k0 bel lt0) (trodAll_cons_mk (Below.trod laidOut (by kernel_rfl) (of_decide_eq_true (by kernel_rfl)) k1 bel lt1) trodAll_mk0)), rfl, bel.frame _, fun h => by cases h⟩

theorem over : Rows.cardClosedRow.holds Try.pinned (OpenSpec.ofChange Rows.cardClosedSpec) :=
  OpenClaim.holds_of_wide 7 Try.f7 rfl rfl rfl rfl rfl rfl rfl ⟨rfl, rfl, rfl, rfl, rfl⟩ rfl rfl rfl rfl rfl (by kernel_rfl) Try.func7 (by kernel_rfl)
    (of_decide_eq_true (by kernel_rfl)) (by unfold Func.isWrapper; first | (rw [if_pos (by decide +kernel)]; kernel_rfl) | (rw [if_neg (by decide +kernel)]; exact ⟨rfl, rfl⟩))
    (fun os started H enc _ => lifted os started H enc)
/-- THE STATEMENT. -/
theorem proved : Rows.CardClosedSaid := over
#print axioms proved
end Go.Proofs.Ytmigodjkenhedab.cardClosed
