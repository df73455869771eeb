/-
  PROVED: for any two amounts and any day, the law CardUndone returns true: a use that is taken back does not change the sum and the number, and can be made again. Conditions: none besides the form's own reach.
-/
import Derived.Test.YtmigodjkenhedabCard5
import Derived.Test.YtmigodjkenhedabRows
import Derived.WalkKit
import Derived.ProofKit
import Derived.OpenShut
import Derived.ShutString
import Derived.ChangeOld
import Derived.Below
namespace Go.Proofs.Ytmigodjkenhedab.cardUndone
open Go.ChangeShapes Go.WideShapes Go.ChangeAt Go.RowKit
open Go.ChangeMaps (open_string shut_string)
set_option linter.unusedVariables false

theorem u16_bd {a : Int} (h : (Lit.int .u16 a).wf = true) : 0 ≤ a ∧ a ≤ 65535 := by simpa [Lit.wf, IntKind.min, IntKind.max, IntKind.signed, IntKind.bits] using h
theorem u8_bd {a : Int} (h : (Lit.int .u8 a).wf = true) : 0 ≤ a ∧ a ≤ 255 := by simpa [Lit.wf, IntKind.min, IntKind.max, IntKind.signed, IntKind.bits] using h
theorem amt {n : Int} (h : 0 ≤ n ∧ n ≤ 999999999999) : okAmt n = true := by unfold okAmt; simp; omega
theorem dat {n : Int} (h : 0 ≤ n ∧ n ≤ 99999) : okDate n = true := by unfold okDate; simp; omega
theorem undo_b (g : Nat) (w : World) (a b day : Int) (ob : okAmt b = true) (ba : 0 ≤ a ∧ a ≤ 65535) (bb : 0 ≤ b ∧ b ≤ 65535) (bd : 0 ≤ day ∧ day ≤ 255) (q3 : (day == -1) = false) (q2 : (day != day) = false) (hb : Blk w g 57 #[.string sample, .int .i64 255, .int .i64 2, .int .i64 0, .int .i64 200000, .int .i64 3, .int .i64 day, .int .i64 (a + b), .int .i64 2]) :
    Calls Try.prog 23 #[.pointer (some ⟨g, 0, none⟩), .int .i64 day, .int .i64 b] w fun e w' => e = .returned (.int .i64 0) ∧ Blk w' g 57 #[.string sample, .int .i64 255, .int .i64 2, .int .i64 0, .int .i64 200000, .int .i64 3, .int .i64 day, .int .i64 a, .int .i64 1] ∧ Near w g w' := by
  have h := undo_ok g w sample 255 2 0 200000 3 day (a + b) 2 day b ob (by omega) q3 q2 (by omega) (by decide) (by omega) (by decide) hb
  rw [show a + b - b = a by omega] at h
  exact h
set_option maxHeartbeats 4000000 in
theorem walk (a b day : Int) (w : World) (w0 : (Lit.int .u16 a).wf = true) (w1 : (Lit.int .u16 b).wf = true) (w2 : (Lit.int .u8 day).wf = true) :
    Calls Try.prog 6 #[.int .u16 a, .int .u16 b, .int .u8 day] w fun e w' => e = .returned (.bool true) ∧ Below w.heap.size w w' := by
  have ba := u16_bd w0
  have bb := u16_bd w1
  have bd := u8_bd w2
  clear w0 w1 w2
  have oa := amt (n := a) (by omega)
  have ob := amt (n := b) (by omega)
  have oab := amt (n := a + b + 1) (by omega)
  have oz := amt (n := 0) (by omega)
  have od := dat (n := day) (by omega)
  have q1 : ((-1 : Int) != day) = true := by simp; omega
  have q2 : (day != day) = false := by simp
  have q3 : (day == -1) = false := by simp; omega
  have q4 : (day != day + 1) = true := by simp; omega
  have q5 : (day + 1 == day) = false := by simp; omega
  have q6 : (day == day + 1) = false := by simp; omega
  have QQ := Lib.hid (And.intro q1 (And.intro q2 (And.intro q3 (And.intro q4 (And.intro q5 q6)))))
  have OO := Lib.hid (And.intro oa (And.intro ob (And.intro oab (And.intro oz od))))
  clear q1 q2 q3 q4 q5 q6 oa ob oab oz od
  go_enter Try.func6, Try.ntmps6
  go_wp2_with fail
  refine (new_any _ 255 200000 3 (by decide) (by decide) (by decide) (by decide)).mono ?_
  rintro e w1 ⟨g, hg, rfl, b1, n1⟩
  have HB1 := Lib.hid b1
  have HN1 := Lib.hid n1
  clear b1 n1
  go_wp2_with fail
  refine (do_ok g _ sample 255 1 0 200000 3 (-1) 0 0 1 2 (by decide) (by decide) HB1.out).mono ?_
  rintro e w2 ⟨rfl, b2, n2⟩
  have HB2 := Lib.hid b2
  have HN2 := Lib.hid (nearB HN1.out hg n2)
  clear b2 n2 HB1 HN1

  go_wp2_with fail
  refine (use_new g _ sample 255 2 0 200000 3 (-1) 0 0 day a (by decide) OO.out.2.2.2.2 (by omega) OO.out.1 (by decide) (by decide) (by omega) QQ.out.1 (by omega) (by omega) (by decide) HB2.out).mono ?_
  rintro e w3 ⟨rfl, b3, n3⟩
  have HB3 := Lib.hid b3
  have HN3 := Lib.hid (nearB HN2.out hg n3)
  clear b3 n3 HB2 HN2

  go_wp2_with fail
  refine (use_same g _ sample 255 2 0 200000 3 day a 1 day b (by decide) OO.out.2.2.2.2 (by omega) OO.out.2.1 (by omega) (by decide) (by omega) QQ.out.2.1 (by omega) (by omega) (by decide) HB3.out).mono ?_
  rintro e w4 ⟨rfl, b4, n4⟩
  have HB4 : Hid (Blk w4 g 57 #[.string sample, .int .i64 255, .int .i64 2, .int .i64 0, .int .i64 200000, .int .i64 3, .int .i64 day, .int .i64 (a + b), .int .i64 2]) := by
    show Blk _ _ _ _
    exact b4
  have HN4 := Lib.hid (nearB HN3.out hg n4)
  clear b4 n4 HB3 HN3

  go_wp2_with fail
  refine (used_same g _ sample 255 2 0 200000 3 day (a + b) 2 day QQ.out.2.1 HB4.out).mono ?_
  rintro e w5 ⟨rfl, b5, n5⟩
  have HB5 := Lib.hid b5
  have HN5 := Lib.hid (nearB HN4.out hg n5)
  clear b5 n5 HB4 HN4

  go_wp2_with fail
  refine (undo_b g _ a b day OO.out.2.1 ba bb bd QQ.out.2.2.1 QQ.out.2.1 HB5.out).mono ?_
  rintro e w6 ⟨rfl, b6, n6⟩
  have HB6 := Lib.hid b6
  have HN6 := Lib.hid (nearB HN5.out hg n6)
  clear b6 n6 HB5 HN5

  go_wp2_with fail
  refine (used_same g _ sample 255 2 0 200000 3 day a 1 day QQ.out.2.1 HB6.out).mono ?_
  rintro e w7 ⟨rfl, b7, n7⟩
  have HB7 := Lib.hid b7
  have HN7 := Lib.hid (nearB HN6.out hg n7)
  clear b7 n7 HB6 HN6

  go_wp2_with fail
  refine (undo_far g _ sample 255 2 0 200000 3 day a 1 (day + 1) 0 OO.out.2.2.2.1 (by omega) QQ.out.2.2.1 QQ.out.2.2.2.1 QQ.out.2.2.2.2.1 QQ.out.2.2.2.2.2 HB7.out).mono ?_
  rintro e w8 ⟨rfl, b8, n8⟩
  have HB8 := Lib.hid b8
  have HN8 := Lib.hid (nearB HN7.out hg n8)
  clear b8 n8 HB7 HN7

  go_wp2_with fail
  refine (undo_time g _ sample 255 2 0 200000 3 day a 1 (day - 1) 0 OO.out.2.2.2.1 (by omega) QQ.out.2.2.1 HB8.out).mono ?_
  rintro e w9 ⟨rfl, b9, n9⟩
  have HB9 := Lib.hid b9
  have HN9 := Lib.hid (nearB HN8.out hg n9)
  clear b9 n9 HB8 HN8

  go_wp2_with fail
  refine (use_same g _ sample 255 2 0 200000 3 day a 1 day b (by decide) OO.out.2.2.2.2 (by omega) OO.out.2.1 (by omega) (by decide) (by omega) QQ.out.2.1 (by omega) (by omega) (by decide) HB9.out).mono ?_
  rintro e w10 ⟨rfl, b10, n10⟩
  have HB10 : Hid (Blk w10 g 57 #[.string sample, .int .i64 255, .int .i64 2, .int .i64 0, .int .i64 200000, .int .i64 3, .int .i64 day, .int .i64 (a + b), .int .i64 2]) := by
    show Blk _ _ _ _
    exact b10
  have HN10 := Lib.hid (nearB HN9.out hg n10)
  clear b10 n10 HB9 HN9

  go_wp2_with fail
  refine (undo_more g _ sample 255 2 0 200000 3 day (a + b) 2 day (a + b + 1) OO.out.2.2.1 (by omega) QQ.out.2.2.1 QQ.out.2.1 (by decide) (by omega) HB10.out).mono ?_
  rintro e w11 ⟨rfl, b11, n11⟩
  have HB11 := Lib.hid b11
  have HN11 := Lib.hid (nearB HN10.out hg n11)
  clear b11 n11 HB10 HN10

  go_wp2_with (go_at_call 8; refine (awake_any _).mono ?_; rintro e wz ⟨rfl, hz⟩)
  go_ret
  exact ⟨rfl, HN11.out.trans (Below.mono (by assumption) HN11.out.size)⟩

theorem own : ownKnob Try.prog.godebug = none := by kernel_rfl
theorem laidOut : laidOutB Try.prog = true := by kernel_rfl
set_option maxRecDepth 100000 in
theorem lifted (os : Os) (started : os.Started) (H : Type) (enc : TypeId × Value → H) :
    ReturnsInHanded {} Try.checked os 6 .any (Rows.cardUndoneSpec.pre6 enc Try.prog Try.f6 Rows.cardUndoneRow.domain false) (Rows.cardUndoneSpec.post enc Try.prog Try.f6 false true false false) := by
  refine returnsInHanded_of_change (C := Try.checked) own started (by kernel_rfl) Try.func6
    (ChangeSpec.witness6 (enc := enc) (C := Try.checked) false ⟨#[], #[.int .u16 0, .int .u16 0, .int .u8 0], []⟩ 8 (by kernel_rfl) (by kernel_rfl) (by kernel_rfl) (by kernel_rfl)) ?_
  intro W base args ds gs before hval0 hW hcnd _
  have hval : ∀ (j : Nat) t v, Try.f6.params[j]? = some t → args[j]? = some v → Value.okWide Try.prog W .any base t v := hval0
  have hW' := hW
  obtain ⟨p, q, hA0, hV, rfl, hfz, hnd⟩ := hW
  have hA : DataW.TrodAll enc Try.prog W 0 (fun _ => true) true Try.f6.params.toList args.toList ds p := hA0
  rw [Try.params6] at hA hval
  obtain ⟨v0, vs0, d0, ds0, p0, q0, hargs, rfl, rfl, h0, r0⟩ := trodAll_cons hA
  obtain ⟨v1, vs1, d1, ds1, p1, q1, rfl, rfl, rfl, h1, r1⟩ := trodAll_cons r0
  obtain ⟨v2, vs2, d2, ds2, p2, q2, rfl, rfl, rfl, h2, r2⟩ := trodAll_cons r1
  obtain ⟨rfl, rfl, rfl⟩ := trodAll_nil r2
  obtain rfl : args = #[v0, v1, v2] := by cases args; simp_all
  obtain ⟨rfl, rfl⟩ := trodVars_none hV
  have k0 := h0
  have lt0 : ∀ x ∈ p0, x.block < W.heap.size := by obtain ⟨m, hm⟩ := k0; exact DataW.trod_lt m _ _ _ hm
  obtain ⟨a0, rfl, -, -, w0⟩ := open_int Try.underlying47 (hval 0 47 v0 rfl rfl) h0
  have k1 := h1
  have lt1 : ∀ x ∈ p1, x.block < W.heap.size := by obtain ⟨m, hm⟩ := k1; exact DataW.trod_lt m _ _ _ hm
  obtain ⟨a1, rfl, -, -, w1⟩ := open_int Try.underlying47 (hval 1 47 v1 rfl rfl) h1
  have k2 := h2
  have lt2 : ∀ x ∈ p2, x.block < W.heap.size := by obtain ⟨m, hm⟩ := k2; exact DataW.trod_lt m _ _ _ hm
  obtain ⟨a2, rfl, -, -, w2⟩ := open_int Try.underlying5 (hval 2 5 v2 rfl rfl) h2
  clear hA0 hval0
  refine (walk a0 a1 a2 W w0 w1 w2).mono fun e W' ⟨he, bel⟩ => ?_
  subst he
  exact ⟨_, rfl, _, _, _, [], _, [], hW', trodAll_mk1 (shut_bool Try.underlying4 _), (trodAll_cons_mk (Below.trod laidOut (by kernel_rfl) (of_decide_eq_true (by kernel_rfl)) k0 bel lt0) (trodAll_cons_mk (Below.trod laidOut (by kernel_rfl) (of_decide_eq_true (by kernel_rfl)) k1 bel lt1) (trodAll_cons_mk (Below.trod laidOut (by kernel_rfl) (of_decide_eq_true (by kernel_rfl)) k2 bel lt2) trodAll_mk0))), rfl, bel.frame _, fun h => by cases h⟩

theorem over : Rows.cardUndoneRow.holds Try.pinned (OpenSpec.ofChange Rows.cardUndoneSpec) :=
  OpenClaim.holds_of_wide 6 Try.f6 rfl rfl rfl rfl rfl rfl rfl ⟨rfl, rfl, rfl, rfl, rfl⟩ rfl rfl rfl rfl rfl (by kernel_rfl) Try.func6 (by kernel_rfl)
    (of_decide_eq_true (by kernel_rfl)) (by unfold Func.isWrapper; first | (rw [if_pos (by decide +kernel)]; kernel_rfl) | (rw [if_neg (by decide +kernel)]; exact ⟨rfl, rfl⟩))
    (fun os started H enc _ => lifted os started H enc)
/-- THE STATEMENT. -/
theorem proved : Rows.CardUndoneSaid := over
#print axioms proved
end Go.Proofs.Ytmigodjkenhedab.cardUndone
