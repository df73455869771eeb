/-
  PROVED: for every authorization and every operation, the law AuthEnds returns true: once an authorization is not open, nothing can be done with it any more. Conditions: none besides the form's own reach.
-/
import Derived.Test.YtmigodjkenhedaaAuth5
import Derived.Test.YtmigodjkenhedaaAuth9
import Derived.Test.YtmigodjkenhedaaOpen
import Derived.Deep.RegionWith
import Derived.Test.YtmigodjkenhedaaRows
import Derived.WalkKit
import Derived.ProofKit
import Derived.OpenShut
import Derived.ShutString
import Derived.ChangeOld
import Derived.Below
namespace Go.Proofs.Ytmigodjkenhedaa.authEnds
open Go.ChangeShapes Go.WideShapes Go.ChangeAt Go.RowKit
open Go.ChangeMaps (open_string shut_string)
set_option linter.unusedVariables false

theorem kd_bd {kd : Int} (h : (Lit.int .u8 kd).wf = true) : 0 ≤ kd ∧ kd ≤ 255 := by simpa [Lit.wf, IntKind.min, IntKind.max, IntKind.signed, IntKind.bits] using h
theorem step_bad (id cur : ByteArray) (ap rv cl ex st at_ un pa : Int) (w : World) (kd am t : Int) (fin : Bool) {c : Int} (hc : c ≠ 0) (hi : id.size ≤ maxLen) (hcu : cur.size ≤ maxLen) (hkd : 0 ≤ kd ∧ kd ≤ 255) (HC : Hid (c = openE (auCheck (identB id.data.toList 16) (curB cur.data.toList) ap rv cl ex st at_ un pa) st)) :
    Calls Try.prog 11 #[auV id cur ap rv cl ex st at_ un pa, .agg #[.int .u8 kd, .int .i64 am, .int .i64 t, .bool fin]] w fun e w' => e = .returned (.tuple #[auV ⟨#[]⟩ ⟨#[]⟩ 0 0 0 0 0 0 0 0, .int .i64 0, .int .i64 0, .int .i64 c]) ∧ Pushed w w' := by
  have hr : AuR.bad c = stepR c id cur ap rv cl ex st at_ un pa kd am t fin := by
    unfold stepR raiseR reverseR expireR clearR
    (repeat' split) <;> first | rfl | omega
  exact step_is id cur ap rv cl ex st at_ un pa w kd am t fin hi hcu hkd HC hr
theorem open_zero (id cur : ByteArray) (ap rv cl ex st at_ un pa : Int) (w : World) (hi : id.size ≤ maxLen) (hcu : cur.size ≤ maxLen) (HC : Hid (0 = auCheck (identB id.data.toList 16) (curB cur.data.toList) ap rv cl ex st at_ un pa)) (h1 : st ≠ 1) :
    Calls Try.prog 10 #[auV id cur ap rv cl ex st at_ un pa] w fun e w' => e = .returned (.int .i64 0) ∧ Pushed w w' := by
  obtain ⟨i1, i2, k⟩ := auCheck_zero.1 HC.out.symm
  have hz : ap - rv - cl - ex = 0 := by
    have := k.k_state
    unfold auState at this
    have := k.k_left
    by_cases hp : 0 < ap - rv - cl - ex
    · rw [if_pos hp] at *; omega
    · omega
  have hne := id_ne i1
  have h := open_ok id cur ap rv cl ex st at_ un pa w hi hcu HC k (by rw [toList_data]; exact hne) (by rw [toList_data]; cases hl : id.data.toList <;> simp_all)
  rw [hz] at h
  exact h
set_option maxHeartbeats 1000000 in
theorem walk (id cur : ByteArray) (ap rv cl ex st at_ un pa : Int) (kd am t : Int) (fin : Bool) (w : World) (hi : id.size ≤ maxLen) (hcu : cur.size ≤ maxLen) (wk : (Lit.int .u8 kd).wf = true) :
    Calls Try.prog 6 #[auV id cur ap rv cl ex st at_ un pa, .agg #[.int .u8 kd, .int .i64 am, .int .i64 t, .bool fin]] w fun e w' => e = .returned (.bool true) ∧ Below w.heap.size w w' := by
  have hkd := kd_bd wk
  clear wk
  obtain ⟨c, hc⟩ : ∃ c, c = auCheck (identB id.data.toList 16) (curB cur.data.toList) ap rv cl ex st at_ un pa := ⟨_, rfl⟩
  by_cases h0 : c = 0
  · subst h0
    have HC := Lib.hid hc
    clear hc
    by_cases h1 : st = 1
    · subst h1
      go_enter Try.func6, Try.ntmps6
      go_wp2_with (first | (go_at_call 13; refine (rcheck_is _ _ _ _ _ _ _ _ _ _ _ hi hcu HC).mono ?_; rintro e w1 ⟨rfl, l1, n1, rfl⟩) | (go_at_call 9; refine (awake_any _).mono ?_; rintro e w1 ⟨rfl, l9, n9, rfl⟩))
      go_ret
      exact ⟨rfl, Pushed.below (by repeat (first | with_reducible exact Pushed.refl _ | with_reducible assumption | with_reducible refine Pushed.push ?_ _ | with_reducible refine Pushed.alloc ?_ _ | with_reducible refine Pushed.drewN ?_ _ | with_reducible refine Pushed.drew ?_))⟩
    · have b1 : (st == 1) = false := by simp [h1]
      have H8 : Hid (8 = openE (auCheck (identB id.data.toList 16) (curB cur.data.toList) ap rv cl ex st at_ un pa) st) := by show (8 : Int) = _; unfold openE; rw [if_neg (by rw [← HC.out]; simp), if_pos h1]
      have OZ := fun W => open_zero id cur ap rv cl ex st at_ un pa W hi hcu HC h1
      clear h1
      go_enter Try.func6, Try.ntmps6
      go_wp2_with (first | (go_at_call 13; refine (rcheck_is _ _ _ _ _ _ _ _ _ _ _ hi hcu HC).mono ?_; rintro e w1 ⟨rfl, l1, n1, rfl⟩) | (go_at_call 11; refine (step_bad _ _ _ _ _ _ _ _ _ _ _ _ _ _ _ (by omega) hi hcu hkd H8).mono ?_; rintro e w1 ⟨rfl, l2, n2, rfl⟩) | (go_at_call 10; refine (OZ _).mono ?_; rintro e w1 ⟨rfl, l3, n3, rfl⟩) | (go_at_call 9; refine (awake_any _).mono ?_; rintro e w1 ⟨rfl, l9, n9, rfl⟩))

      go_ret
      exact ⟨rfl, Pushed.below (by repeat (first | with_reducible exact Pushed.refl _ | with_reducible assumption | with_reducible refine Pushed.push ?_ _ | with_reducible refine Pushed.alloc ?_ _ | with_reducible refine Pushed.drewN ?_ _ | with_reducible refine Pushed.drew ?_))⟩
  · have h1 : (c != 0) = true := by simp [h0]
    have HC := Lib.hid hc
    clear hc h0
    go_enter Try.func6, Try.ntmps6
    go_wp2_with (first | (go_at_call 13; refine (rcheck_is _ _ _ _ _ _ _ _ _ _ _ hi hcu HC).mono ?_; rintro e w1 ⟨rfl, l1, n1, rfl⟩) | (go_at_call 9; refine (awake_any _).mono ?_; rintro e w1 ⟨rfl, l9, n9, rfl⟩))
    go_ret
    exact ⟨rfl, Pushed.below (by repeat (first | with_reducible exact Pushed.refl _ | with_reducible assumption | with_reducible refine Pushed.push ?_ _ | with_reducible refine Pushed.alloc ?_ _ | with_reducible refine Pushed.drewN ?_ _ | with_reducible refine Pushed.drew ?_))⟩

theorem own : ownKnob Try.prog.godebug = none := by kernel_rfl
theorem laidOut : laidOutB Try.prog = true := by kernel_rfl
set_option maxRecDepth 100000 in
theorem lifted (os : Os) (started : os.Started) (H : Type) (enc : TypeId × Value → H) :
    ReturnsInHanded {} Try.checked os 6 .any (Rows.authEndsSpec.pre6 enc Try.prog Try.f6 Rows.authEndsRow.domain false) (Rows.authEndsSpec.post enc Try.prog Try.f6 false true false false) := by
  refine returnsInHanded_of_change (C := Try.checked) own started (by kernel_rfl) Try.func6
    (ChangeSpec.witness6 (enc := enc) (C := Try.checked) false ⟨#[], #[.agg #[.string ⟨#[]⟩, .string ⟨#[]⟩, .int .i64 0, .int .i64 0, .int .i64 0, .int .i64 0, .int .i64 0, .int .i64 0, .int .i64 0, .int .i64 0], .agg #[.int .u8 0, .int .i64 0, .int .i64 0, .bool false]], []⟩ 8 (by kernel_rfl) (by kernel_rfl) (by kernel_rfl) (by kernel_rfl)) ?_
  intro W base args ds gs before hval0 hW hcnd _
  have hval : ∀ (j : Nat) t v, Try.f6.params[j]? = some t → args[j]? = some v → Value.okWide Try.prog W .any base t v := hval0
  have hW' := hW
  obtain ⟨p, q, hA0, hV, rfl, hfz, hnd⟩ := hW
  have hA : DataW.TrodAll enc Try.prog W 0 (fun _ => true) true Try.f6.params.toList args.toList ds p := hA0
  rw [Try.params6] at hA hval
  obtain ⟨v0, vs0, d0, ds0, p0, q0, hargs, rfl, rfl, h0, r0⟩ := trodAll_cons hA
  obtain ⟨v1, vs1, d1, ds1, p1, q1, rfl, rfl, rfl, h1, r1⟩ := trodAll_cons r0
  obtain ⟨rfl, rfl, rfl⟩ := trodAll_nil r1
  obtain rfl : args = #[v0, v1] := by cases args; simp_all
  obtain ⟨rfl, rfl⟩ := trodVars_none hV
  have k0 := h0
  have lt0 : ∀ x ∈ p0, x.block < W.heap.size := by obtain ⟨m, hm⟩ := k0; exact DataW.trod_lt m _ _ _ hm
  obtain ⟨u0_0, u0_1, u0_2, u0_3, u0_4, u0_5, u0_6, u0_7, u0_8, u0_9, y0_0, y0_1, y0_2, y0_3, y0_4, y0_5, y0_6, y0_7, y0_8, y0_9, m0, rfl, g0_0, g0_1, g0_2, g0_3, g0_4, g0_5, g0_6, g0_7, g0_8, g0_9⟩ := open_agg10 Try.underlying24 (by kernel_rfl) (by kernel_rfl) (hval 0 24 v0 rfl rfl) h0
  obtain ⟨id, rfl, w_id⟩ := one_string Try.underlying9 g0_0
  obtain ⟨cur, rfl, w_cur⟩ := one_string Try.underlying9 g0_1
  obtain ⟨ap, rfl, w_ap⟩ := one_int Try.underlying2 g0_2
  obtain ⟨rv, rfl, w_rv⟩ := one_int Try.underlying2 g0_3
  obtain ⟨cl, rfl, w_cl⟩ := one_int Try.underlying2 g0_4
  obtain ⟨ex, rfl, w_ex⟩ := one_int Try.underlying2 g0_5
  obtain ⟨st, rfl, w_st⟩ := one_int Try.underlying3 g0_6
  obtain ⟨at_, rfl, w_at_⟩ := one_int Try.underlying3 g0_7
  obtain ⟨un, rfl, w_un⟩ := one_int Try.underlying3 g0_8
  obtain ⟨pa, rfl, w_pa⟩ := one_int Try.underlying3 g0_9
  have k1 := h1
  have lt1 : ∀ x ∈ p1, x.block < W.heap.size := by obtain ⟨m, hm⟩ := k1; exact DataW.trod_lt m _ _ _ hm
  obtain ⟨u1_0, u1_1, u1_2, u1_3, y1_0, y1_1, y1_2, y1_3, m1, rfl, g1_0, g1_1, g1_2, g1_3⟩ := open_agg4 Try.underlying33 (by kernel_rfl) (by kernel_rfl) (hval 1 33 v1 rfl rfl) h1
  obtain ⟨kd, rfl, w_kd⟩ := one_int Try.underlying5 g1_0
  obtain ⟨am, rfl, w_am⟩ := one_int Try.underlying2 g1_1
  obtain ⟨t, rfl, w_t⟩ := one_int Try.underlying3 g1_2
  obtain ⟨fin, rfl⟩ := one_bool Try.underlying4 g1_3
  clear hA0 hval0
  refine (walk id cur ap rv cl ex st at_ un pa kd am t fin W w_id w_cur w_kd).mono fun e W' ⟨he, bel⟩ => ?_
  subst he
  exact ⟨_, rfl, _, _, _, [], _, [], hW', trodAll_mk1 (shut_bool Try.underlying4 _), (trodAll_cons_mk (Below.trod laidOut (by kernel_rfl) (of_decide_eq_true (by kernel_rfl)) k0 bel lt0) (trodAll_cons_mk (Below.trod laidOut (by kernel_rfl) (of_decide_eq_true (by kernel_rfl)) k1 bel lt1) trodAll_mk0)), rfl, bel.frame _, fun h => by cases h⟩

theorem over : Rows.authEndsRow.holds Try.pinned (OpenSpec.ofChange Rows.authEndsSpec) :=
  OpenClaim.holds_of_wide 6 Try.f6 rfl rfl rfl rfl rfl rfl rfl ⟨rfl, rfl, rfl, rfl, rfl⟩ rfl rfl rfl rfl rfl (by kernel_rfl) Try.func6 (by kernel_rfl)
    (of_decide_eq_true (by kernel_rfl)) (by unfold Func.isWrapper; first | (rw [if_pos (by decide +kernel)]; kernel_rfl) | (rw [if_neg (by decide +kernel)]; exact ⟨rfl, rfl⟩))
    (fun os started H enc _ => lifted os started H enc)
/-- THE STATEMENT. -/
theorem proved : Rows.AuthEndsSaid := over
#print axioms proved
end Go.Proofs.Ytmigodjkenhedaa.authEnds
