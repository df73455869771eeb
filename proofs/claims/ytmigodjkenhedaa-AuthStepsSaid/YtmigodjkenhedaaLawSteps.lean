/-
  PROVED: for every authorization, valid or not, and every operation, the law AuthSteps returns true: Check, Open and every operation return what the specification says. Conditions: none besides the form's own reach.
-/
import Derived.Test.YtmigodjkenhedaaAuth11
import Derived.Test.YtmigodjkenhedaaOpen
import Derived.Deep.RegionHeld3
import Derived.Test.YtmigodjkenhedaaRows
import Derived.WalkKit
import Derived.ProofKit
import Derived.OpenShut
import Derived.ShutString
import Derived.ChangeOld
import Derived.Below
namespace Go.Proofs.Ytmigodjkenhedaa.authSteps
open Go.ChangeShapes Go.WideShapes Go.ChangeAt Go.RowKit
open Go.ChangeMaps (open_string shut_string)
set_option linter.unusedVariables false

theorem kd_bd {kd : Int} (h : (Lit.int .u8 kd).wf = true) : 0 ≤ kd ∧ kd ≤ 255 := by simpa [Lit.wf, IntKind.min, IntKind.max, IntKind.signed, IntKind.bits] using h
/-- What Open gives. -/
def openN (c ap rv cl ex : Int) : Int := if c = 0 then ap - rv - cl - ex else 0
theorem open_is (id cur : ByteArray) (ap rv cl ex st at_ un pa : Int) (w : World) {c x : Int} (hi : id.size ≤ maxLen) (hcu : cur.size ≤ maxLen) (HC : Hid (c = auCheck (identB id.data.toList 16) (curB cur.data.toList) ap rv cl ex st at_ un pa)) (HX : Hid (x = openN c ap rv cl ex)) :
    Calls Try.prog 10 #[auV id cur ap rv cl ex st at_ un pa] w fun e w' => e = .returned (.int .i64 x) ∧ Pushed w w' := by
  have hx := HX.out
  unfold openN at hx
  by_cases h0 : c = 0
  · subst h0
    rw [if_pos rfl] at hx
    subst hx
    obtain ⟨i1, i2, k⟩ := auCheck_zero.1 HC.out.symm
    have hne := id_ne i1
    exact open_ok id cur ap rv cl ex st at_ un pa w hi hcu HC k (by rw [toList_data]; exact hne) (by rw [toList_data]; cases hl : id.data.toList <;> simp_all)
  · rw [if_neg h0] at hx
    subst hx
    exact open_err id cur ap rv cl ex st at_ un pa w hi hcu HC (by simp [h0])
theorem ropen_is (id cur : ByteArray) (ap rv cl ex st at_ un pa : Int) (w : World) {c x : Int} (hi : id.size ≤ maxLen) (hcu : cur.size ≤ maxLen) (HC : Hid (c = auCheck (identB id.data.toList 16) (curB cur.data.toList) ap rv cl ex st at_ un pa)) (HX : Hid (x = openN c ap rv cl ex)) :
    Calls Try.prog 14 #[auV id cur ap rv cl ex st at_ un pa] w fun e w' => e = .returned (.int .i64 x) ∧ Pushed w w' := by
  have hx := HX.out
  unfold openN at hx
  by_cases h0 : c = 0
  · subst h0
    rw [if_pos rfl] at hx
    subst hx
    obtain ⟨i1, i2, ka, kr, kc, ke, kl, kt, kp, ks, ko⟩ := auCheck_zero.1 HC.out.symm
    exact ropen_ok id cur ap rv cl ex st at_ un pa w hi hcu HC ka kr kc ke kl
  · rw [if_neg h0] at hx
    subst hx
    exact ropen_err id cur ap rv cl ex st at_ un pa w hi hcu HC (by simp [h0])
set_option maxHeartbeats 1000000 in
theorem walk (id cur : ByteArray) (ap rv cl ex st at_ un pa : Int) (kd am t : Int) (fin : Bool) (w : World) (hi : id.size ≤ maxLen) (hcu : cur.size ≤ maxLen) (wk : (Lit.int .u8 kd).wf = true) :
    Calls Try.prog 4 #[auV id cur ap rv cl ex st at_ un pa, .agg #[.int .u8 kd, .int .i64 am, .int .i64 t, .bool fin]] w fun e w' => e = .returned (.bool true) ∧ Below w.heap.size w w' := by
  have hkd := kd_bd wk
  clear wk
  obtain ⟨c, hc⟩ : ∃ c, c = auCheck (identB id.data.toList 16) (curB cur.data.toList) ap rv cl ex st at_ un pa := ⟨_, rfl⟩
  obtain ⟨d, hd⟩ : ∃ d, d = openE (auCheck (identB id.data.toList 16) (curB cur.data.toList) ap rv cl ex st at_ un pa) st := ⟨_, rfl⟩
  obtain ⟨x, hx⟩ : ∃ x, x = openN c ap rv cl ex := ⟨_, rfl⟩
  obtain ⟨r, hr⟩ : ∃ r, r = stepR d id cur ap rv cl ex st at_ un pa kd am t fin := ⟨_, rfl⟩
  have HC := Lib.hid hc
  have HD := Lib.hid hd
  have HX := Lib.hid hx
  have HR := Lib.hid hr
  clear hc hd hx hr
  go_enter Try.func4, Try.ntmps4
  go_wp2_with fail
  go_region_held3 (fun w' => w.heap.size + 1 < w'.heap.size ∧ Pushed w w' ∧ w'.cell? ⟨w.heap.size, 0, none⟩ = some (.string id) ∧ w'.cell? ⟨w.heap.size, 1, none⟩ = some (.string cur) ∧ w'.cell? ⟨w.heap.size, 2, none⟩ = some (.int .i64 ap) ∧ w'.cell? ⟨w.heap.size, 3, none⟩ = some (.int .i64 rv) ∧ w'.cell? ⟨w.heap.size, 4, none⟩ = some (.int .i64 cl) ∧ w'.cell? ⟨w.heap.size, 5, none⟩ = some (.int .i64 ex) ∧ w'.cell? ⟨w.heap.size, 6, none⟩ = some (.int .i64 st) ∧ w'.cell? ⟨w.heap.size, 7, none⟩ = some (.int .i64 at_) ∧ w'.cell? ⟨w.heap.size, 8, none⟩ = some (.int .i64 un) ∧ w'.cell? ⟨w.heap.size, 9, none⟩ = some (.int .i64 pa) ∧ w'.cell? ⟨w.heap.size + 1, 0, none⟩ = some (.int .u8 kd) ∧ w'.cell? ⟨w.heap.size + 1, 1, none⟩ = some (.int .i64 am) ∧ w'.cell? ⟨w.heap.size + 1, 2, none⟩ = some (.int .i64 t) ∧ w'.cell? ⟨w.heap.size + 1, 3, none⟩ = some (.bool fin))
    (first | ((repeat' apply And.intro) <;> first | ((repeat (first | with_reducible exact Pushed.refl _ | with_reducible assumption | with_reducible refine Pushed.push ?_ _ | with_reducible refine Pushed.alloc ?_ _ | with_reducible refine Pushed.drewN ?_ _ | with_reducible refine Pushed.drew ?_)); done) | (go_simp; done) | (simp [size_push]; omega)))
    (first | (go_at_call 12; refine (check_is _ _ _ _ _ _ _ _ _ _ _ hi hcu HC).mono ?_; rintro e w1 ⟨rfl, l1, n1, rfl⟩) | (go_at_call 13; refine (rcheck_is _ _ _ _ _ _ _ _ _ _ _ hi hcu HC).mono ?_; rintro e w1 ⟨rfl, l2, n2, rfl⟩) | (go_at_call 10; refine (open_is _ _ _ _ _ _ _ _ _ _ _ hi hcu HC HX).mono ?_; rintro e w1 ⟨rfl, l3, n3, rfl⟩) | (go_at_call 14; refine (ropen_is _ _ _ _ _ _ _ _ _ _ _ hi hcu HC HX).mono ?_; rintro e w1 ⟨rfl, l4, n4, rfl⟩))
  go_wp2_with (first | (go_at_call 11; refine (step_is _ _ _ _ _ _ _ _ _ _ _ _ _ _ _ hi hcu hkd HD HR).mono ?_; rintro e w1 ⟨rfl, l5, n5, rfl⟩) | (go_at_call 15; refine (by_is _ _ _ _ _ _ _ _ _ _ _ _ _ _ _ hi hcu hkd HD HR).mono ?_; rintro e w1 ⟨rfl, l6, n6, rfl⟩) | (go_at_call 9; refine (awake_any _).mono ?_; rintro e w1 ⟨rfl, l9, n9, rfl⟩))
  go_ret
  exact ⟨rfl, Pushed.below (by repeat (first | with_reducible exact Pushed.refl _ | with_reducible assumption | with_reducible refine Pushed.push ?_ _ | with_reducible refine Pushed.alloc ?_ _ | with_reducible refine Pushed.drewN ?_ _ | with_reducible refine Pushed.drew ?_))⟩

theorem own : ownKnob Try.prog.godebug = none := by kernel_rfl
theorem laidOut : laidOutB Try.prog = true := by kernel_rfl
set_option maxRecDepth 100000 in
theorem lifted (os : Os) (started : os.Started) (H : Type) (enc : TypeId × Value → H) :
    ReturnsInHanded {} Try.checked os 4 .any (Rows.authStepsSpec.pre6 enc Try.prog Try.f4 Rows.authStepsRow.domain false) (Rows.authStepsSpec.post enc Try.prog Try.f4 false true false false) := by
  refine returnsInHanded_of_change (C := Try.checked) own started (by kernel_rfl) Try.func4
    (ChangeSpec.witness6 (enc := enc) (C := Try.checked) false ⟨#[], #[.agg #[.string ⟨#[]⟩, .string ⟨#[]⟩, .int .i64 0, .int .i64 0, .int .i64 0, .int .i64 0, .int .i64 0, .int .i64 0, .int .i64 0, .int .i64 0], .agg #[.int .u8 0, .int .i64 0, .int .i64 0, .bool false]], []⟩ 8 (by kernel_rfl) (by kernel_rfl) (by kernel_rfl) (by kernel_rfl)) ?_
  intro W base args ds gs before hval0 hW hcnd _
  have hval : ∀ (j : Nat) t v, Try.f4.params[j]? = some t → args[j]? = some v → Value.okWide Try.prog W .any base t v := hval0
  have hW' := hW
  obtain ⟨p, q, hA0, hV, rfl, hfz, hnd⟩ := hW
  have hA : DataW.TrodAll enc Try.prog W 0 (fun _ => true) true Try.f4.params.toList args.toList ds p := hA0
  rw [Try.params4] at hA hval
  obtain ⟨v0, vs0, d0, ds0, p0, q0, hargs, rfl, rfl, h0, r0⟩ := trodAll_cons hA
  obtain ⟨v1, vs1, d1, ds1, p1, q1, rfl, rfl, rfl, h1, r1⟩ := trodAll_cons r0
  obtain ⟨rfl, rfl, rfl⟩ := trodAll_nil r1
  obtain rfl : args = #[v0, v1] := by cases args; simp_all
  obtain ⟨rfl, rfl⟩ := trodVars_none hV
  have k0 := h0
  have lt0 : ∀ x ∈ p0, x.block < W.heap.size := by obtain ⟨m, hm⟩ := k0; exact DataW.trod_lt m _ _ _ hm
  obtain ⟨u0_0, u0_1, u0_2, u0_3, u0_4, u0_5, u0_6, u0_7, u0_8, u0_9, y0_0, y0_1, y0_2, y0_3, y0_4, y0_5, y0_6, y0_7, y0_8, y0_9, m0, rfl, g0_0, g0_1, g0_2, g0_3, g0_4, g0_5, g0_6, g0_7, g0_8, g0_9⟩ := open_agg10 Try.underlying24 (by kernel_rfl) (by kernel_rfl) (hval 0 24 v0 rfl rfl) h0
  obtain ⟨id, rfl, w_id⟩ := one_string Try.underlying9 g0_0
  obtain ⟨cur, rfl, w_cur⟩ := one_string Try.underlying9 g0_1
  obtain ⟨ap, rfl, w_ap⟩ := one_int Try.underlying2 g0_2
  obtain ⟨rv, rfl, w_rv⟩ := one_int Try.underlying2 g0_3
  obtain ⟨cl, rfl, w_cl⟩ := one_int Try.underlying2 g0_4
  obtain ⟨ex, rfl, w_ex⟩ := one_int Try.underlying2 g0_5
  obtain ⟨st, rfl, w_st⟩ := one_int Try.underlying3 g0_6
  obtain ⟨at_, rfl, w_at_⟩ := one_int Try.underlying3 g0_7
  obtain ⟨un, rfl, w_un⟩ := one_int Try.underlying3 g0_8
  obtain ⟨pa, rfl, w_pa⟩ := one_int Try.underlying3 g0_9
  have k1 := h1
  have lt1 : ∀ x ∈ p1, x.block < W.heap.size := by obtain ⟨m, hm⟩ := k1; exact DataW.trod_lt m _ _ _ hm
  obtain ⟨u1_0, u1_1, u1_2, u1_3, y1_0, y1_1, y1_2, y1_3, m1, rfl, g1_0, g1_1, g1_2, g1_3⟩ := open_agg4 Try.underlying33 (by kernel_rfl) (by kernel_rfl) (hval 1 33 v1 rfl rfl) h1
  obtain ⟨kd, rfl, w_kd⟩ := one_int Try.underlying5 g1_0
  obtain ⟨am, rfl, w_am⟩ := one_int Try.underlying2 g1_1
  obtain ⟨t, rfl, w_t⟩ := one_int Try.underlying3 g1_2
  obtain ⟨fin, rfl⟩ := one_bool Try.underlying4 g1_3
  clear hA0 hval0
  refine (walk id cur ap rv cl ex st at_ un pa kd am t fin W w_id w_cur w_kd).mono fun e W' ⟨he, bel⟩ => ?_
  subst he
  exact ⟨_, rfl, _, _, _, [], _, [], hW', trodAll_mk1 (shut_bool Try.underlying4 _), (trodAll_cons_mk (Below.trod laidOut (by kernel_rfl) (of_decide_eq_true (by kernel_rfl)) k0 bel lt0) (trodAll_cons_mk (Below.trod laidOut (by kernel_rfl) (of_decide_eq_true (by kernel_rfl)) k1 bel lt1) trodAll_mk0)), rfl, bel.frame _, fun h => by cases h⟩

theorem over : Rows.authStepsRow.holds Try.pinned (OpenSpec.ofChange Rows.authStepsSpec) :=
  OpenClaim.holds_of_wide 4 Try.f4 rfl rfl rfl rfl rfl rfl rfl ⟨rfl, rfl, rfl, rfl, rfl⟩ rfl rfl rfl rfl rfl (by kernel_rfl) Try.func4 (by kernel_rfl)
    (of_decide_eq_true (by kernel_rfl)) (by unfold Func.isWrapper; first | (rw [if_pos (by decide +kernel)]; kernel_rfl) | (rw [if_neg (by decide +kernel)]; exact ⟨rfl, rfl⟩))
    (fun os started H enc _ => lifted os started H enc)
/-- THE STATEMENT. -/
theorem proved : Rows.AuthStepsSaid := over
#print axioms proved
end Go.Proofs.Ytmigodjkenhedaa.authSteps
