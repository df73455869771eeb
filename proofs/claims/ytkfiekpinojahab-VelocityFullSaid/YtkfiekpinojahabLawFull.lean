/-
  PROVED: for every horizon, the law VelocityFull returns true: 1000 uses are remembered and no more, until they are too old. Conditions: none besides the form's own reach.
-/
import Derived.Test.YtkfiekpinojahabVK7
import Derived.ChangeSlices
import Derived.Test.YtkfiekpinojahabRows
import Derived.WalkKit
import Derived.ProofKit
import Derived.OpenShut
import Derived.ShutString
import Derived.ChangeOld
import Derived.Below
namespace Go.Proofs.Ytkfiekpinojahab.velocityFull
open Go.ChangeShapes Go.WideShapes Go.ChangeAt Go.RowKit
open Go.ChangeMaps (open_string shut_string)
set_option linter.unusedVariables false
theorem u8_in {n : Int} (h : (Lit.int .u8 n).wf = true) : 0 ≤ n ∧ n < 256 := by
  simp [Lit.wf, IntKind.min, IntKind.max, IntKind.signed, IntKind.bits] at h
  exact ⟨by omega, by omega⟩
def fs (h i : Nat) : VS := ⟨h, 0, List.replicate i ⟨⟨#[107]⟩, 0, 0⟩⟩
theorem old_zero {us : List UR} {b : Int} (h : ∀ x ∈ us, b < x.a) : oldS us b = 0 := by
  unfold oldS
  cases us with
  | nil => rfl
  | cons x l =>
    rw [List.takeWhile_cons_of_neg (by have := h x (List.mem_cons_self ..); simp; omega)]
    rfl
theorem old_all {us : List UR} {b : Int} (h : ∀ x ∈ us, x.a ≤ b) : oldS us b = us.length := by
  induction us with
  | nil => rfl
  | cons x l ih =>
    unfold oldS at ih ⊢
    rw [List.takeWhile_cons_of_pos (by simpa using h x (List.mem_cons_self ..)), List.length_cons, List.length_cons, ih (fun y hy => h y (List.mem_cons_of_mem _ hy))]
theorem fs_at {h i : Nat} : ∀ x ∈ (fs h i).us, x.a = 0 := fun x hx => by
  have := (List.mem_replicate.1 hx).2
  rw [this]
theorem fs_add {h i : Nat} (h1 : 1 ≤ h) : oldS (fs h i).us (0 - (h : Int)) = 0 ∧ addS (fs h i) ⟨#[107]⟩ 0 0 = fs h (i + 1) := by
  have h0 : oldS (fs h i).us (0 - (h : Int)) = 0 := old_zero fun x hx => by rw [fs_at x hx]; omega
  refine ⟨h0, ?_⟩
  unfold addS
  rw [show ((fs h i).hor : Int) = (h : Int) from rfl, h0]
  unfold fs
  rw [List.replicate_succ']
  rfl
theorem fs_len (h i : Nat) : (fs h i).us.length = i := List.length_replicate
theorem fs_late {h i : Nat} : oldS (fs h i).us ((h : Int) - (h : Int)) = i ∧ addS (fs h i) ⟨#[107]⟩ (h : Int) 0 = ⟨h, h, [⟨⟨#[107]⟩, h, 0⟩]⟩ := by
  have h0 : oldS (fs h i).us ((h : Int) - (h : Int)) = i := by
    rw [old_all fun x hx => by rw [fs_at x hx]; omega]
    exact fs_len h i
  refine ⟨h0, ?_⟩
  unfold addS
  rw [show ((fs h i).hor : Int) = (h : Int) from rfl, h0, List.drop_of_length_le (Nat.le_of_eq (fs_len h i))]
  rfl
theorem fs_full {h i : Nat} : oldS (fs h i).us ((h : Int) - 1 - (h : Int)) = 0 := old_zero fun x hx => by rw [fs_at x hx]; omega
set_option maxHeartbeats 3200000 in
set_option maxRecDepth 5000 in
theorem walk0 (s8 : Nat) (hs8 : s8 < 256) (w : World) : Calls Try.prog 6 #[.int .u8 (s8 : Int)] w fun e w' => e = .returned (.bool true) ∧ Below w.heap.size w w' := by
  obtain ⟨h, hh⟩ : ∃ h : Nat, h = 1 + s8 := ⟨_, rfl⟩
  have h1 : 1 + (s8 : Int) = (h : Int) := by omega
  have HH := Lib.hid (show 1 ≤ h ∧ h ≤ 256 by omega)
  have AW := Lib.hid awake_any
  clear hh
  go_enter Try.func6, Try.ntmps6
  go_wp2_with fail
  refine (new_any h HH.out.1 (by have := HH.out.2; omega) _ (Nat.le_refl _)).mono ?_
  rintro e w1 ⟨D, rfl, hr, hB⟩
  have HL := Lib.hid (Left.same hr (Below.refl _ _))
  have HR := Lib.hid hr
  have HB := Lib.hid hB
  clear hr hB
  go_wp2_with fail
  go_loopw [6] (fun i wr => ∃ k : Nat, k ≤ 1000 ∧ i = .int .i64 (k : Int) ∧ ∃ v', Left w1 wr w.heap.size D (.slice none 0 0) v' (fs h k)) (fun i _ => 1000 - (intOf i).toNat)
  case atStart => exact ⟨0, by omega, rfl, _, HL.out⟩
  case round =>
    obtain ⟨k, hk, rfl, v', hL0⟩ := hrel
    clear HL
    have HL := Lib.hid hL0
    clear hL0
    by_cases hlt : k < 1000
    · have FA := Lib.hid (fs_add (i := k) HH.out.1)
      have FL := Lib.hid (fs_len h k)
      go_wp2_with fail
      refine (add_eq (at_ := 0) (m := 0) HL.out.rep ⟨by decide, by decide, by decide, by decide, (show (0 : Int) ≤ 0 by decide), by decide, by decide⟩ (by rw [FL.out]; omega) FA.out.2).mono ?_
      rintro e w2 ⟨rfl, v2, hL⟩
      have HL2 := Lib.hid (HL.out.trans hL)
      clear HL hL
      go_wp2_with fail
      go_round
      case rel => exact ⟨k + 1, by omega, by go_num, _, HL2.out⟩
      case measure => simp [intOf]; omega
    · obtain rfl : k = 1000 := by omega
      clear hlt hk
      have FL := Lib.hid (fs_len h 1000)
      have F1 := Lib.hid (fs_full (h := h) (i := 1000))
      have F2 := Lib.hid (fs_late (h := h) (i := 1000))
      have hm1 : wrap64 ((h : Int) - 1) = (h : Int) - 1 := by have := HH.out; unfold wrap64; omega
      go_wp2_with fail
      refine (add_full HL.out.rep _ _ _ ⟨by decide, by decide, by have := HH.out; omega, by have := HH.out; omega, (by have := HH.out; show (0 : Int) ≤ _; omega), by decide, by decide⟩ (by rw [show ((fs h 1000).hor : Int) = (h : Int) from rfl, F1.out, FL.out]; exact Nat.le_refl _)).mono ?_
      rintro e w2 ⟨rfl, hL⟩
      have HL2 := Lib.hid (HL.out.trans hL)
      clear HL hL
      have HL := HL2
      clear HL2
      go_wp2_with fail
      refine (len_any HL.out.rep (c := 1000) (by rw [FL.out]; rfl)).mono ?_
      rintro e w2 ⟨rfl, hL⟩
      have HL2 := Lib.hid (HL.out.trans hL)
      clear HL hL
      have HL := HL2
      clear HL2
      go_wp2_with fail
      refine (add_eq (s' := (⟨h, h, [⟨⟨#[107]⟩, h, 0⟩]⟩ : VS)) HL.out.rep ⟨by decide, by decide, by omega, by have := HH.out; omega, (show (0 : Int) ≤ (h : Int) by omega), by decide, by decide⟩ (by rw [show ((fs h 1000).hor : Int) = (h : Int) from rfl, F2.out.1, FL.out]; decide) F2.out.2).mono ?_
      rintro e w2 ⟨rfl, v2, hL⟩
      have HL2 := Lib.hid (HL.out.trans hL)
      clear HL hL
      have HL := HL2
      clear HL2
      go_wp2_with fail
      refine (len_any HL.out.rep (c := 1) rfl).mono ?_
      rintro e w2 ⟨rfl, hL⟩
      have HL2 := Lib.hid (HL.out.trans hL)
      clear HL hL
      have HL := HL2
      clear HL2
      go_wp2_with fail
      refine (last_any (us := []) (x := ⟨⟨#[107]⟩, h, 0⟩) HL.out.rep rfl).mono ?_
      rintro e w2 ⟨rfl, hL⟩
      have HL2 := Lib.hid (HL.out.trans hL)
      clear HL hL
      have HL := HL2
      clear HL2
      go_wp2_with fail
      refine (add_time HL.out.rep _ _ _ (by decide) (by decide) (by have := HH.out; omega) (by have := HH.out; omega) (show (h : Int) - 1 < (h : Int) by omega)).mono ?_
      rintro e w2 ⟨rfl, hL⟩
      have HL2 := Lib.hid (HL.out.trans hL)
      clear HL hL
      have HL := HL2
      clear HL2
      go_wp2_with fail
      refine (AW.out _).mono ?_
      rintro e w3 ⟨rfl, hB3⟩
      go_wp2
      go_ret
      have hb := HB.out.trans (HL.out.below HR.out (Nat.le_refl _) HB.out.size)
      exact ⟨rfl, hb.trans (hB3.mono hb.size)⟩
theorem walk (s : Int) (w : World) (hs : (Lit.int .u8 s).wf = true) : Calls Try.prog 6 #[.int .u8 s] w fun e w' => e = .returned (.bool true) ∧ Below w.heap.size w w' := by
  obtain ⟨h3, h4⟩ := u8_in hs
  obtain ⟨t, rfl⟩ : ∃ n : Nat, s = (n : Int) := ⟨s.toNat, by omega⟩
  exact walk0 t (by omega) w

theorem own : ownKnob Try.prog.godebug = none := by kernel_rfl
theorem laidOut : laidOutB Try.prog = true := by kernel_rfl
set_option maxRecDepth 100000 in
theorem lifted (os : Os) (started : os.Started) (H : Type) (enc : TypeId × Value → H) :
    ReturnsInHanded {} Try.checked os 6 .any (Rows.velocityFullSpec.pre6 enc Try.prog Try.f6 Rows.velocityFullRow.domain false) (Rows.velocityFullSpec.post enc Try.prog Try.f6 false true false false) := by
  refine returnsInHanded_of_change (C := Try.checked) own started (by kernel_rfl) Try.func6
    (ChangeSpec.witness6 (enc := enc) (C := Try.checked) false ⟨#[], #[.int .u8 0], []⟩ 8 (by kernel_rfl) (by kernel_rfl) (by kernel_rfl) (by kernel_rfl)) ?_
  intro W base args ds gs before hval0 hW hcnd _
  have hval : ∀ (j : Nat) t v, Try.f6.params[j]? = some t → args[j]? = some v → Value.okWide Try.prog W .any base t v := hval0
  have hW' := hW
  obtain ⟨p, q, hA0, hV, rfl, hfz, hnd⟩ := hW
  have hA : DataW.TrodAll enc Try.prog W 0 (fun _ => true) true Try.f6.params.toList args.toList ds p := hA0
  rw [Try.params6] at hA hval
  obtain ⟨v0, vs0, d0, ds0, p0, q0, hargs, rfl, rfl, h0, r0⟩ := trodAll_cons hA
  obtain ⟨rfl, rfl, rfl⟩ := trodAll_nil r0
  obtain rfl : args = #[v0] := by cases args; simp_all
  obtain ⟨rfl, rfl⟩ := trodVars_none hV
  have k0 := h0
  have lt0 : ∀ x ∈ p0, x.block < W.heap.size := by obtain ⟨m, hm⟩ := k0; exact DataW.trod_lt m _ _ _ hm
  obtain ⟨a0, rfl, -, -, w0⟩ := open_int Try.underlying5 (hval 0 5 v0 rfl rfl) h0
  clear hA0 hval0
  refine (walk a0 W w0).mono fun e W' ⟨he, bel⟩ => ?_
  subst he
  exact ⟨_, rfl, _, _, _, [], _, [], hW', trodAll_mk1 (shut_bool Try.underlying4 _), (trodAll_cons_mk (Below.trod laidOut (by kernel_rfl) (of_decide_eq_true (by kernel_rfl)) k0 bel lt0) trodAll_mk0), rfl, bel.frame _, fun h => by cases h⟩

theorem over : Rows.velocityFullRow.holds Try.pinned (OpenSpec.ofChange Rows.velocityFullSpec) :=
  OpenClaim.holds_of_wide 6 Try.f6 rfl rfl rfl rfl rfl rfl rfl ⟨rfl, rfl, rfl, rfl, rfl⟩ rfl rfl rfl rfl rfl (by kernel_rfl) Try.func6 (by kernel_rfl)
    (of_decide_eq_true (by kernel_rfl)) (by unfold Func.isWrapper; first | (rw [if_pos (by decide +kernel)]; kernel_rfl) | (rw [if_neg (by decide +kernel)]; exact ⟨rfl, rfl⟩))
    (fun os started H enc _ => lifted os started H enc)
/-- THE STATEMENT. -/
theorem proved : Rows.VelocityFullSaid := over
#print axioms proved
end Go.Proofs.Ytkfiekpinojahab.velocityFull
