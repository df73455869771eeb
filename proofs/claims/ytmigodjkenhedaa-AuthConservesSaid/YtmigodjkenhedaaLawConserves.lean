/-
  PROVED: for every amount and every list of operations, the law AuthConserves returns true: whatever is raised, reversed, cleared and expired, the authorization stays valid and the funds add up (its first 200 operations). Conditions: none besides the form's own reach.
-/
import Derived.Test.YtmigodjkenhedaaCons1
import Derived.Test.YtmigodjkenhedaaOpen
import Derived.Deep.Slices
import Derived.Deep.Fields
import Derived.ChangeSame
import Derived.Test.YtmigodjkenhedaaRows
import Derived.WalkKit
import Derived.ProofKit
import Derived.OpenShut
import Derived.ShutString
import Derived.ChangeOld
import Derived.Below
namespace Go.Proofs.Ytmigodjkenhedaa.authConserves
open Go.ChangeShapes Go.WideShapes Go.ChangeAt Go.RowKit Go.Deep
set_option linter.unusedVariables false
section
variable {H : Type} {enc : TypeId × Value → H} {P : Program} {w : World} {base : Nat} {spare : Nat → Bool} {held : Bool}
theorem open_slice_fields {t e : TypeId} {fs : Array Field} {fuel : Nat} {cs : List Value} {x : DataW H × List MemPlace} (ht : P.underlying t = some (.slice e)) (he : P.underlying e = some (.struct fs))
    (hone : oneCellFields P fs = true) (hC : P.cellsOf e = fs.size) (h : DataW.trod enc P w base spare held fuel t cs = some x) :
    (cs = [.slice none 0 0] ∧ x = (.nil, [])) ∨
    ∃ (a : Addr) (len cap m : Nat) (D : Nat → DataW H) (Pl : Nat → List MemPlace), cs = [.slice (some a) len cap] ∧ base ≤ a.block ∧ len ≤ cap ∧ cap ≤ maxLen ∧ m = (if spare a.block then cap else len) ∧
      x = (.slice ((List.range len).map D) ((List.range (m - len)).map fun j => D (len + j)), MemPlace.row a (m * fs.size) ++ (List.range m).flatMap Pl) ∧
      ∀ i, i < m → ∃ (ys : List (DataW H × List MemPlace)) (n : Nat), D i = .agg (ys.map (·.1)) ∧ Pl i = ys.flatMap (·.2) ∧ ys.length = fs.size ∧
        ∀ (j : Nat) (f : Field), fs[j]? = some f → ∃ (v : Value) (y : DataW H × List MemPlace), w.cell? (a.add (i * fs.size + j)) = some v ∧ ys[j]? = some y ∧ DataW.trod enc P w base spare held n f.type [v] = some y := by
  rcases open_slice ht h with h0 | ⟨a, len, cap, m, n, D, Pl, hcs, hb, hl, hm, hmm, hx, hi⟩
  · exact .inl h0
  · refine .inr ⟨a, len, cap, m, D, Pl, hcs, hb, hl, hm, hmm, by rw [hC] at hx; exact hx, fun i him => ?_⟩
    obtain ⟨cs', hc, ht'⟩ := hi i him
    rw [hC] at hc
    obtain ⟨ys, n', hn', hy, hlen, hyl, hf⟩ := DataW.trod_struct he ht'
    obtain ⟨_, hcl, hat⟩ := World.cells?_some hc
    simp only [Prod.mk.injEq] at hy
    refine ⟨ys, n', hy.1, hy.2, hyl, fun j f hj => ?_⟩
    obtain ⟨ho, hk⟩ := hone_of hone j f hj
    have hjl : j < fs.size := (Array.getElem?_eq_some_iff.1 hj).1
    have hcell := hat j hjl
    have hv : cs'[j]? = some (cs'[j]'(by omega)) := List.getElem?_eq_getElem (by omega)
    have h1 := hf j f hj
    rw [ho, hk] at h1
    have hone' : (cs'.drop j).take 1 = [cs'[j]'(by omega)] := by
      rw [List.drop_eq_getElem_cons (by omega)]
      rfl
    rw [hone'] at h1
    have hys : ys[j]? = some (ys[j]'(by omega)) := List.getElem?_eq_getElem (by omega)
    refine ⟨_, _, ?_, hys, h1.trans hys⟩
    rw [← Go.Deep.add_add, hcell, hv]
end
/-- The operations that came in: each one's four cells. -/
def IsOps (w : World) (A : Option Addr) (len : Nat) : Prop := ∀ j, j < len → ∃ (b off : Nat) (kd am t : Int) (fin : Bool), A = some ⟨b, off, none⟩ ∧ (0 ≤ kd ∧ kd ≤ 255) ∧ w.cell? ⟨b, off + j * 4, none⟩ = some (.int .u8 kd) ∧ w.cell? ⟨b, off + j * 4 + 1, none⟩ = some (.int .i64 am) ∧ w.cell? ⟨b, off + j * 4 + 2, none⟩ = some (.int .i64 t) ∧ w.cell? ⟨b, off + j * 4 + 3, none⟩ = some (.bool fin)
theorem kd_bd {kd : Int} (h : (Lit.int .u8 kd).wf = true) : 0 ≤ kd ∧ kd ≤ 255 := by simpa [Lit.wf, IntKind.min, IntKind.max, IntKind.signed, IntKind.bits] using h
theorem add_at {w : World} {x : Addr} {n : Nat} {v : Value} (h : w.cell? (x.add n) = some v) : w.cell? ⟨x.block, x.off + n, none⟩ = some v := by
  by_cases h0 : n = 0
  · subst h0
    have hs := World.cell?_spot h
    obtain ⟨b, off, spot⟩ := x
    simp only [Addr.add, if_true] at hs h
    subst hs
    exact h
  · simpa [Addr.add, h0] using h
theorem ops_at {H : Type} {enc : TypeId × Value → H} {w : World} {base : Nat} {spare : Nat → Bool} {held : Bool} {x : Addr} {m : Nat} {fs : Array Field} {D : Nat → DataW H} {Pl : Nat → List MemPlace}
    (hfs : fs.size = 4) (t0 : (fs[0]?).map (·.type) = some 5) (t1 : (fs[1]?).map (·.type) = some 2) (t2 : (fs[2]?).map (·.type) = some 3) (t3 : (fs[3]?).map (·.type) = some 4)
    (hi : ∀ i, i < m → ∃ (ys : List (DataW H × List MemPlace)) (n : Nat), D i = .agg (ys.map (·.1)) ∧ Pl i = ys.flatMap (·.2) ∧ ys.length = fs.size ∧ ∀ (j : Nat) (f : Field), fs[j]? = some f → ∃ (v : Value) (y : DataW H × List MemPlace), w.cell? (x.add (i * fs.size + j)) = some v ∧ ys[j]? = some y ∧ DataW.trod enc Try.prog w base spare held n f.type [v] = some y)
    (j : Nat) (hj : j < m) : ∃ (b off : Nat) (kd am t : Int) (fin : Bool), some x = some (⟨b, off, none⟩ : Addr) ∧ (0 ≤ kd ∧ kd ≤ 255) ∧ w.cell? ⟨b, off + j * 4, none⟩ = some (.int .u8 kd) ∧ w.cell? ⟨b, off + j * 4 + 1, none⟩ = some (.int .i64 am) ∧ w.cell? ⟨b, off + j * 4 + 2, none⟩ = some (.int .i64 t) ∧ w.cell? ⟨b, off + j * 4 + 3, none⟩ = some (.bool fin) := by
  obtain ⟨f0, e0, k0⟩ : ∃ f, fs[0]? = some f ∧ f.type = 5 := by cases h : fs[0]? <;> simp_all
  obtain ⟨f1, e1, k1⟩ : ∃ f, fs[1]? = some f ∧ f.type = 2 := by cases h : fs[1]? <;> simp_all
  obtain ⟨f2, e2, k2⟩ : ∃ f, fs[2]? = some f ∧ f.type = 3 := by cases h : fs[2]? <;> simp_all
  obtain ⟨f3, e3, k3⟩ : ∃ f, fs[3]? = some f ∧ f.type = 4 := by cases h : fs[3]? <;> simp_all
  have hsp : x.spot = none := by
    obtain ⟨ys, n, _, _, _, hf⟩ := hi 0 (by omega)
    obtain ⟨v, y, c, _, _⟩ := hf 0 f0 e0
    have := World.cell?_spot c
    simpa [Addr.add] using this
  obtain ⟨ys, n, _, _, _, hf⟩ := hi j hj
  obtain ⟨v0, y0, c0, _, r0⟩ := hf 0 f0 e0
  obtain ⟨v1, y1, c1, _, r1⟩ := hf 1 f1 e1
  obtain ⟨v2, y2, c2, _, r2⟩ := hf 2 f2 e2
  obtain ⟨v3, y3, c3, _, r3⟩ := hf 3 f3 e3
  rw [k0] at r0
  rw [k1] at r1
  rw [k2] at r2
  rw [k3] at r3
  rw [hfs] at c0 c1 c2 c3
  obtain ⟨kd, rfl, w0⟩ := one_int Try.underlying5 r0
  obtain ⟨am, rfl, _⟩ := one_int Try.underlying2 r1
  obtain ⟨t, rfl, _⟩ := one_int Try.underlying3 r2
  obtain ⟨fin, rfl⟩ := one_bool Try.underlying4 r3
  have d0 := add_at c0
  have d1 := add_at c1
  have d2 := add_at c2
  have d3 := add_at c3
  obtain ⟨b, off, spot⟩ := x
  dsimp only at hsp d0 d1 d2 d3
  subst hsp
  exact ⟨b, off, kd, am, t, fin, rfl, kd_bd w0, by simpa using d0, by simpa [Nat.add_assoc] using d1, by simpa [Nat.add_assoc] using d2, by simpa [Nat.add_assoc] using d3⟩
set_option maxRecDepth 100000 in
set_option maxHeartbeats 800000 in
theorem walk (amount : Int) (A : Option Addr) (len cap : Nat) (w : World) (w0 : (Lit.int .i64 amount).wf = true) (hr : len ≤ maxLen ∧ IsOps w A len) :
    Calls Try.prog 3 #[.int .i64 amount, .slice A len cap] w fun e w' => e = .returned (.bool true) ∧ Below w.heap.size w w' := by
  clear w0
  obtain ⟨hlm, hops⟩ := hr
  unfold maxLen at hlm
  by_cases hz : 1 ≤ amount ∧ amount ≤ 999999999999
  · exact cons_walk amount A len cap w (by omega) hops ⟨hz, by omega, by omega, by omega, by omega, by omega, by omega, by unfold auState; rw [if_pos (by omega)], by omega⟩
  · obtain ⟨c, hc⟩ : ∃ c, c = auCheck (identB sX.data.toList 16) (curB sEur.data.toList) amount 0 0 0 1 0 10 0 := ⟨_, rfl⟩
    have h0 : c ≠ 0 := fun h => by
      subst h
      exact hz (auCheck_zero.1 hc.symm).2.2.k_ap
    have h1 : (c != 0) = true := by simp [h0]
    have HC := Lib.hid hc
    clear hc h0 hops
    by_cases h2 : amount < 1
    · clear hz
      go_enter Try.func3, Try.ntmps3
      go_wp2_with fail
      refine (new_err sX sEur _ amount 0 10 (by decide) (by decide) HC h1).mono ?_
      rintro e w1 ⟨rfl, l1, n1, rfl⟩
      go_wp2_with (go_at_call 9; refine (awake_any _).mono ?_; rintro e w1 ⟨rfl, l3, n3, rfl⟩)
      go_ret
      exact ⟨rfl, Pushed.below (by repeat (first | with_reducible exact Pushed.refl _ | with_reducible assumption | with_reducible refine Pushed.push ?_ _ | with_reducible refine Pushed.alloc ?_ _ | with_reducible refine Pushed.drewN ?_ _ | with_reducible refine Pushed.drew ?_))⟩
    · have h3 : 999999999999 < amount := by omega
      clear hz
      go_enter Try.func3, Try.ntmps3
      go_wp2_with fail
      refine (new_err sX sEur _ amount 0 10 (by decide) (by decide) HC h1).mono ?_
      rintro e w1 ⟨rfl, l1, n1, rfl⟩
      go_wp2_with (go_at_call 9; refine (awake_any _).mono ?_; rintro e w1 ⟨rfl, l3, n3, rfl⟩)
      go_ret
      exact ⟨rfl, Pushed.below (by repeat (first | with_reducible exact Pushed.refl _ | with_reducible assumption | with_reducible refine Pushed.push ?_ _ | with_reducible refine Pushed.alloc ?_ _ | with_reducible refine Pushed.drewN ?_ _ | with_reducible refine Pushed.drew ?_))⟩

theorem own : ownKnob Try.prog.godebug = none := by kernel_rfl
theorem laidOut : laidOutB Try.prog = true := by kernel_rfl
set_option maxRecDepth 100000 in
theorem lifted (os : Os) (started : os.Started) (H : Type) (enc : TypeId × Value → H) :
    ReturnsInHanded {} Try.checked os 3 .any (Rows.authConservesSpec.pre6 enc Try.prog Try.f3 Rows.authConservesRow.domain false) (Rows.authConservesSpec.post enc Try.prog Try.f3 false true false false) := by
  refine returnsInHanded_of_change (C := Try.checked) own started (by kernel_rfl) Try.func3
    (ChangeSpec.witness6 (enc := enc) (C := Try.checked) false ⟨#[], #[.int .i64 0, .slice none 0 0], []⟩ 8 (by kernel_rfl) (by kernel_rfl) (by kernel_rfl) (by kernel_rfl)) ?_
  intro W base args ds gs before hval0 hW hcnd _
  have hval : ∀ (j : Nat) t v, Try.f3.params[j]? = some t → args[j]? = some v → Value.okWide Try.prog W .any base t v := hval0
  have hW' := hW
  obtain ⟨p, q, hA0, hV, rfl, hfz, hnd⟩ := hW
  have hA : DataW.TrodAll enc Try.prog W 0 (fun _ => true) true Try.f3.params.toList args.toList ds p := hA0
  rw [Try.params3] at hA hval
  obtain ⟨v0, vs0, d0, ds0, p0, q0, hargs, rfl, rfl, h0, r0⟩ := trodAll_cons hA
  obtain ⟨v1, vs1, d1, ds1, p1, q1, rfl, rfl, rfl, h1, r1⟩ := trodAll_cons r0
  obtain ⟨rfl, rfl, rfl⟩ := trodAll_nil r1
  obtain rfl : args = #[v0, v1] := by cases args; simp_all
  obtain ⟨rfl, rfl⟩ := trodVars_none hV
  have k0 := h0
  have lt0 : ∀ x ∈ p0, x.block < W.heap.size := by obtain ⟨m, hm⟩ := k0; exact DataW.trod_lt m _ _ _ hm
  obtain ⟨a0, rfl, -, -, w0⟩ := open_int Try.underlying2 (hval 0 2 v0 rfl rfl) h0
  have k1 := h1
  have lt1 : ∀ x ∈ p1, x.block < W.heap.size := by obtain ⟨m, hm⟩ := k1; exact DataW.trod_lt m _ _ _ hm
  obtain ⟨a1, len1, cap1, rfl⟩ := okWide_slice Try.underlying22 (hval 1 22 v1 rfl rfl)
  have w1 : len1 ≤ maxLen ∧ IsOps W a1 len1 := by
    obtain ⟨fuel, hf⟩ := h1
    rcases open_slice_fields Try.underlying22 Try.underlying33 (by kernel_rfl) (by kernel_rfl) hf with ⟨hcs, _⟩ | ⟨x, l, c, m, D, Pl, hcs, _, hl, hm, hmm, _, hi⟩
    · simp [Value.cells] at hcs
      obtain ⟨rfl, rfl, rfl⟩ := hcs
      exact ⟨Nat.zero_le _, fun j hj => absurd hj (Nat.not_lt_zero _)⟩
    · simp [Value.cells] at hcs
      obtain ⟨rfl, rfl, rfl⟩ := hcs
      simp only [if_true] at hmm
      exact ⟨by omega, fun j hj => ops_at rfl rfl rfl rfl rfl hi j (by omega)⟩
  clear hA0 hval0
  refine (walk a0 a1 len1 cap1 W w0 w1).mono fun e W' ⟨he, bel⟩ => ?_
  subst he
  exact ⟨_, rfl, _, _, _, [], _, [], hW', trodAll_mk1 (shut_bool Try.underlying4 _), (trodAll_cons_mk (Below.trod laidOut (by kernel_rfl) (of_decide_eq_true (by kernel_rfl)) k0 bel lt0) (trodAll_cons_mk (Below.trod laidOut (by kernel_rfl) (of_decide_eq_true (by kernel_rfl)) k1 bel lt1) trodAll_mk0)), rfl, bel.frame _, fun h => by cases h⟩

theorem over : Rows.authConservesRow.holds Try.pinned (OpenSpec.ofChange Rows.authConservesSpec) :=
  OpenClaim.holds_of_wide 3 Try.f3 rfl rfl rfl rfl rfl rfl rfl ⟨rfl, rfl, rfl, rfl, rfl⟩ rfl rfl rfl rfl rfl (by kernel_rfl) Try.func3 (by kernel_rfl)
    (of_decide_eq_true (by kernel_rfl)) (by unfold Func.isWrapper; first | (rw [if_pos (by decide +kernel)]; kernel_rfl) | (rw [if_neg (by decide +kernel)]; exact ⟨rfl, rfl⟩))
    (fun os started H enc _ => lifted os started H enc)
/-- THE STATEMENT. -/
theorem proved : Rows.AuthConservesSaid := over
#print axioms proved
end Go.Proofs.Ytmigodjkenhedaa.authConserves
