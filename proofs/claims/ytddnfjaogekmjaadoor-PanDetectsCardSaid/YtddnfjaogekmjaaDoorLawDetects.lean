/-
  PROVED: for every text and every two bytes, the law PanDetects returns true: the check of Luhn detects every wrong digit and every exchange of two different neighbours but 0 and 9, and the examples hold; the card ties the listed tables and variables to the program's text. Conditions: none besides the form's own reach.
-/
import Derived.Test.YtddnfjaogekmjaaDoorCards
import Derived.Test.YtddnfjaogekmjaaDoorTie
import Derived.WalkKit
import Derived.ProofKit
import Derived.OpenShut
import Derived.ShutString
import Derived.ChangeOld
import Derived.Below
import Derived.Deep.DeepHandedRow
import Derived.Lib.LaidTab
import Derived.LaidMore
import Derived.Stop.LaidErr
import Derived.Stop.Joined
import Derived.LaidHandle
import Derived.Test.YtddnfjaogekmjaaDoorP17
import Derived.Deep.QuietTactic
import Derived.BigQuiet
import Derived.Test.YtddnfjaogekmjaaDoorP22
import Derived.Deep.RegionHeld3
import Derived.Deep.DeepCutAuto
namespace Go.Proofs.YtddnfjaogekmjaaDoor.panDetects
open Go.ChangeShapes Go.WideShapes Go.ChangeAt Go.RowKit
open Go.ChangeMaps (open_string shut_string)
set_option linter.unusedVariables false
set_option linter.unusedSimpArgs false
theorem bel_alloc {w w' : World} (h : Below w.heap.size w w') (o : Obj) : Below w.heap.size w (w'.alloc o) := h.alloc h.size o
theorem bel_drewN {w w' : World} (h : Below w.heap.size w w') (n : Nat) : Below w.heap.size w (w'.drewN n) := h.trans ⟨rfl, rfl, rfl, Nat.le_refl _, fun _ _ => rfl⟩
theorem u8_in {x : Int} (h : (Lit.int .u8 x).wf = true) : ∃ n : Nat, x = n ∧ n ≤ 255 := by
  simp [Lit.wf, IntKind.min, IntKind.max, IntKind.signed, IntKind.bits] at h
  exact ⟨x.toNat, by omega, by omega⟩
theorem wpAnyH_stronger {P : Program} {md : Region.Mode} {ops : Array Oper} {Q : Exit → Act → World → Prop} {S S' : World → Prop} (hSS : ∀ w, S' w → S w) : ∀ (fuel : Nat) (listed : Array Bool) (a : Act) (w : World), wpAnyH P md ops Q S' fuel listed a w → wpAnyH P md ops Q S fuel listed a w
  | 0, _, _, _, h => h
  | fuel + 1, _, _, _, h => ⟨h.1, fun i hi => wpOp_mono (fun a' w' h' => ⟨hSS _ h'.1, wpAnyH_stronger hSS fuel _ a' w' h'.2⟩) (h.2 i hi)⟩
theorem wpAnyH_stronger2 {P : Program} {md : Region.Mode} {ops : Array Oper} {Q : Exit → Act → World → Prop} {S S' : World → Prop} {fuel : Nat} {listed : Array Bool} {a : Act} {w : World} (hSS : ∀ w, S' w → S w) (hS : S' w) (h : S' w → wpAnyH P md ops Q S' fuel listed a w) : wpAnyH P md ops Q S fuel listed a w := wpAnyH_stronger hSS fuel listed a w (h hS)
set_option maxHeartbeats 8000000 in
set_option maxRecDepth 5000 in
open Classical in
theorem walk (s : ByteArray) (at_ dg_ : Int) (w : World) (hs : s.size ≤ maxLen) (w1 : (Lit.int .u8 at_).wf = true) (w2 : (Lit.int .u8 dg_).wf = true) (hT : Pow w ∧ 4 ≤ w.heap.size) :
    Calls Tryd.prog 7 #[.string s, .int .u8 at_, .int .u8 dg_] w fun e w' => e = .returned (.bool true) ∧ Below w.heap.size w w' := by
  obtain ⟨hP, hw⟩ := hT
  obtain ⟨a, rfl, ha⟩ := u8_in w1
  obtain ⟨g, rfl, hg⟩ := u8_in w2
  clear w1 w2
  unfold maxLen at hs
  have AWK : Hid (∀ w', Below w.heap.size w w' → Calls Tryd.prog 10 #[] w' fun e w'' => e = .returned (.bool true) ∧ Below w.heap.size w w'') := Lib.hid fun w' h => (awake_any w' (hP.later h hw) (Nat.le_trans hw h.size)).mono (fun e w'' hh => ⟨hh.1, h.trans (hh.2.mono h.size)⟩)
  by_cases hl : 100 < s.size
  · go_enter Tryd.func7, Tryd.ntmps7
    go_wp2_with fail
    go_at_call 10
    refine (AWK.out _ (Below.refl _ _)).mono ?_
    rintro e w1 ⟨rfl, hb1⟩
    go_wp2
    go_ret
    exact ⟨rfl, hb1⟩
  obtain ⟨b, hb⟩ : ∃ b : Bool, (b = true ↔ 0 < s.size ∧ Dgs s ∧ luhnP s) := ⟨decide (0 < s.size ∧ Dgs s ∧ luhnP s), decide_eq_true_iff⟩
  have L1 := Lib.hid (fun w => luhn_b s (by omega) (Lib.hid hb) w)
  cases b
  · clear hb
    go_enter Tryd.func7, Tryd.ntmps7
    go_wp2_with fail
    go_at_call 13
    refine (L1.out _).mono ?_
    rintro e w1 ⟨rfl, hb1⟩
    go_wp2_with fail
    go_at_call 10
    refine (AWK.out _ hb1).mono ?_
    rintro e w2 ⟨rfl, hb2⟩
    go_wp2
    go_ret
    exact ⟨rfl, hb2⟩
  obtain ⟨h0, hd, hlu⟩ := hb.1 rfl
  clear hb
  have hi : a % s.size < s.size := Nat.mod_lt _ h0
  have hia : (a : Int) % (s.size : Int) = ((a % s.size : Nat) : Int) := by simp
  have hx := fun w => ix_at s (a % s.size) hi (i := (a : Int) % (s.size : Int)) hia w
  go_enter Tryd.func7, Tryd.ntmps7
  go_wp2_with fail
  go_at_call 13
  refine (L1.out _).mono ?_
  rintro e w1 ⟨rfl, hb1⟩
  go_wp2_with fail
  rw [hia] at hx ⊢
  have hd48 : (48 : Int) ≤ 48 + (g : Int) % 10 := by omega
  have hd57 : 48 + (g : Int) % 10 ≤ (57 : Int) := by omega
  generalize a % s.size = i at *
  generalize (48 + (g : Int) % 10) = d at *
  have hs1 := fun w => sl_h s i (by omega) (j := (i : Int)) rfl w
  have hs2 := fun w => sl_l s (i + 1) (by omega) (i := IntKind.i64.wrap ((i : Int) + 1)) (by rw [wr_any _ (by omega) (by omega)]; omega) w
  have hcv := one_new d w1
  have hcv2 : (convert 36 9 (.slice (some ⟨w1.heap.size, 0, none⟩) 1 1)).run Tryd.prog (w1.alloc (.cells #[.int .u8 d] 5)).drew = .ok (.string (one d)) (w1.alloc (.cells #[.int .u8 d] 5)).drew :=
    one_str _ _ _ (show (w1.alloc (.cells #[.int .u8 d] 5)).cell? _ = _ by rw [World.cell?_alloc_new]; rfl)
  have hcv3 : (convert 36 9 (.slice (some ⟨w1.heap.size, 0, none⟩) 1 1)).run Tryd.prog (w1.drew.alloc (.cells #[.int .u8 d] 5)) = .ok (.string (one d)) (w1.drew.alloc (.cells #[.int .u8 d] 5)) := one_new d w1.drew
  have z1 : (s.extract 0 i).size = i := by rw [size_extract' _ _ _ (by omega)]; omega
  have z2 := one_size d
  have z3 : (s.extract 0 i ++ one d).size = i + 1 := by rw [ByteArray.size_append, z1, z2]
  have z4 : (s.extract (i + 1) s.size).size = s.size - (i + 1) := by rw [size_extract' _ _ _ (by omega)]
  go_cut [49] (fun c wx => c = .bool false ∧ Below w.heap.size w wx)
  case first =>
    by_cases hde : d = byt s i
    · have hne : (d != byt s i) = false := bne_eq_false_iff_eq.2 hde
      clear hde
      go_quiet (fail)
      go_wp2_with fail
      go_meet
      exact ⟨rfl, (by repeat (first | with_reducible assumption | with_reducible refine Below.drew ?_ | with_reducible refine bel_alloc ?_ _ | with_reducible refine bel_drewN ?_ _))⟩
    · have hne : (d != byt s i) = true := bne_iff_ne.2 hde
      have LP : Hid (∀ w', Below w.heap.size w w' → Calls Tryd.prog 13 #[.string (s.extract 0 i ++ one d ++ s.extract (i + 1) s.size)] w' fun e w'' => e = .returned (.bool false) ∧ Below w.heap.size w w'') := Lib.hid (fun w' h => (luhn_put (d := d) (by omega) hi hd48 hd57 hd hlu hde w').mono (fun e w'' hh => ⟨hh.1, h.trans (hh.2.mono h.size)⟩))
      have hy := byt_bd s i
      have v1 : ¬ 9223372036854775807 < (s.extract 0 i).size + (one d).size := by omega
      have v2 : ¬ 9223372036854775807 < (s.extract 0 i ++ one d).size + (s.extract (i + 1) s.size).size := by omega
      have v3 : ¬ 9223372036854775807 < (s.extract 0 i).size + (one d).size + (s.extract (i + 1) s.size).size := by omega
      have LPQ : Hid (∀ w', Calls Tryd.prog 13 #[.string (s.extract 0 i ++ one d ++ s.extract (i + 1) s.size)] w' fun e w'' => e = .returned (.bool false) ∧ Below w'.heap.size w' w'') := Lib.hid (fun w' => luhn_put (d := d) (by omega) hi hd48 hd57 hd hlu hde w')
      clear z1 z2 z3 z4 hde
      generalize s.extract 0 i = e1 at *
      generalize hod : one d = od at *
      have hOD : Hid (one d = od) := Lib.hid hod
      clear hod
      generalize s.extract (i + 1) s.size = e4 at *
      have LQ : Hid (∀ w', Calls Tryd.prog 13 #[.string (e1 ++ od ++ e4)] w' fun e w'' => e = .returned (.bool false) ∧ Below w'.heap.size w' w'') := LPQ
      clear LP LPQ hcv hcv2 hcv3
      have hcnv : ∀ W : World, W.cell? ⟨w1.heap.size, 0, none⟩ = some (.int .u8 d) → (convert 36 9 (.slice (some ⟨w1.heap.size, 0, none⟩) 1 1)).run Tryd.prog W = .ok (.string od) W := fun W h => hOD.out ▸ one_str _ _ _ h
      refine wp_region_held_drew (S := fun w' => Below w.heap.size w w') (by kernel_rfl) ?_ (fun hHeld => ?_)
      · exact hb1.drew
      refine wpAnyH_take (i := 0) (oi := ({ dst := some 30, op := Op.move (Operand.tmp 8), type := 5, pos := "law.go:70", after := #[], guard := none })) (v := ?_) rfl (by kernel_rfl) (by kernel_rfl) (by kernel_rfl) (fun _ _ _ h => h) (Or.inl ⟨by rfl, ?_⟩) (by assumption) ?_
      rotate_left
      · (intro wz hSw; (try dsimp only at hSw); go_simp; try with_reducible rfl)
      try simp only [Act.put, List.setIfInBounds_toArray, List.set_cons_zero, List.set_cons_succ]
      refine wpAnyH_take (i := 1) (oi := ({ dst := some 31, op := Op.move (Operand.tmp 0), type := 9, pos := "law.go:70", after := #[], guard := none })) (v := ?_) rfl (by kernel_rfl) (by kernel_rfl) (by kernel_rfl) (fun _ _ _ h => h) (Or.inl ⟨by rfl, ?_⟩) (by assumption) ?_
      rotate_left
      · (intro wz hSw; (try dsimp only at hSw); go_simp; try with_reducible rfl)
      try simp only [Act.put, List.setIfInBounds_toArray, List.set_cons_zero, List.set_cons_succ]
      refine wpAnyH_take (i := 2) (oi := ({ dst := some 32, op := Op.move (Operand.tmp 7), type := 3, pos := "law.go:70", after := #[], guard := none })) (v := ?_) rfl (by kernel_rfl) (by kernel_rfl) (by kernel_rfl) (fun _ _ _ h => h) (Or.inl ⟨by rfl, ?_⟩) (by assumption) ?_
      rotate_left
      · (intro wz hSw; (try dsimp only at hSw); go_simp; try with_reducible rfl)
      try simp only [Act.put, List.setIfInBounds_toArray, List.set_cons_zero, List.set_cons_succ]
      refine wpAnyH_take (i := 3) (oi := ({ dst := some 33, op := Op.index 9 (Operand.tmp 31) (Operand.tmp 32), type := 5, pos := "law.go:70", after := #[{ on := 1, ground := Ground.data }, { on := 2, ground := Ground.data }], guard := none })) (v := ?_) rfl (by kernel_rfl) (by kernel_rfl) (by kernel_rfl) (fun _ _ _ h => h) (Or.inl ⟨by rfl, ?_⟩) (by assumption) ?_
      rotate_left
      · (intro wz hSw; (try dsimp only at hSw); go_simp; try with_reducible rfl)
      try simp only [Act.put, List.setIfInBounds_toArray, List.set_cons_zero, List.set_cons_succ]
      refine wpAnyH_take (i := 4) (oi := ({ dst := some 34, op := Op.binOp BinOp.neq 5 (Operand.tmp 30) (Operand.tmp 33) 5, type := 4, pos := "law.go:70", after := #[{ on := 0, ground := Ground.data }, { on := 3, ground := Ground.data }], guard := none })) (v := ?_) rfl (by kernel_rfl) (by kernel_rfl) (by kernel_rfl) (fun _ _ _ h => h) (Or.inl ⟨by rfl, ?_⟩) (by assumption) ?_
      rotate_left
      · (intro wz hSw; (try dsimp only at hSw); go_simp; try with_reducible rfl)
      try simp only [Act.put, List.setIfInBounds_toArray, List.set_cons_zero, List.set_cons_succ]
      refine wpAnyH_take (i := 5) (oi := ({ dst := some 35, op := Op.move (Operand.tmp 34), type := 4, pos := "law.go:70", after := #[{ on := 4, ground := Ground.data }], guard := none })) (v := ?_) rfl (by kernel_rfl) (by kernel_rfl) (by kernel_rfl) (fun _ _ _ h => h) (Or.inl ⟨by rfl, ?_⟩) (by assumption) ?_
      rotate_left
      · (intro wz hSw; (try dsimp only at hSw); go_simp; try with_reducible rfl)
      try simp only [Act.put, List.setIfInBounds_toArray, List.set_cons_zero, List.set_cons_succ]
      refine wpAnyH_take (i := 6) (oi := ({ dst := some 36, op := Op.move (Operand.tmp 0), type := 9, pos := "law.go:70", after := #[{ on := 5, ground := Ground.guard }], guard := some (5, true) })) (v := ?_) rfl (by kernel_rfl) (by kernel_rfl) (by kernel_rfl) (fun _ _ _ h => h) (Or.inl ⟨by rfl, ?_⟩) (by assumption) ?_
      rotate_left
      · (intro wz hSw; (try dsimp only at hSw); go_simp; try with_reducible rfl)
      try simp only [Act.put, List.setIfInBounds_toArray, List.set_cons_zero, List.set_cons_succ]
      refine wpAnyH_take (i := 7) (oi := ({ dst := some 37, op := Op.move (Operand.tmp 7), type := 3, pos := "law.go:70", after := #[{ on := 5, ground := Ground.guard }], guard := some (5, true) })) (v := ?_) rfl (by kernel_rfl) (by kernel_rfl) (by kernel_rfl) (fun _ _ _ h => h) (Or.inl ⟨by rfl, ?_⟩) (by assumption) ?_
      rotate_left
      · (intro wz hSw; (try dsimp only at hSw); go_simp; try with_reducible rfl)
      try simp only [Act.put, List.setIfInBounds_toArray, List.set_cons_zero, List.set_cons_succ]
      refine wpAnyH_take (i := 8) (oi := ({ dst := some 38, op := Op.slice 9 (Operand.tmp 36) none (some (Operand.tmp 37)) none, type := 9, pos := "law.go:70", after := #[{ on := 6, ground := Ground.data }, { on := 7, ground := Ground.data }, { on := 5, ground := Ground.guard }], guard := some (5, true) })) (v := ?_) rfl (by kernel_rfl) (by kernel_rfl) (by kernel_rfl) (fun _ _ _ h => h) (Or.inl ⟨by rfl, ?_⟩) (by assumption) ?_
      rotate_left
      · (intro wz hSw; (try dsimp only at hSw); go_simp; try with_reducible rfl)
      try simp only [Act.put, List.setIfInBounds_toArray, List.set_cons_zero, List.set_cons_succ]
      refine wpAnyH_take (i := 9) (oi := ({ dst := some 39, op := Op.move (Operand.tmp 8), type := 5, pos := "law.go:70", after := #[{ on := 5, ground := Ground.guard }], guard := some (5, true) })) (v := ?_) rfl (by kernel_rfl) (by kernel_rfl) (by kernel_rfl) (fun _ _ _ h => h) (Or.inl ⟨by rfl, ?_⟩) (by assumption) ?_
      rotate_left
      · (intro wz hSw; (try dsimp only at hSw); go_simp; try with_reducible rfl)
      try simp only [Act.put, List.setIfInBounds_toArray, List.set_cons_zero, List.set_cons_succ]
      refine wpAnyH_take (i := 13) (oi := ({ dst := some 43, op := Op.move (Operand.tmp 0), type := 9, pos := "law.go:70", after := #[{ on := 5, ground := Ground.guard }], guard := some (5, true) })) (v := ?_) rfl (by kernel_rfl) (by kernel_rfl) (by kernel_rfl) (fun _ _ _ h => h) (Or.inl ⟨by rfl, ?_⟩) (by assumption) ?_
      rotate_left
      · (intro wz hSw; (try dsimp only at hSw); go_simp; try with_reducible rfl)
      try simp only [Act.put, List.setIfInBounds_toArray, List.set_cons_zero, List.set_cons_succ]
      refine wpAnyH_take (i := 14) (oi := ({ dst := some 44, op := Op.move (Operand.tmp 7), type := 3, pos := "law.go:70", after := #[{ on := 5, ground := Ground.guard }], guard := some (5, true) })) (v := ?_) rfl (by kernel_rfl) (by kernel_rfl) (by kernel_rfl) (fun _ _ _ h => h) (Or.inl ⟨by rfl, ?_⟩) (by assumption) ?_
      rotate_left
      · (intro wz hSw; (try dsimp only at hSw); go_simp; try with_reducible rfl)
      try simp only [Act.put, List.setIfInBounds_toArray, List.set_cons_zero, List.set_cons_succ]
      refine wpAnyH_take (i := 15) (oi := ({ dst := some 45, op := Op.binOp BinOp.add 3 (Operand.tmp 44) (Operand.const (Value.int IntKind.i64 1)) 3, type := 3, pos := "law.go:70", after := #[{ on := 14, ground := Ground.data }, { on := 5, ground := Ground.guard }], guard := some (5, true) })) (v := ?_) rfl (by kernel_rfl) (by kernel_rfl) (by kernel_rfl) (fun _ _ _ h => h) (Or.inl ⟨by rfl, ?_⟩) (by assumption) ?_
      rotate_left
      · (intro wz hSw; (try dsimp only at hSw); go_simp; try with_reducible rfl)
      try simp only [Act.put, List.setIfInBounds_toArray, List.set_cons_zero, List.set_cons_succ]
      refine wpAnyH_take (i := 16) (oi := ({ dst := some 46, op := Op.slice 9 (Operand.tmp 43) (some (Operand.tmp 45)) none none, type := 9, pos := "law.go:70", after := #[{ on := 13, ground := Ground.data }, { on := 15, ground := Ground.data }, { on := 5, ground := Ground.guard }], guard := some (5, true) })) (v := ?_) rfl (by kernel_rfl) (by kernel_rfl) (by kernel_rfl) (fun _ _ _ h => h) (Or.inl ⟨by rfl, ?_⟩) (by assumption) ?_
      rotate_left
      · (intro wz hSw; (try dsimp only at hSw); go_simp; try with_reducible rfl)
      try simp only [Act.put, List.setIfInBounds_toArray, List.set_cons_zero, List.set_cons_succ]
      refine wpAnyH_ready (rs := [10]) (by kernel_rfl) (by simp) ?_
      refine AllReadyH.cons (o := ({ dst := some 40, op := Op.buildSlice 36 1 #[(0, Operand.tmp 39)], type := 36, pos := "law.go:70", after := #[{ on := 9, ground := Ground.data }, { on := 5, ground := Ground.guard }], guard := some (5, true) })) rfl (fun K hK => ?_) AllReadyH.nil
      go_simp
      refine hK.out _ _ ?_ (fun hHeld => ?_)
      · exact bel_alloc hb1.drew _
      clear hK K
      try simp only [Act.put, List.setIfInBounds_toArray, List.set_cons_zero, List.set_cons_succ]
      refine wpAnyH_stronger2 (S' := (fun w' => (Below w.heap.size w w' ∧ w1.heap.size < w'.heap.size) ∧ w'.cell? ⟨w1.heap.size, 0, none⟩ = some (.int .u8 d))) (fun _ h => h.1.1) ⟨⟨bel_alloc hb1.drew _, by simp⟩, by go_simp⟩ (fun hHeld2 => ?_)
      clear hHeld
      refine wpAnyH_take (i := 11) (oi := ({ dst := some 41, op := Op.convert 36 9 (Operand.tmp 40), type := 9, pos := "law.go:70", after := #[{ on := 10, ground := Ground.data }, { on := 5, ground := Ground.guard }], guard := some (5, true) })) (v := ?_) rfl (by kernel_rfl) (by kernel_rfl) (by kernel_rfl) (fun _ _ _ h => h) (Or.inl ⟨by rfl, ?_⟩) (by assumption) ?_
      rotate_left
      · (intro wz hSw; (try dsimp only at hSw); have hc := hcnv wz hSw.2; go_simp; try with_reducible rfl)
      try simp only [Act.put, List.setIfInBounds_toArray, List.set_cons_zero, List.set_cons_succ]
      refine wpAnyH_take (i := 12) (oi := ({ dst := some 42, op := Op.binOp BinOp.add 9 (Operand.tmp 38) (Operand.tmp 41) 9, type := 9, pos := "law.go:70", after := #[{ on := 8, ground := Ground.data }, { on := 11, ground := Ground.data }, { on := 5, ground := Ground.guard }], guard := some (5, true) })) (v := ?_) rfl (by kernel_rfl) (by kernel_rfl) (by kernel_rfl) (fun _ _ _ h => h) (Or.inl ⟨by rfl, ?_⟩) (by assumption) ?_
      rotate_left
      · (intro wz hSw; (try dsimp only at hSw); go_simp; try with_reducible rfl)
      try simp only [Act.put, List.setIfInBounds_toArray, List.set_cons_zero, List.set_cons_succ]
      refine wpAnyH_take (i := 17) (oi := ({ dst := some 47, op := Op.binOp BinOp.add 9 (Operand.tmp 42) (Operand.tmp 46) 9, type := 9, pos := "law.go:70", after := #[{ on := 12, ground := Ground.data }, { on := 16, ground := Ground.data }, { on := 5, ground := Ground.guard }], guard := some (5, true) })) (v := ?_) rfl (by kernel_rfl) (by kernel_rfl) (by kernel_rfl) (fun _ _ _ h => h) (Or.inl ⟨by rfl, ?_⟩) (by assumption) ?_
      rotate_left
      · (intro wz hSw; (try dsimp only at hSw); go_simp; try with_reducible rfl)
      try simp only [Act.put, List.setIfInBounds_toArray, List.set_cons_zero, List.set_cons_succ]
      refine wpAnyH_ready (rs := [18]) (by kernel_rfl) (by simp) ?_
      refine AllReadyH.cons (o := ({ dst := some 48, op := Op.call { callee := Callee.value (Operand.func 13), args := #[Operand.tmp 47], argTypes := #[9] }, type := 4, pos := "law.go:70", after := #[{ on := 17, ground := Ground.data }, { on := 5, ground := Ground.chain }, { on := 5, ground := Ground.guard }], guard := some (5, true) })) rfl (fun K hK => ?_) AllReadyH.nil
      go_simp
      (with_reducible refine (LQ.out _).mono ?_)
      rintro e w5 ⟨rfl, hb5⟩
      try go_simp
      refine hK.out _ _ ?_ (fun hHeld => ?_)
      · exact ⟨⟨hHeld2.1.1.trans (hb5.mono hHeld2.1.1.size), Nat.lt_of_lt_of_le hHeld2.1.2 hb5.size⟩, (hb5.cell hHeld2.1.2).trans hHeld2.2⟩
      clear hK K
      try simp only [Act.put, List.setIfInBounds_toArray, List.set_cons_zero, List.set_cons_succ]
      refine wpAnyH_take (i := 19) (oi := ({ dst := some 49, op := Op.pick (Operand.tmp 35) (Operand.tmp 48) (Operand.const (Value.bool false)), type := 4, pos := "law.go:70", after := #[{ on := 5, ground := Ground.data }, { on := 18, ground := Ground.data }], guard := none })) (v := ?_) rfl (by kernel_rfl) (by kernel_rfl) (by kernel_rfl) (fun _ _ _ h => h) (Or.inl ⟨by rfl, ?_⟩) (by assumption) ?_
      rotate_left
      · (intro wz hSw; (try dsimp only at hSw); go_simp; try with_reducible rfl)
      try simp only [Act.put, List.setIfInBounds_toArray, List.set_cons_zero, List.set_cons_succ]
      refine wpAnyH_done (by kernel_rfl) ?_ _
      have hB5 : Below w.heap.size w w5 := hHeld.1.1
      clear hHeld hHeld2 hb5
      go_wp2_with fail
      go_meet
      exact ⟨rfl, (by repeat (first | with_reducible assumption | with_reducible refine Below.drew ?_ | with_reducible refine bel_alloc ?_ _ | with_reducible refine bel_drewN ?_ _))⟩
  case rest =>
    obtain ⟨rfl, hcb⟩ := hcut
    clear hcv hcv2 hcv3 hs1 hs2 z1 z2 z3 z4 hb1
    by_cases hi0 : i = 0
    · have hz0 : ((i : Int) == 0) = true := beq_iff_eq.2 (by omega)
      clear hi0
      go_wp2_with fail
      go_quiet (fail)
      go_wp2_with fail
      go_at_call 10
      refine (AWK.out _ (by repeat (first | with_reducible assumption | with_reducible refine Below.drew ?_ | with_reducible refine bel_alloc ?_ _ | with_reducible refine bel_drewN ?_ _))).mono ?_
      rintro e w2 ⟨rfl, hb2⟩
      go_wp2
      go_ret
      exact ⟨rfl, hb2⟩
    · have hz0 : ((i : Int) == 0) = false := beq_false_of_ne (by omega)
      have hx1 := fun w => ix_at s (i - 1) (by omega) (i := (i : Int) - 1) (by omega) w
      have hx1w := fun w => ix_at s (i - 1) (by omega) (i := IntKind.i64.wrap ((i : Int) - 1)) (by rw [wr_any _ (by omega) (by omega)]; omega) w
      by_cases hxy : byt s (i - 1) = byt s i
      · have hq : (byt s (i - 1) == byt s i) = true := beq_iff_eq.2 hxy
        clear hxy
        go_wp2_with fail
        go_quiet (fail)
        go_wp2_with fail
        go_at_call 10
        refine (AWK.out _ (by repeat (first | with_reducible assumption | with_reducible refine Below.drew ?_ | with_reducible refine bel_alloc ?_ _ | with_reducible refine bel_drewN ?_ _))).mono ?_
        rintro e w2 ⟨rfl, hb2⟩
        go_wp2
        go_ret
        exact ⟨rfl, hb2⟩
      · have hq : (byt s (i - 1) == byt s i) = false := beq_false_of_ne hxy
        have hxv := byt_bd s (i - 1)
        have hyv := byt_bd s i
        have LS : ∀ w', Below w.heap.size w w' → Calls Tryd.prog 13 #[.string (s.extract 0 (i - 1) ++ one (byt s i) ++ one (byt s (i - 1)) ++ s.extract (i + 1) s.size)] w' fun e w'' => e = .returned (.bool ((byt s (i - 1) == 48 && byt s i == 57) || (byt s (i - 1) == 57 && byt s i == 48))) ∧ Below w.heap.size w w'' := fun w' h => by
          have := luhn_swp (s := s) (i := i - 1) (by omega) (by omega) hd hlu (by rw [show i - 1 + 1 = i by omega]; exact hxy) w'
          rw [show i - 1 + 1 = i by omega, show i - 1 + 2 = i + 1 by omega] at this
          exact this.mono (fun e w'' hh => ⟨hh.1, h.trans (hh.2.mono h.size)⟩)
        have t1 := fun w => sl_h s (i - 1) (by omega) (j := IntKind.i64.wrap ((i : Int) - 1)) (by rw [wr_any _ (by omega) (by omega)]; omega) w
        have t2 : ∀ w, (Instr.slice 9 (.string s) (some (.int .i64 (i : Int))) (some (.int .i64 (IntKind.i64.wrap ((i : Int) + 1)))) none).run Tryd.prog w = .ok (.string (one (byt s i))) w := fun w => by
          rw [sl_lh s i (i + 1) (by omega) (by omega) rfl (by rw [wr_any _ (by omega) (by omega)]; omega), extract_one s i hi]
        have t3 : ∀ w, (Instr.slice 9 (.string s) (some (.int .i64 (IntKind.i64.wrap ((i : Int) - 1)))) (some (.int .i64 (i : Int))) none).run Tryd.prog w = .ok (.string (one (byt s (i - 1)))) w := fun w => by
          have e := extract_one s (i - 1) (by omega)
          rw [show i - 1 + 1 = i by omega] at e
          rw [sl_lh s (i - 1) i (by omega) (by omega) (by rw [wr_any _ (by omega) (by omega)]; omega) rfl, e]
        have t4 := fun w => sl_l s (i + 1) (by omega) (i := IntKind.i64.wrap ((i : Int) + 1)) (by rw [wr_any _ (by omega) (by omega)]; omega) w
        have z1 : (s.extract 0 (i - 1)).size = i - 1 := by rw [size_extract' _ _ _ (by omega)]; omega
        have z2 : (one (byt s i)).size = 1 := one_size _
        have z3 : (one (byt s (i - 1))).size = 1 := one_size _
        have z4 : (s.extract 0 (i - 1) ++ one (byt s i)).size = i := by rw [ByteArray.size_append, z1, z2]; omega
        have z5 : (s.extract 0 (i - 1) ++ one (byt s i) ++ one (byt s (i - 1))).size = i + 1 := by rw [ByteArray.size_append, z4, z3]
        have z6 : (s.extract (i + 1) s.size).size = s.size - (i + 1) := by rw [size_extract' _ _ _ (by omega)]
        by_cases x48 : byt s (i - 1) = 48
        · have q1 : (byt s (i - 1) == 48) = true := beq_iff_eq.2 x48
          have q3 : (byt s (i - 1) == 57) = false := beq_false_of_ne (by omega)
          clear x48
          by_cases y57 : byt s i = 57
          · have q2 : (byt s i == 57) = true := beq_iff_eq.2 y57
            clear y57
            replace LS : ∀ w', Below w.heap.size w w' → Calls Tryd.prog 13 #[.string (s.extract 0 (i - 1) ++ one (byt s i) ++ one (byt s (i - 1)) ++ s.extract (i + 1) s.size)] w' fun e w'' => e = .returned (.bool true) ∧ Below w.heap.size w w'' := fun w' h => by
              have := LS w' h
              simp only [q1, q2, q3, Bool.true_and, Bool.false_and, Bool.and_false, Bool.and_true, Bool.or_false, Bool.or_true, Bool.false_or, Bool.true_or] at this
              exact this
            replace LS := Lib.hid LS
            clear hd hlu hxy hi0
            generalize one (byt s i) = oy at *
            generalize one (byt s (i - 1)) = ox at *
            have v1 : ¬ 9223372036854775807 < (s.extract 0 (i - 1)).size + oy.size := by omega
            have v2 : ¬ 9223372036854775807 < (s.extract 0 (i - 1) ++ oy).size + ox.size := by omega
            have v3 : ¬ 9223372036854775807 < (s.extract 0 (i - 1) ++ oy ++ ox).size + (s.extract (i + 1) s.size).size := by omega
            have v4 : ¬ 9223372036854775807 < (s.extract 0 (i - 1)).size + oy.size + ox.size := by omega
            have v5 : ¬ 9223372036854775807 < (s.extract 0 (i - 1)).size + oy.size + ox.size + (s.extract (i + 1) s.size).size := by omega
            clear z1 z2 z3 z4 z5 z6
            generalize s.extract 0 (i - 1) = e1 at *
            generalize s.extract (i + 1) s.size = e4 at *
            go_wp2_with fail
            go_quiet (fail)
            go_wp2_with fail
            go_region_held3 (fun w' => Below w.heap.size w w') (repeat (first | with_reducible assumption | with_reducible refine Below.drew ?_ | with_reducible refine bel_alloc ?_ _ | with_reducible refine bel_drewN ?_ _)) (first
              | (go_at_call 13; (with_reducible refine (LS.out _ (by repeat (first | with_reducible assumption | with_reducible refine Below.drew ?_ | with_reducible refine bel_alloc ?_ _ | with_reducible refine bel_drewN ?_ _))).mono ?_); rintro e w5 ⟨rfl, hb5⟩)
              | (go_at_call 10; (with_reducible refine (AWK.out _ (by repeat (first | with_reducible assumption | with_reducible refine Below.drew ?_ | with_reducible refine bel_alloc ?_ _ | with_reducible refine bel_drewN ?_ _))).mono ?_); rintro e w6 ⟨rfl, hb6⟩)
              | fail)
            all_goals go_wp2
            all_goals go_ret
            all_goals exact ⟨rfl, (by repeat (first | with_reducible assumption | with_reducible refine Below.drew ?_ | with_reducible refine bel_alloc ?_ _ | with_reducible refine bel_drewN ?_ _))⟩
          · have q2 : (byt s i == 57) = false := beq_false_of_ne y57
            clear y57
            replace LS : ∀ w', Below w.heap.size w w' → Calls Tryd.prog 13 #[.string (s.extract 0 (i - 1) ++ one (byt s i) ++ one (byt s (i - 1)) ++ s.extract (i + 1) s.size)] w' fun e w'' => e = .returned (.bool false) ∧ Below w.heap.size w w'' := fun w' h => by
              have := LS w' h
              simp only [q1, q2, q3, Bool.true_and, Bool.false_and, Bool.and_false, Bool.and_true, Bool.or_false, Bool.or_true, Bool.false_or, Bool.true_or] at this
              exact this
            replace LS := Lib.hid LS
            clear hd hlu hxy hi0
            generalize one (byt s i) = oy at *
            generalize one (byt s (i - 1)) = ox at *
            have v1 : ¬ 9223372036854775807 < (s.extract 0 (i - 1)).size + oy.size := by omega
            have v2 : ¬ 9223372036854775807 < (s.extract 0 (i - 1) ++ oy).size + ox.size := by omega
            have v3 : ¬ 9223372036854775807 < (s.extract 0 (i - 1) ++ oy ++ ox).size + (s.extract (i + 1) s.size).size := by omega
            have v4 : ¬ 9223372036854775807 < (s.extract 0 (i - 1)).size + oy.size + ox.size := by omega
            have v5 : ¬ 9223372036854775807 < (s.extract 0 (i - 1)).size + oy.size + ox.size + (s.extract (i + 1) s.size).size := by omega
            clear z1 z2 z3 z4 z5 z6
            generalize s.extract 0 (i - 1) = e1 at *
            generalize s.extract (i + 1) s.size = e4 at *
            go_wp2_with fail
            go_quiet (fail)
            go_wp2_with fail
            go_region_held3 (fun w' => Below w.heap.size w w') (repeat (first | with_reducible assumption | with_reducible refine Below.drew ?_ | with_reducible refine bel_alloc ?_ _ | with_reducible refine bel_drewN ?_ _)) (first
              | (go_at_call 13; (with_reducible refine (LS.out _ (by repeat (first | with_reducible assumption | with_reducible refine Below.drew ?_ | with_reducible refine bel_alloc ?_ _ | with_reducible refine bel_drewN ?_ _))).mono ?_); rintro e w5 ⟨rfl, hb5⟩)
              | (go_at_call 10; (with_reducible refine (AWK.out _ (by repeat (first | with_reducible assumption | with_reducible refine Below.drew ?_ | with_reducible refine bel_alloc ?_ _ | with_reducible refine bel_drewN ?_ _))).mono ?_); rintro e w6 ⟨rfl, hb6⟩)
              | fail)
            all_goals go_wp2
            all_goals go_ret
            all_goals exact ⟨rfl, (by repeat (first | with_reducible assumption | with_reducible refine Below.drew ?_ | with_reducible refine bel_alloc ?_ _ | with_reducible refine bel_drewN ?_ _))⟩
        · have q1 : (byt s (i - 1) == 48) = false := beq_false_of_ne x48
          clear x48
          by_cases x57 : byt s (i - 1) = 57
          · have q3 : (byt s (i - 1) == 57) = true := beq_iff_eq.2 x57
            clear x57
            by_cases y48 : byt s i = 48
            · have q4 : (byt s i == 48) = true := beq_iff_eq.2 y48
              clear y48
              replace LS : ∀ w', Below w.heap.size w w' → Calls Tryd.prog 13 #[.string (s.extract 0 (i - 1) ++ one (byt s i) ++ one (byt s (i - 1)) ++ s.extract (i + 1) s.size)] w' fun e w'' => e = .returned (.bool true) ∧ Below w.heap.size w w'' := fun w' h => by
                have := LS w' h
                simp only [q1, q3, q4, Bool.true_and, Bool.false_and, Bool.and_false, Bool.and_true, Bool.or_false, Bool.or_true, Bool.false_or, Bool.true_or] at this
                exact this
              replace LS := Lib.hid LS
              clear hd hlu hxy hi0
              generalize one (byt s i) = oy at *
              generalize one (byt s (i - 1)) = ox at *
              have v1 : ¬ 9223372036854775807 < (s.extract 0 (i - 1)).size + oy.size := by omega
              have v2 : ¬ 9223372036854775807 < (s.extract 0 (i - 1) ++ oy).size + ox.size := by omega
              have v3 : ¬ 9223372036854775807 < (s.extract 0 (i - 1) ++ oy ++ ox).size + (s.extract (i + 1) s.size).size := by omega
              have v4 : ¬ 9223372036854775807 < (s.extract 0 (i - 1)).size + oy.size + ox.size := by omega
              have v5 : ¬ 9223372036854775807 < (s.extract 0 (i - 1)).size + oy.size + ox.size + (s.extract (i + 1) s.size).size := by omega
              clear z1 z2 z3 z4 z5 z6
              generalize s.extract 0 (i - 1) = e1 at *
              generalize s.extract (i + 1) s.size = e4 at *
              go_wp2_with fail
              go_quiet (fail)
              go_wp2_with fail
              go_region_held3 (fun w' => Below w.heap.size w w') (repeat (first | with_reducible assumption | with_reducible refine Below.drew ?_ | with_reducible refine bel_alloc ?_ _ | with_reducible refine bel_drewN ?_ _)) (first
                | (go_at_call 13; (with_reducible refine (LS.out _ (by repeat (first | with_reducible assumption | with_reducible refine Below.drew ?_ | with_reducible refine bel_alloc ?_ _ | with_reducible refine bel_drewN ?_ _))).mono ?_); rintro e w5 ⟨rfl, hb5⟩)
                | (go_at_call 10; (with_reducible refine (AWK.out _ (by repeat (first | with_reducible assumption | with_reducible refine Below.drew ?_ | with_reducible refine bel_alloc ?_ _ | with_reducible refine bel_drewN ?_ _))).mono ?_); rintro e w6 ⟨rfl, hb6⟩)
                | fail)
              all_goals go_wp2
              all_goals go_ret
              all_goals exact ⟨rfl, (by repeat (first | with_reducible assumption | with_reducible refine Below.drew ?_ | with_reducible refine bel_alloc ?_ _ | with_reducible refine bel_drewN ?_ _))⟩
            · have q4 : (byt s i == 48) = false := beq_false_of_ne y48
              clear y48
              replace LS : ∀ w', Below w.heap.size w w' → Calls Tryd.prog 13 #[.string (s.extract 0 (i - 1) ++ one (byt s i) ++ one (byt s (i - 1)) ++ s.extract (i + 1) s.size)] w' fun e w'' => e = .returned (.bool false) ∧ Below w.heap.size w w'' := fun w' h => by
                have := LS w' h
                simp only [q1, q3, q4, Bool.true_and, Bool.false_and, Bool.and_false, Bool.and_true, Bool.or_false, Bool.or_true, Bool.false_or, Bool.true_or] at this
                exact this
              replace LS := Lib.hid LS
              clear hd hlu hxy hi0
              generalize one (byt s i) = oy at *
              generalize one (byt s (i - 1)) = ox at *
              have v1 : ¬ 9223372036854775807 < (s.extract 0 (i - 1)).size + oy.size := by omega
              have v2 : ¬ 9223372036854775807 < (s.extract 0 (i - 1) ++ oy).size + ox.size := by omega
              have v3 : ¬ 9223372036854775807 < (s.extract 0 (i - 1) ++ oy ++ ox).size + (s.extract (i + 1) s.size).size := by omega
              have v4 : ¬ 9223372036854775807 < (s.extract 0 (i - 1)).size + oy.size + ox.size := by omega
              have v5 : ¬ 9223372036854775807 < (s.extract 0 (i - 1)).size + oy.size + ox.size + (s.extract (i + 1) s.size).size := by omega
              clear z1 z2 z3 z4 z5 z6
              generalize s.extract 0 (i - 1) = e1 at *
              generalize s.extract (i + 1) s.size = e4 at *
              go_wp2_with fail
              go_quiet (fail)
              go_wp2_with fail
              go_region_held3 (fun w' => Below w.heap.size w w') (repeat (first | with_reducible assumption | with_reducible refine Below.drew ?_ | with_reducible refine bel_alloc ?_ _ | with_reducible refine bel_drewN ?_ _)) (first
                | (go_at_call 13; (with_reducible refine (LS.out _ (by repeat (first | with_reducible assumption | with_reducible refine Below.drew ?_ | with_reducible refine bel_alloc ?_ _ | with_reducible refine bel_drewN ?_ _))).mono ?_); rintro e w5 ⟨rfl, hb5⟩)
                | (go_at_call 10; (with_reducible refine (AWK.out _ (by repeat (first | with_reducible assumption | with_reducible refine Below.drew ?_ | with_reducible refine bel_alloc ?_ _ | with_reducible refine bel_drewN ?_ _))).mono ?_); rintro e w6 ⟨rfl, hb6⟩)
                | fail)
              all_goals go_wp2
              all_goals go_ret
              all_goals exact ⟨rfl, (by repeat (first | with_reducible assumption | with_reducible refine Below.drew ?_ | with_reducible refine bel_alloc ?_ _ | with_reducible refine bel_drewN ?_ _))⟩
          · have q3 : (byt s (i - 1) == 57) = false := beq_false_of_ne x57
            clear x57
            replace LS : ∀ w', Below w.heap.size w w' → Calls Tryd.prog 13 #[.string (s.extract 0 (i - 1) ++ one (byt s i) ++ one (byt s (i - 1)) ++ s.extract (i + 1) s.size)] w' fun e w'' => e = .returned (.bool false) ∧ Below w.heap.size w w'' := fun w' h => by
              have := LS w' h
              simp only [q1, q3, Bool.true_and, Bool.false_and, Bool.and_false, Bool.and_true, Bool.or_false, Bool.or_true, Bool.false_or, Bool.true_or] at this
              exact this
            replace LS := Lib.hid LS
            clear hd hlu hxy hi0
            generalize one (byt s i) = oy at *
            generalize one (byt s (i - 1)) = ox at *
            have v1 : ¬ 9223372036854775807 < (s.extract 0 (i - 1)).size + oy.size := by omega
            have v2 : ¬ 9223372036854775807 < (s.extract 0 (i - 1) ++ oy).size + ox.size := by omega
            have v3 : ¬ 9223372036854775807 < (s.extract 0 (i - 1) ++ oy ++ ox).size + (s.extract (i + 1) s.size).size := by omega
            have v4 : ¬ 9223372036854775807 < (s.extract 0 (i - 1)).size + oy.size + ox.size := by omega
            have v5 : ¬ 9223372036854775807 < (s.extract 0 (i - 1)).size + oy.size + ox.size + (s.extract (i + 1) s.size).size := by omega
            clear z1 z2 z3 z4 z5 z6
            generalize s.extract 0 (i - 1) = e1 at *
            generalize s.extract (i + 1) s.size = e4 at *
            go_wp2_with fail
            go_quiet (fail)
            go_wp2_with fail
            go_region_held3 (fun w' => Below w.heap.size w w') (repeat (first | with_reducible assumption | with_reducible refine Below.drew ?_ | with_reducible refine bel_alloc ?_ _ | with_reducible refine bel_drewN ?_ _)) (first
              | (go_at_call 13; (with_reducible refine (LS.out _ (by repeat (first | with_reducible assumption | with_reducible refine Below.drew ?_ | with_reducible refine bel_alloc ?_ _ | with_reducible refine bel_drewN ?_ _))).mono ?_); rintro e w5 ⟨rfl, hb5⟩)
              | (go_at_call 10; (with_reducible refine (AWK.out _ (by repeat (first | with_reducible assumption | with_reducible refine Below.drew ?_ | with_reducible refine bel_alloc ?_ _ | with_reducible refine bel_drewN ?_ _))).mono ?_); rintro e w6 ⟨rfl, hb6⟩)
              | fail)
            all_goals go_wp2
            all_goals go_ret
            all_goals exact ⟨rfl, (by repeat (first | with_reducible assumption | with_reducible refine Below.drew ?_ | with_reducible refine bel_alloc ?_ _ | with_reducible refine bel_drewN ?_ _))⟩

theorem own : ownKnob Tryd.prog.godebug = none := by kernel_rfl
theorem laidOut : laidOutB Tryd.prog = true := by kernel_rfl
theorem gPow : Tryd.prog.globalNamed "internal/strconv.uint64pow10" = some 3 := by kernel_rfl
theorem gPowType : (Tryd.prog.globals[3]?).map (·.type) = some 89 := by kernel_rfl
theorem cellsPow : Tryd.prog.cellsOf 89 = 20 := by kernel_rfl
theorem cellsU64 : Tryd.prog.cellsOf 65 = 1 := by kernel_rfl
theorem room {W : World} (h : Pow W) : 4 ≤ W.heap.size := by
  have hc := Lib.TabIs.cell h gPow 0 (by decide)
  rcases Nat.lt_or_ge 3 W.heap.size with hl | hl
  · omega
  · simp [World.cell?, Array.getElem?_eq_none hl] at hc
theorem table {W : World} (h : laidMetH Tryd.prog Rows.panDetectsRow.laid W) : Pow W ∧ 4 ≤ W.heap.size := by
  rw [MakeChecks.laidMetH_plain _ _ _ (by kernel_rfl)] at h
  have h1 := h
  have hp : Pow W := Lib.tabIs_of_head (k := .u64) (zs := Lib.pow10Tab) gPow gPowType Tryd.underlying89 Tryd.underlying65 cellsU64 cellsPow h1.tail.tail
  exact ⟨hp, room hp⟩

noncomputable def laidWorld (os : Os) : World := World.doorLaid Tryd.prog 400 os
theorem laid_met (os : Os) : laidMetH Tryd.prog Rows.panDetectsRow.laid ((laidWorld os).forCall (fun _ _ => 0) ⟨#[], #[.string ByteArray.empty, .int .u8 0, .int .u8 0], []⟩).memory :=
  laidMetH_of_parts3 (fuel := 8) (laidMet_of_run' 8 (by kernel_rfl) (by kernel_rfl)) (by kernel_rfl) (by kernel_rfl)
theorem reads (os : Os) {H : Type} (enc : TypeId × Value → H) : ∃ places, DataW.whole enc Tryd.prog ((laidWorld os).forCall (fun _ _ => 0) ⟨#[], #[.string ByteArray.empty, .int .u8 0, .int .u8 0], []⟩).memory Tryd.f7.params.toList Rows.panDetectsSpec.vars false (#[.string ByteArray.empty, .int .u8 0, .int .u8 0] : Array Value).toList 8 = some ([.lit (.string []), .lit (.int .u8 0), .lit (.int .u8 0)], [], places) :=
  ⟨[], by kernel_rfl⟩
set_option maxRecDepth 100000 in
theorem contract (H : Type) (enc : TypeId × Value → H) (W : World) (base : Nat) (args : Array Value) (ds gs : List (DataW H)) (before : List MemPlace)
    (hval0 : ∀ (j : Nat) t v, Tryd.f7.params[j]? = some t → args[j]? = some v → Value.okWide Tryd.prog W .any base t v)
    (hW : DataW.Whole enc Tryd.prog Tryd.f7.params.toList Rows.panDetectsSpec.vars false W args.toList ds gs before) (hL : laidMetH Tryd.prog Rows.panDetectsRow.laid W) :
    Calls Tryd.prog 7 args W fun e W' => ∃ v, e = .returned v ∧ Rows.panDetectsSpec.post enc Tryd.prog Tryd.f7 false true false false W args v W' := by
  have hval : ∀ (j : Nat) t v, Tryd.f7.params[j]? = some t → args[j]? = some v → Value.okWide Tryd.prog W .any base t v := hval0
  have hW' := hW
  obtain ⟨p, q, hA0, hV, rfl, hfz, hnd⟩ := hW
  have hA : DataW.TrodAll enc Tryd.prog W 0 (fun _ => true) true Tryd.f7.params.toList args.toList ds p := hA0
  rw [Tryd.params7] at hA hval
  obtain ⟨v0, vs0, d0, ds0, p0, q0, hargs, rfl, rfl, h0, r0⟩ := trodAll_cons hA
  obtain ⟨v1, vs1, d1, ds1, p1, q1, rfl, rfl, rfl, h1, r1⟩ := trodAll_cons r0
  obtain ⟨v2, vs2, d2, ds2, p2, q2, rfl, rfl, rfl, h2, r2⟩ := trodAll_cons r1
  obtain ⟨rfl, rfl, rfl⟩ := trodAll_nil r2
  obtain rfl : args = #[v0, v1, v2] := by cases args; simp_all
  obtain ⟨rfl, rfl⟩ := trodVars_none hV
  have k0 := h0
  have lt0 : ∀ x ∈ p0, x.block < W.heap.size := by obtain ⟨m, hm⟩ := k0; exact DataW.trod_lt m _ _ _ hm
  obtain ⟨a0, rfl, -, -, w0⟩ := open_string Tryd.underlying9 (hval 0 9 v0 rfl rfl) h0
  have k1 := h1
  have lt1 : ∀ x ∈ p1, x.block < W.heap.size := by obtain ⟨m, hm⟩ := k1; exact DataW.trod_lt m _ _ _ hm
  obtain ⟨a1, rfl, -, -, w1⟩ := open_int Tryd.underlying5 (hval 1 5 v1 rfl rfl) h1
  have k2 := h2
  have lt2 : ∀ x ∈ p2, x.block < W.heap.size := by obtain ⟨m, hm⟩ := k2; exact DataW.trod_lt m _ _ _ hm
  obtain ⟨a2, rfl, -, -, w2⟩ := open_int Tryd.underlying5 (hval 2 5 v2 rfl rfl) h2
  clear hA0 hval0
  refine (walk a0 a1 a2 W w0 w1 w2 (table hL)).mono fun e W' ⟨he, bel⟩ => ?_
  subst he
  exact ⟨_, rfl, _, _, _, [], _, [], hW', trodAll_mk1 (shut_bool Tryd.underlying4 _), (trodAll_cons_mk (Below.trod laidOut (by kernel_rfl) (of_decide_eq_true (by kernel_rfl)) k0 bel lt0) (trodAll_cons_mk (Below.trod laidOut (by kernel_rfl) (of_decide_eq_true (by kernel_rfl)) k1 bel lt1) (trodAll_cons_mk (Below.trod laidOut (by kernel_rfl) (of_decide_eq_true (by kernel_rfl)) k2 bel lt2) trodAll_mk0))), rfl, bel.frame _, fun h => by cases h⟩

set_option maxRecDepth 100000 in
theorem lifted (os : Os) (started : os.Started) (H : Type) (enc : TypeId × Value → H) (F : Stop.Interp) :
    ReturnsInHanded {} Tryd.checked os 7 .any ((OpenSpec.ofChange Rows.panDetectsSpec).preRow enc Tryd.prog Tryd.f7 Rows.panDetectsRow.domain false Rows.panDetectsRow.laid) (((OpenSpec.ofChange Rows.panDetectsSpec).at F).post enc Tryd.prog Tryd.f7 false true false false) := by
  obtain ⟨places, hx⟩ := reads os enc
  refine returnsInHanded_of_row (C := Tryd.checked) (s := OpenSpec.ofChange Rows.panDetectsSpec) own started (by kernel_rfl) Tryd.func7
    (witness_row_at (enc := enc) (C := Tryd.checked) false (laidWorld os) #[.string ByteArray.empty, .int .u8 0, .int .u8 0] rfl (by kernel_rfl) (by kernel_rfl) (by kernel_rfl)
      (OpenSpec.preRow_of_cond 8 hx (by kernel_rfl) (fun k hk => by cases hk) (by kernel_rfl) (laid_met os))) ?_
  intro W base args ds gs before hval hW _ _ _ hL _ _
  exact contract H enc W base args ds gs before hval hW hL
theorem said : Rows.PanDetectsSaid :=
  OpenClaim.holds_of_cond 7 Tryd.f7 rfl rfl rfl rfl rfl rfl rfl ⟨rfl, rfl, rfl, rfl, rfl⟩ rfl rfl rfl rfl rfl (by kernel_rfl) Tryd.func7 (by kernel_rfl)
    (of_decide_eq_true (by kernel_rfl)) (by unfold Func.isWrapper; first | (rw [if_pos (by decide +kernel)]; kernel_rfl) | (rw [if_neg (by decide +kernel)]; exact ⟨rfl, rfl⟩))
    (fun os started H enc _ F => by rw [OpenClaim.pre_eq_preRow]; exact lifted os started H enc F)
/-- No parameter wants a stand-in; the program's own looks are off. -/
theorem plain (f : FuncId) (fn : Func) (hf : Tryd.pinned.checked.prog.funcNamed "cardnet/cardnetlaw04.PanDetects" = some f) (hfn : Tryd.pinned.checked.prog.funcs[f]? = some fn) :
    true = Tryd.pinned.checked.prog.looks [] ∧ ∀ (j : Nat) t, fn.params[j]? = some t → Tryd.pinned.checked.prog.wantsStandIn t = false := by
  obtain rfl : f = 7 := Option.some.inj ((show Tryd.prog.funcNamed "cardnet/cardnetlaw04.PanDetects" = some 7 by kernel_rfl).symm.trans hf) |>.symm
  obtain rfl : fn = Tryd.f7 := (Option.some.inj (Tryd.func7.symm.trans hfn)).symm
  refine ⟨by kernel_rfl, fun j t ht => ?_⟩
  rw [Tryd.params7] at ht
  have hm : t ∈ [9, 5, 5] := by simpa using Array.mem_of_getElem? ht
  have hall : ([9, 5, 5].all fun u => !Tryd.prog.wantsStandIn u) = true := by kernel_rfl
  exact (show Tryd.prog.wantsStandIn t = false by simpa using List.all_eq_true.1 hall t hm)
/-- THE CARD: the statement. -/
theorem proved : Rows.PanDetectsCardSaid :=
  Claim7.holds_tied_plain_at .later [] _ _ _ _ said (fun _ h => by cases h) (by kernel_rfl) (fun _ h => by cases h) panDetects_row_tie rfl ⟨rfl, rfl⟩ (by kernel_rfl) rfl plain (by kernel_rfl)
#print axioms proved
end Go.Proofs.YtddnfjaogekmjaaDoor.panDetects
