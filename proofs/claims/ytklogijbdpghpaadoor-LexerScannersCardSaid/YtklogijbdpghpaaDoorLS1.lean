/-
  CONTRACTS of the lexer: the program's scanner.
-/
import Derived.Test.YtklogijbdpghpaaDoorLXQ
import Derived.StillTailTactics
namespace Go.Proofs.YtklogijbdpghpaaDoor
open Go.RowKit
set_option linter.unusedVariables false
set_option linter.unusedSimpArgs false
/-- A scanner that stands at a lexeme. -/
structure PRep (w : World) (K D : Nat) (v : Value) (L : List Lx) (q : Nat) : Prop where
  blk : Blk w D 57 #[v, .int .i64 (q : Int)]
  row : w.ownsRow K 30 4 v L.length (lcells L)
  dv : v.ownBlock ≠ some D
  kd : K ≤ D
  lq : q < L.length
  ll : L.length ≤ 4001
theorem PRep.kp {w w' : World} {K D : Nat} {v : Value} {L : List Lx} {q : Nat} (h : PRep w K D v L q) {S : Nat → Prop} (k : Kp S w w') (hn : ∀ i, (i = D ∨ v.ownBlock = some i) → ¬ S i) : PRep w' K D v L q :=
  ⟨k.blk h.blk (hn D (.inl rfl)), k.row h.row (fun i hi => hn i (.inr hi)), h.dv, h.kd, h.lq, h.ll⟩
theorem PRep.below {w w' : World} {K D : Nat} {v : Value} {L : List Lx} {q : Nat} (h : PRep w K D v L q) (k : Below w.heap.size w w') : PRep w' K D v L q :=
  h.kp (S := fun _ => False) (Kp.of k) (fun _ _ h => h)
set_option maxHeartbeats 1600000 in
set_option maxRecDepth 10000 in
theorem peek_any {w : World} {K D : Nat} {v : Value} {L : List Lx} {q : Nat} (h : PRep w K D v L q) {x : Lx} (hx : L[q]? = some x) : Calls Tryd.prog 19 #[.pointer (some ⟨D, 0, none⟩)] w fun e w' => e = .returned (lv x) ∧ Below w.heap.size w w' := by
  obtain ⟨g, cap, rfl, -, hgl, hc⟩ := row_cells h.row (by have := h.lq; omega)
  obtain ⟨c0, c1, c2, c3⟩ := lcells_at L hx
  have hlq := h.lq
  have hll := h.ll
  have y0 := (hc (q * 4) (by omega)).trans c0
  have y1 := (hc (q * 4 + 1) (by omega)).trans c1
  have y2 := (hc (q * 4 + 2) (by omega)).trans c2
  have y3 := (hc (q * 4 + 3) (by omega)).trans c3
  have hbl := h.blk
  have b0 := hbl.cell 0
  have b1 := hbl.cell 1
  simp at b0 b1
  have hdl := hbl.lt
  obtain ⟨xk, xt, xn, xp⟩ := x
  simp only at y0 y1 y2 y3
  generalize hM : L.length = M at *
  clear h hc c0 c1 c2 c3 hbl hx hM
  have d1 : decide ((M : Int) ≤ (q : Int)) = false := decide_eq_false (by omega)
  have d2 : decide (M ≤ q) = false := decide_eq_false (by omega)
  go_enter Tryd.func19, Tryd.ntmps19
  go_wp2_with fail
  have hR : Blk (w.alloc (.cells #[.int .i64 0, .string ⟨#[]⟩, .int .i64 0, .int .i64 0] 30)) w.heap.size 30 #[.int .i64 0, .string ⟨#[]⟩, .int .i64 0, .int .i64 0] := Blk.new _ _ _
  have hB : Below w.heap.size w (w.alloc (.cells #[.int .i64 0, .string ⟨#[]⟩, .int .i64 0, .int .i64 0] 30)) := (Below.refl _ _).alloc (Nat.le_refl _) _
  have HR := Lib.hid hR
  have HB := Lib.hid hB
  replace y0 := (hB.cell hgl).trans y0
  replace y1 := (hB.cell hgl).trans y1
  replace y2 := (hB.cell hgl).trans y2
  replace y3 := (hB.cell hgl).trans y3
  replace b0 := (hB.cell hdl).trans b0
  replace b1 := (hB.cell hdl).trans b1
  clear hR hB
  have hgl2 : g < w.heap.size := hgl
  generalize w.alloc (.cells #[.int .i64 0, .string ⟨#[]⟩, .int .i64 0, .int .i64 0] 30) = V at *
  go_quiet (fail)
  go_wp2_with fail
  generalize hW : V.drewN nq = W
  have HR2 : Hid (Blk W.drew w.heap.size 30 #[.int .i64 0, .string ⟨#[]⟩, .int .i64 0, .int .i64 0]) := Lib.hid (by rw [← hW]; exact (HR.out.drewN nq).drew)
  have HB2 : Hid (Below w.heap.size w W.drew) := Lib.hid (by rw [← hW]; exact (bel_drewN HB.out nq).drew)
  have hcell : ∀ a, V.cell? a = W.cell? a := fun a => by rw [← hW]; rfl
  rw [hcell] at y0 y1 y2 y3 b0 b1
  have r0 : W.cell? ⟨w.heap.size, 0, none⟩ = some (.int .i64 0) := HR2.out.cell 0
  have rl : w.heap.size < W.heap.size := HR2.out.lt
  clear hW HR HB
  go_still_tail 10, (by kernel_rfl)
  change wpList _ _ _ _ _ W.drew
  clear r0 rl y0 y1 y2 y3 b0 b1
  generalize W.drew = W2 at *
  have r0 := HR2.out.cell 0
  have r1 := HR2.out.cell 1
  have r2 := HR2.out.cell 2
  have r3 := HR2.out.cell 3
  have rf0 := HR2.out.frozen 0
  have rf1 := HR2.out.frozen 1
  have rf2 := HR2.out.frozen 2
  have rf3 := HR2.out.frozen 3
  have rl := HR2.out.lt
  simp at r0 r1 r2 r3
  go_wp2_with fail
  clear r0 r1 r2 r3 rf0 rf1 rf2 rf3 rl
  have hF := (((((HR2.out).set_ 0 (.int .i64 xk)).set_ 1 (.string xt)).set_ 2 (.int .i64 xn)).set_ 3 (.int .i64 xp))
  have f0 := hF.cell 0
  have f1 := hF.cell 1
  have f2 := hF.cell 2
  have f3 := hF.cell 3
  simp at f0 f1 f2 f3
  exact bodyPost_ret (v := .agg #[.int .i64 xk, .string xt, .int .i64 xn, .int .i64 xp]) (by simp [results, Tryd.results19, go_sem, f0, f1, f2, f3]) rfl ⟨rfl, ((((HB2.out.setCell (Nat.le_refl _) _).setCell (Nat.le_refl _) _).setCell (Nat.le_refl _) _).setCell (Nat.le_refl _) _)⟩
set_option maxHeartbeats 1600000 in
set_option maxRecDepth 10000 in
theorem next_any {w : World} {K D : Nat} {v : Value} {L : List Lx} {q : Nat} (h : PRep w K D v L q) {x : Lx} (hx : L[q]? = some x) (hq : x.k ≠ 0 → q + 1 < L.length) : Calls Tryd.prog 21 #[.pointer (some ⟨D, 0, none⟩)] w fun e w' => e = .returned (lv x) ∧ PRep w' K D v L (if x.k = 0 then q else q + 1) ∧ Kp (fun i => i = D) w w' := by
  have hB : Below w.heap.size w (w.alloc (.cells #[.int .i64 0, .string ⟨#[]⟩, .int .i64 0, .int .i64 0] 30)) := (Below.refl _ _).alloc (Nat.le_refl _) _
  have hR : Blk (w.alloc (.cells #[.int .i64 0, .string ⟨#[]⟩, .int .i64 0, .int .i64 0] 30)) w.heap.size 30 #[.int .i64 0, .string ⟨#[]⟩, .int .i64 0, .int .i64 0] := Blk.new _ _ _
  have hP := h.below hB
  have HDW := Lib.hid (show D < w.heap.size from h.blk.lt)
  have HOW : Hid (∀ i, v.ownBlock = some i → i ≠ w.heap.size) := Lib.hid fun i hi => by have := (row_lt h.row hi).2; omega
  have HX := Lib.hid hx
  have HQ := Lib.hid hq
  have HB := Lib.hid hB
  have HR := Lib.hid hR
  have HP := Lib.hid hP
  clear h hx hq hB hR hP
  go_enter Tryd.func21, Tryd.ntmps21
  go_wp2_with fail
  generalize w.alloc (.cells #[.int .i64 0, .string ⟨#[]⟩, .int .i64 0, .int .i64 0] 30) = V at *
  refine (peek_any HP.out HX.out).mono ?_
  rintro e w2 ⟨rfl, hb⟩
  have HP2 := Lib.hid (HP.out.below hb)
  have HB2 := Lib.hid (HB.out.trans (hb.mono HB.out.size))
  have HR2 := Lib.hid (HR.out.below hb HR.out.lt)
  clear hb HP HB HR
  have hbl := HP2.out.blk
  have b0 := hbl.cell 0
  have b1 := hbl.cell 1
  have bf1 := hbl.frozen 1
  have bl := hbl.lt
  have r0 := HR2.out.cell 0
  have r1 := HR2.out.cell 1
  have r2 := HR2.out.cell 2
  have r3 := HR2.out.cell 3
  have rf0 := HR2.out.frozen 0
  have rf1 := HR2.out.frozen 1
  have rf2 := HR2.out.frozen 2
  have rf3 := HR2.out.frozen 3
  have rl := HR2.out.lt
  simp at b0 b1 r0 r1 r2 r3
  have hDR : ¬ D = w.heap.size := by have := HDW.out; omega
  have hDR2 : ¬ w.heap.size = D := by have := HDW.out; omega
  have hqb : q ≤ 4001 := by have h1 := HP2.out.lq; have h2 := HP2.out.ll; omega
  clear hbl
  unfold lv
  obtain ⟨xk, xt, xn, xp⟩ := x
  by_cases hk : xk = 0
  · subst hk
    go_wp2_with fail
    have hF := (((((HR2.out.set_ 0 (.int .i64 0)).set_ 1 (.string xt)).set_ 2 (.int .i64 xn)).set_ 3 (.int .i64 xp)).alloc (.cells #[.int .i64 0, .string xt, .int .i64 xn, .int .i64 xp] 30))
    have f0 := hF.cell 0
    have f1 := hF.cell 1
    have f2 := hF.cell 2
    have f3 := hF.cell 3
    simp at f0 f1 f2 f3
    have hK := (((((Kp.refl (fun i => i = w.heap.size) w2).set (p := ⟨w.heap.size, 0, none⟩) (.inl rfl) (.int .i64 0)).set (p := ⟨w.heap.size, 1, none⟩) (.inl rfl) (.string xt)).set (p := ⟨w.heap.size, 2, none⟩) (.inl rfl) (.int .i64 xn)).set (p := ⟨w.heap.size, 3, none⟩) (.inl rfl) (.int .i64 xp)).alloc (.cells #[.int .i64 0, .string xt, .int .i64 xn, .int .i64 xp] 30)
    have hK2 := (((((Kp.of (S := fun i => i = D) HB2.out).set (p := ⟨w.heap.size, 0, none⟩) (.inr (Nat.le_refl _)) (.int .i64 0)).set (p := ⟨w.heap.size, 1, none⟩) (.inr (Nat.le_refl _)) (.string xt)).set (p := ⟨w.heap.size, 2, none⟩) (.inr (Nat.le_refl _)) (.int .i64 xn)).set (p := ⟨w.heap.size, 3, none⟩) (.inr (Nat.le_refl _)) (.int .i64 xp)).alloc (.cells #[.int .i64 0, .string xt, .int .i64 xn, .int .i64 xp] 30)
    exact bodyPost_ret (v := .agg #[.int .i64 0, .string xt, .int .i64 xn, .int .i64 xp]) (by simp [results, Tryd.results21, go_sem, f0, f1, f2, f3]) rfl ⟨rfl, HP2.out.kp hK (fun i hi => by rcases hi with rfl | hi; exact hDR; exact HOW.out i hi), hK2⟩
  · have e1 : (xk == 0) = false := beq_false_of_ne hk
    have e2 : (xk != 0) = true := by simp [hk]
    have HK := Lib.hid hk
    clear hk
    go_wp2_with fail
    have hF := ((((((HR2.out.far (p := ⟨D, 1, none⟩) hDR2 (.int .i64 ((q : Int) + 1))).set_ 0 (.int .i64 xk)).set_ 1 (.string xt)).set_ 2 (.int .i64 xn)).set_ 3 (.int .i64 xp)).alloc (.cells #[.int .i64 xk, .string xt, .int .i64 xn, .int .i64 xp] 30))
    have f0 := hF.cell 0
    have f1 := hF.cell 1
    have f2 := hF.cell 2
    have f3 := hF.cell 3
    simp at f0 f1 f2 f3
    have hblk := (((((HP2.out.blk.set_ 1 (.int .i64 ((q : Int) + 1))).far (p := ⟨w.heap.size, 0, none⟩) hDR (.int .i64 xk)).far (p := ⟨w.heap.size, 1, none⟩) hDR (.string xt)).far (p := ⟨w.heap.size, 2, none⟩) hDR (.int .i64 xn)).far (p := ⟨w.heap.size, 3, none⟩) hDR (.int .i64 xp)).alloc (.cells #[.int .i64 xk, .string xt, .int .i64 xn, .int .i64 xp] 30)
    have hrow := row_alloc (row_set (row_set (row_set (row_set (row_set HP2.out.row (p := ⟨D, 1, none⟩) HP2.out.dv (.int .i64 ((q : Int) + 1))) (p := ⟨w.heap.size, 0, none⟩) (fun h => HOW.out _ h rfl) (.int .i64 xk)) (p := ⟨w.heap.size, 1, none⟩) (fun h => HOW.out _ h rfl) (.string xt)) (p := ⟨w.heap.size, 2, none⟩) (fun h => HOW.out _ h rfl) (.int .i64 xn)) (p := ⟨w.heap.size, 3, none⟩) (fun h => HOW.out _ h rfl) (.int .i64 xp)) (.cells #[.int .i64 xk, .string xt, .int .i64 xn, .int .i64 xp] 30)
    have hK2 := ((((((Kp.of (S := fun i => i = D) HB2.out).set (p := ⟨D, 1, none⟩) (.inl rfl) (.int .i64 ((q : Int) + 1))).set (p := ⟨w.heap.size, 0, none⟩) (.inr (Nat.le_refl _)) (.int .i64 xk)).set (p := ⟨w.heap.size, 1, none⟩) (.inr (Nat.le_refl _)) (.string xt)).set (p := ⟨w.heap.size, 2, none⟩) (.inr (Nat.le_refl _)) (.int .i64 xn)).set (p := ⟨w.heap.size, 3, none⟩) (.inr (Nat.le_refl _)) (.int .i64 xp)).alloc (.cells #[.int .i64 xk, .string xt, .int .i64 xn, .int .i64 xp] 30)
    exact bodyPost_ret (v := .agg #[.int .i64 xk, .string xt, .int .i64 xn, .int .i64 xp]) (by simp [results, Tryd.results21, go_sem, f0, f1, f2, f3]) rfl ⟨rfl, ⟨hblk, hrow, HP2.out.dv, HP2.out.kd, HQ.out HK.out, HP2.out.ll⟩, hK2⟩
def hitX (x : Lx) (kind : Int) (t : ByteArray) : Bool := decide (x.k = kind ∧ x.t = t)
def stepX (x : Lx) (b : Bool) (q : Nat) : Nat := if b = true then (if x.k = 0 then q else q + 1) else q
set_option maxHeartbeats 1600000 in
set_option maxRecDepth 10000 in
theorem pass_any {w : World} {K D : Nat} {v : Value} {L : List Lx} {q : Nat} (h : PRep w K D v L q) {x : Lx} (hx : L[q]? = some x) (hq : x.k ≠ 0 → q + 1 < L.length) (kind : Int) (t : ByteArray) {b : Bool} (hb : hitX x kind t = b) : Calls Tryd.prog 38 #[.pointer (some ⟨D, 0, none⟩), .int .i64 kind, .string t] w fun e w' => e = .returned (.bool b) ∧ PRep w' K D v L (stepX x b q) ∧ Kp (fun i => i = D) w w' := by
  have HX := Lib.hid hx
  have HQ := Lib.hid hq
  have HP := Lib.hid h
  have HHB := Lib.hid hb
  clear h hx hq hb
  go_enter Tryd.func38, Tryd.ntmps38
  go_wp2_with fail
  refine (peek_any HP.out HX.out).mono ?_
  rintro e w2 ⟨rfl, hb⟩
  have HP2 := Lib.hid (HP.out.below hb)
  have HB2 := Lib.hid hb
  clear hb HP
  unfold lv
  obtain ⟨xk, xt, xn, xp⟩ := x
  have hA := Lib.hid ((Below.refl w2.heap.size w2).alloc (Nat.le_refl _) (.cells #[.int .i64 xk, .string xt, .int .i64 xn, .int .i64 xp] 30))
  have HP3 := Lib.hid (HP2.out.below hA.out)
  have HK3 : Hid (Kp (fun i => i = D) w (w2.alloc (.cells #[.int .i64 xk, .string xt, .int .i64 xn, .int .i64 xp] 30))) := Lib.hid ((Kp.of HB2.out).alloc _)
  clear hA
  by_cases hk : xk = kind
  · by_cases ht : xt = t
    · obtain rfl : b = true := HHB.out.symm.trans (decide_eq_true ⟨hk, ht⟩)
      subst hk ht
      have e1 : (xt.toList == xt.toList) = true := beq_self_eq_true _
      clear HHB
      go_wp2_with fail
      refine (next_any HP3.out HX.out HQ.out).mono ?_
      rintro e w4 ⟨rfl, hp, hkp⟩
      have HP4 := Lib.hid hp
      have HK4 := Lib.hid (HK3.out.trans (hkp.weak fun i hi => hi))
      clear hp hkp
      go_wp2_with fail
      go_ret
      exact ⟨rfl, HP4.out, HK4.out⟩
    · obtain rfl : b = false := HHB.out.symm.trans (decide_eq_false fun hh => ht hh.2)
      have e1 : (xt.toList == t.toList) = false := str_ne ht
      have e2 : (xt.toList != t.toList) = true := by unfold bne; rw [e1]; rfl
      subst hk
      clear HHB ht
      go_wp2_with fail
      go_ret
      exact ⟨rfl, HP3.out, HK3.out⟩
  · obtain rfl : b = false := HHB.out.symm.trans (decide_eq_false fun hh => hk hh.1)
    have e1 : (xk == kind) = false := beq_false_of_ne hk
    have e2 : (xk != kind) = true := by simp [hk]
    clear HHB hk
    go_wp2_with fail
    go_ret
    exact ⟨rfl, HP3.out, HK3.out⟩
theorem pmark_any {w : World} {K D : Nat} {v : Value} {L : List Lx} {q : Nat} (h : PRep w K D v L q) {x : Lx} (hx : L[q]? = some x) (hq : x.k ≠ 0 → q + 1 < L.length) (t : ByteArray) {b : Bool} (hb : hitX x 4 t = b) : Calls Tryd.prog 23 #[.pointer (some ⟨D, 0, none⟩), .string t] w fun e w' => e = .returned (.bool b) ∧ PRep w' K D v L (stepX x b q) ∧ Kp (fun i => i = D) w w' := by
  have PA := Lib.hid (pass_any h hx hq 4 t hb)
  clear h hx hq hb
  go_enter Tryd.func23, Tryd.ntmps23
  go_wp2_with fail
  refine PA.out.mono ?_
  rintro e w2 ⟨rfl, hp, hk⟩
  have HP := Lib.hid hp
  have HK := Lib.hid hk
  clear hp hk
  go_wp2_with fail
  go_ret
  exact ⟨rfl, HP.out, HK.out⟩
theorem pword_any {w : World} {K D : Nat} {v : Value} {L : List Lx} {q : Nat} (h : PRep w K D v L q) {x : Lx} (hx : L[q]? = some x) (hq : x.k ≠ 0 → q + 1 < L.length) (t : ByteArray) {b : Bool} (hb : hitX x 1 t = b) : Calls Tryd.prog 25 #[.pointer (some ⟨D, 0, none⟩), .string t] w fun e w' => e = .returned (.bool b) ∧ PRep w' K D v L (stepX x b q) ∧ Kp (fun i => i = D) w w' := by
  have PA := Lib.hid (pass_any h hx hq 1 t hb)
  clear h hx hq hb
  go_enter Tryd.func25, Tryd.ntmps25
  go_wp2_with fail
  refine PA.out.mono ?_
  rintro e w2 ⟨rfl, hp, hk⟩
  have HP := Lib.hid hp
  have HK := Lib.hid hk
  clear hp hk
  go_wp2_with fail
  go_ret
  exact ⟨rfl, HP.out, HK.out⟩
end Go.Proofs.YtklogijbdpghpaaDoor
