/-
  CONTRACTS of the lexer: the specification's scanner.
-/
import Derived.Test.YtklogijbdpghpaaDoorLS2
namespace Go.Proofs.YtklogijbdpghpaaDoor
open Go.RowKit
set_option linter.unusedVariables false
set_option linter.unusedSimpArgs false
/-- The specification's scanner that stands at a lexeme. -/
structure RRep (w : World) (K E g c : Nat) (L : List Lx) (q : Nat) : Prop where
  blk : Blk w E 59 #[.slice (some ⟨g, q * 4, none⟩) (L.length - q) (c - q)]
  cells : ∀ i, i < L.length * 4 → w.cell? ⟨g, i, none⟩ = (lcells L)[i]?
  gl : g < w.heap.size
  gk : K ≤ g
  kd : K ≤ E
  ge : g ≠ E
  lq : q < L.length
  lc : L.length ≤ c
  ll : L.length ≤ 4001
theorem Kp.cell {S : Nat → Prop} {a b : World} (h : Kp S a b) {g : Nat} (hg : g < a.heap.size) (hn : ¬ S g) (i : Nat) : b.cell? ⟨g, i, none⟩ = a.cell? ⟨g, i, none⟩ := World.cell?_of_block (w := a) (h.block g hg hn)
theorem RRep.kp {w w' : World} {K E g c : Nat} {L : List Lx} {q : Nat} (h : RRep w K E g c L q) {S : Nat → Prop} (k : Kp S w w') (hn : ∀ i, (i = E ∨ i = g) → ¬ S i) : RRep w' K E g c L q :=
  ⟨k.blk h.blk (hn E (.inl rfl)), fun i hi => (World.cell?_of_block (w := w) (k.block g h.gl (hn g (.inr rfl)))).trans (h.cells i hi), Nat.lt_of_lt_of_le h.gl k.size, h.gk, h.kd, h.ge, h.lq, h.lc, h.ll⟩
theorem RRep.below {w w' : World} {K E g c : Nat} {L : List Lx} {q : Nat} (h : RRep w K E g c L q) (k : Below w.heap.size w w') : RRep w' K E g c L q :=
  h.kp (S := fun _ => False) (Kp.of k) (fun _ _ h => h)
set_option maxRecDepth 20000 in
theorem size_lex (W : World) : (sizeOf (Tryd.prog.elem 23)).run Tryd.prog W = .ok 4 W := by kernel_rfl
set_option maxRecDepth 20000 in
theorem sl_from (g o f U cap : Nat) (h1 : f ≤ U) (W : World) : (Instr.slice 23 (.slice (some ⟨g, o, none⟩) U cap) (some (.int .i64 (f : Int))) none none).run Tryd.prog W = .ok (.slice (some (if cap = f then ⟨g, o, none⟩ else (⟨g, o, none⟩ : Addr).add (f * 4))) (U - f) (cap - f)) W := by
  rw [run_slice_l W 23 (some ⟨g, o, none⟩) U cap Tryd.underlying23 .i64 (f : Int) (by omega) (by omega), size_lex]
  simp only [Result.andThen_ok, sliced, Int.toNat_natCast]
  split <;> rfl
theorem sl_next (g q n c : Nat) (h1 : 1 < n) (h2 : n ≤ c) (W : World) : (Instr.slice 23 (.slice (some ⟨g, q * 4, none⟩) n c) (some (.int .i64 1)) none none).run Tryd.prog W = .ok (.slice (some ⟨g, (q + 1) * 4, none⟩) (n - 1) (c - 1)) W := by
  have h := sl_from g (q * 4) 1 n c (by omega) W
  rw [if_neg (show ¬ c = 1 by omega)] at h
  have e : (⟨g, q * 4, none⟩ : Addr).add (1 * 4) = ⟨g, (q + 1) * 4, none⟩ := by
    unfold Addr.add
    split
    · simp_all
    · simp; omega
  rw [e] at h
  exact h
set_option maxHeartbeats 1600000 in
set_option maxRecDepth 10000 in
theorem rpeek_any {w : World} {K E g c : Nat} {L : List Lx} {q : Nat} (h : RRep w K E g c L q) {x : Lx} (hx : L[q]? = some x) : Calls Tryd.prog 20 #[.pointer (some ⟨E, 0, none⟩)] w fun e w' => e = .returned (lv x) ∧ Below w.heap.size w w' := by
  obtain ⟨c0, c1, c2, c3⟩ := lcells_at L hx
  have hlq := h.lq
  have y0 := (h.cells (q * 4) (by omega)).trans c0
  have y1 := (h.cells (q * 4 + 1) (by omega)).trans c1
  have y2 := (h.cells (q * 4 + 2) (by omega)).trans c2
  have y3 := (h.cells (q * 4 + 3) (by omega)).trans c3
  have hbl := h.blk
  have hgl := h.gl
  have b0 := hbl.cell 0
  simp at b0
  have hdl := hbl.lt
  have HB := Lib.hid ((Below.refl w.heap.size w).alloc (Nat.le_refl _) (.cells #[.int .i64 0, .string ⟨#[]⟩, .int .i64 0, .int .i64 0] 30))
  have HR := Lib.hid (Blk.new w 30 #[.int .i64 0, .string ⟨#[]⟩, .int .i64 0, .int .i64 0])
  obtain ⟨n, hn⟩ : ∃ n, n = L.length - q := ⟨_, rfl⟩
  obtain ⟨m, hm⟩ : ∃ m, m = c - q := ⟨_, rfl⟩
  rw [← hn, ← hm] at b0
  have e0 : ((n : Int) == 0) = false := beq_false_of_ne (by omega)
  have e1 : (n == 0) = false := beq_false_of_ne (by omega)
  have e2 : 0 < n := by omega
  obtain ⟨xk, xt, xn, xp⟩ := x
  simp only at y0 y1 y2 y3
  clear h c0 c1 c2 c3 hbl hx hlq hn hm
  go_enter Tryd.func20, Tryd.ntmps20
  go_wp2_with fail
  have hF := Blk.new w 30 #[.int .i64 xk, .string xt, .int .i64 xn, .int .i64 xp]
  have f0 := hF.cell 0
  have f1 := hF.cell 1
  have f2 := hF.cell 2
  have f3 := hF.cell 3
  simp at f0 f1 f2 f3
  exact bodyPost_ret (v := .agg #[.int .i64 xk, .string xt, .int .i64 xn, .int .i64 xp]) (by simp [results, Tryd.results20, go_sem]) rfl ⟨rfl, (Below.refl w.heap.size w).alloc (Nat.le_refl _) _⟩
set_option maxHeartbeats 1600000 in
set_option maxRecDepth 10000 in
theorem rnext_any {w : World} {K E g c : Nat} {L : List Lx} {q : Nat} (h : RRep w K E g c L q) {x : Lx} (hx : L[q]? = some x) (hq : x.k ≠ 0 → q + 1 < L.length) (hq0 : x.k = 0 → q + 1 = L.length) : Calls Tryd.prog 22 #[.pointer (some ⟨E, 0, none⟩)] w fun e w' => e = .returned (lv x) ∧ RRep w' K E g c L (if x.k = 0 then q else q + 1) ∧ Kp (fun i => i = E) w w' := by
  have hB : Below w.heap.size w (w.alloc (.cells #[.int .i64 0, .string ⟨#[]⟩, .int .i64 0, .int .i64 0] 30)) := (Below.refl _ _).alloc (Nat.le_refl _) _
  have hR : Blk (w.alloc (.cells #[.int .i64 0, .string ⟨#[]⟩, .int .i64 0, .int .i64 0] 30)) w.heap.size 30 #[.int .i64 0, .string ⟨#[]⟩, .int .i64 0, .int .i64 0] := Blk.new _ _ _
  have hP := h.below hB
  have HDW := Lib.hid (show E < w.heap.size ∧ g < w.heap.size from ⟨h.blk.lt, h.gl⟩)
  have HX := Lib.hid hx
  have HQ := Lib.hid hq
  have HQ0 := Lib.hid hq0
  have HB := Lib.hid hB
  have HR := Lib.hid hR
  have HP := Lib.hid hP
  clear h hx hq hq0 hB hR hP
  go_enter Tryd.func22, Tryd.ntmps22
  go_wp2_with fail
  generalize w.alloc (.cells #[.int .i64 0, .string ⟨#[]⟩, .int .i64 0, .int .i64 0] 30) = V at *
  refine (rpeek_any HP.out HX.out).mono ?_
  rintro e w2 ⟨rfl, hb⟩
  have HP2 := Lib.hid (HP.out.below hb)
  have HB2 := Lib.hid (HB.out.trans (hb.mono HB.out.size))
  have HR2 := Lib.hid (HR.out.below hb HR.out.lt)
  clear hb HP HB HR
  have hbl := HP2.out.blk
  obtain ⟨n, hn⟩ : ∃ n, n = L.length - q := ⟨_, rfl⟩
  obtain ⟨m, hm⟩ : ∃ m, m = c - q := ⟨_, rfl⟩
  have HN := Lib.hid hn
  have HM := Lib.hid hm
  rw [← hn, ← hm] at hbl
  have HBL := Lib.hid hbl
  have b0 := hbl.cell 0
  have bf0 := hbl.frozen 0
  have bl := hbl.lt
  have r0 := HR2.out.cell 0
  have r1 := HR2.out.cell 1
  have r2 := HR2.out.cell 2
  have r3 := HR2.out.cell 3
  have rf0 := HR2.out.frozen 0
  have rf1 := HR2.out.frozen 1
  have rf2 := HR2.out.frozen 2
  have rf3 := HR2.out.frozen 3
  have rl := HR2.out.lt
  simp at b0 r0 r1 r2 r3
  have hDR : ¬ E = w.heap.size := by have := HDW.out.1; omega
  have hDR2 : ¬ w.heap.size = E := by have := HDW.out.1; omega
  have hGR : ¬ g = w.heap.size := by have := HDW.out.2; omega
  have hmn : n ≤ m := by have := HP2.out.lc; omega
  clear hbl hn hm
  unfold lv
  obtain ⟨xk, xt, xn, xp⟩ := x
  by_cases hk : xk = 0
  · subst hk
    have hn1 : n = 1 := by have h1 := HQ0.out rfl; have := HN.out; omega
    have d1 : decide ((1 : Int) < (n : Int)) = false := decide_eq_false (by omega)
    have d2 : decide (1 < n) = false := decide_eq_false (by omega)
    clear hn1
    go_wp2_with fail
    have hF := ((((HR2.out.set_ 0 (.int .i64 0)).set_ 1 (.string xt)).set_ 2 (.int .i64 xn)).set_ 3 (.int .i64 xp)).alloc (.cells #[.int .i64 0, .string xt, .int .i64 xn, .int .i64 xp] 30)
    have f0 := hF.cell 0
    have f1 := hF.cell 1
    have f2 := hF.cell 2
    have f3 := hF.cell 3
    simp at f0 f1 f2 f3
    have hK := (((((Kp.refl (fun i => i = w.heap.size) w2).set (p := ⟨w.heap.size, 0, none⟩) (.inl rfl) (.int .i64 0)).set (p := ⟨w.heap.size, 1, none⟩) (.inl rfl) (.string xt)).set (p := ⟨w.heap.size, 2, none⟩) (.inl rfl) (.int .i64 xn)).set (p := ⟨w.heap.size, 3, none⟩) (.inl rfl) (.int .i64 xp)).alloc (.cells #[.int .i64 0, .string xt, .int .i64 xn, .int .i64 xp] 30)
    have hK2 := (((((Kp.of (S := fun i => i = E) HB2.out).set (p := ⟨w.heap.size, 0, none⟩) (.inr (Nat.le_refl _)) (.int .i64 0)).set (p := ⟨w.heap.size, 1, none⟩) (.inr (Nat.le_refl _)) (.string xt)).set (p := ⟨w.heap.size, 2, none⟩) (.inr (Nat.le_refl _)) (.int .i64 xn)).set (p := ⟨w.heap.size, 3, none⟩) (.inr (Nat.le_refl _)) (.int .i64 xp)).alloc (.cells #[.int .i64 0, .string xt, .int .i64 xn, .int .i64 xp] 30)
    refine bodyPost_ret (v := .agg #[.int .i64 0, .string xt, .int .i64 xn, .int .i64 xp]) (by simp [results, Tryd.results22, go_sem, f0, f1, f2, f3]) rfl ?_
    clear hF f0 f1 f2 f3
    exact ⟨rfl, HP2.out.kp hK (fun i hi => by rcases hi with rfl | rfl; exact hDR; exact hGR), hK2⟩
  · have d1 : decide ((1 : Int) < (n : Int)) = true := decide_eq_true (by have h1 := HQ.out hk; have := HN.out; omega)
    have d2 : decide (1 < n) = true := decide_eq_true (by have h1 := HQ.out hk; have := HN.out; omega)
    have hsl := fun W => sl_next g q n m (by have h1 := HQ.out hk; have := HN.out; omega) hmn W
    have HK := Lib.hid hk
    clear hk
    go_wp2_with fail
    have hF := (((((HR2.out.far (p := ⟨E, 0, none⟩) hDR2 (.slice (some ⟨g, (q + 1) * 4, none⟩) (n - 1) (m - 1))).set_ 0 (.int .i64 xk)).set_ 1 (.string xt)).set_ 2 (.int .i64 xn)).set_ 3 (.int .i64 xp)).alloc (.cells #[.int .i64 xk, .string xt, .int .i64 xn, .int .i64 xp] 30)
    have f0 := hF.cell 0
    have f1 := hF.cell 1
    have f2 := hF.cell 2
    have f3 := hF.cell 3
    simp at f0 f1 f2 f3
    have hblk := (((((HBL.out.set_ 0 (.slice (some ⟨g, (q + 1) * 4, none⟩) (n - 1) (m - 1))).far (p := ⟨w.heap.size, 0, none⟩) hDR (.int .i64 xk)).far (p := ⟨w.heap.size, 1, none⟩) hDR (.string xt)).far (p := ⟨w.heap.size, 2, none⟩) hDR (.int .i64 xn)).far (p := ⟨w.heap.size, 3, none⟩) hDR (.int .i64 xp)).alloc (.cells #[.int .i64 xk, .string xt, .int .i64 xn, .int .i64 xp] 30)
    have hK2 := ((((((Kp.of (S := fun i => i = E) HB2.out).set (p := ⟨E, 0, none⟩) (.inl rfl) (.slice (some ⟨g, (q + 1) * 4, none⟩) (n - 1) (m - 1))).set (p := ⟨w.heap.size, 0, none⟩) (.inr (Nat.le_refl _)) (.int .i64 xk)).set (p := ⟨w.heap.size, 1, none⟩) (.inr (Nat.le_refl _)) (.string xt)).set (p := ⟨w.heap.size, 2, none⟩) (.inr (Nat.le_refl _)) (.int .i64 xn)).set (p := ⟨w.heap.size, 3, none⟩) (.inr (Nat.le_refl _)) (.int .i64 xp)).alloc (.cells #[.int .i64 xk, .string xt, .int .i64 xn, .int .i64 xp] 30)
    have hK := ((((((Kp.refl (fun i => i = E ∨ i = w.heap.size) w2).set (p := ⟨E, 0, none⟩) (.inl (.inl rfl)) (.slice (some ⟨g, (q + 1) * 4, none⟩) (n - 1) (m - 1))).set (p := ⟨w.heap.size, 0, none⟩) (.inl (.inr rfl)) (.int .i64 xk)).set (p := ⟨w.heap.size, 1, none⟩) (.inl (.inr rfl)) (.string xt)).set (p := ⟨w.heap.size, 2, none⟩) (.inl (.inr rfl)) (.int .i64 xn)).set (p := ⟨w.heap.size, 3, none⟩) (.inl (.inr rfl)) (.int .i64 xp)).alloc (.cells #[.int .i64 xk, .string xt, .int .i64 xn, .int .i64 xp] 30)
    have hgg : ¬ (g = E ∨ g = w.heap.size) := fun hh => by rcases hh with hh | hh; exact HP2.out.ge hh; exact hGR hh
    have hn1 : L.length - (q + 1) = n - 1 := by have := HN.out; omega
    have hm1 : c - (q + 1) = m - 1 := by have := HM.out; omega
    have hcs : ((#[.slice (some ⟨g, q * 4, none⟩) n m] : Array Value).setIfInBounds 0 (.slice (some ⟨g, (q + 1) * 4, none⟩) (n - 1) (m - 1))) = #[.slice (some ⟨g, (q + 1) * 4, none⟩) (L.length - (q + 1)) (c - (q + 1))] := by rw [hn1, hm1]; rfl
    have hblk2 := hblk
    rw [hcs] at hblk2
    refine bodyPost_ret (v := .agg #[.int .i64 xk, .string xt, .int .i64 xn, .int .i64 xp]) (by simp [results, Tryd.results22, go_sem, f0, f1, f2, f3]) rfl ?_
    clear hF f0 f1 f2 f3
    exact ⟨rfl, ⟨hblk2, fun i hi => (hK.cell HP2.out.gl hgg i).trans (HP2.out.cells i hi), Nat.lt_of_lt_of_le HP2.out.gl hK.size, HP2.out.gk, HP2.out.kd, HP2.out.ge, HQ.out HK.out, HP2.out.lc, HP2.out.ll⟩, hK2⟩
set_option maxHeartbeats 1600000 in
set_option maxRecDepth 10000 in
theorem ris_any {w : World} {K E g c : Nat} {L : List Lx} {q : Nat} (h : RRep w K E g c L q) {x : Lx} (hx : L[q]? = some x) (hq : x.k ≠ 0 → q + 1 < L.length) (hq0 : x.k = 0 → q + 1 = L.length) (kind : Int) (t : ByteArray) {b : Bool} (hb : hitX x kind t = b) : Calls Tryd.prog 39 #[.pointer (some ⟨E, 0, none⟩), .int .i64 kind, .string t] w fun e w' => e = .returned (.bool b) ∧ RRep w' K E g c L (stepX x b q) ∧ Kp (fun i => i = E) w w' := by
  have HX := Lib.hid hx
  have HQ := Lib.hid hq
  have HQ0 := Lib.hid hq0
  have HP := Lib.hid h
  have HHB := Lib.hid hb
  clear h hx hq hq0 hb
  go_enter Tryd.func39, Tryd.ntmps39
  go_wp2_with fail
  refine (rpeek_any HP.out HX.out).mono ?_
  rintro e w2 ⟨rfl, hb⟩
  have HP2 := Lib.hid (HP.out.below hb)
  have HB2 := Lib.hid hb
  clear hb HP
  unfold lv
  obtain ⟨xk, xt, xn, xp⟩ := x
  have hA := Lib.hid ((Below.refl w2.heap.size w2).alloc (Nat.le_refl _) (.cells #[.int .i64 xk, .string xt, .int .i64 xn, .int .i64 xp] 30))
  have HP3 := Lib.hid (HP2.out.below hA.out)
  have HK3 : Hid (Kp (fun i => i = E) w (w2.alloc (.cells #[.int .i64 xk, .string xt, .int .i64 xn, .int .i64 xp] 30))) := Lib.hid ((Kp.of HB2.out).alloc _)
  clear hA
  by_cases hk : xk = kind
  · by_cases ht : xt = t
    · obtain rfl : b = true := HHB.out.symm.trans (decide_eq_true ⟨hk, ht⟩)
      subst hk ht
      have e1 : (xt.toList == xt.toList) = true := beq_self_eq_true _
      clear HHB
      go_wp2_with fail
      refine (rnext_any HP3.out HX.out HQ.out HQ0.out).mono ?_
      rintro e w4 ⟨rfl, hp, hkp⟩
      have HP4 := Lib.hid hp
      have HK4 := Lib.hid (HK3.out.trans (hkp.weak fun i hi => hi))
      clear hp hkp
      go_wp2_with fail
      go_ret
      exact ⟨rfl, HP4.out, HK4.out⟩
    · obtain rfl : b = false := HHB.out.symm.trans (decide_eq_false fun hh => ht hh.2)
      have e1 : (xt.toList == t.toList) = false := str_ne ht
      have e2 : (xt.toList != t.toList) = true := by unfold bne; rw [e1]; rfl
      subst hk
      clear HHB ht
      go_wp2_with fail
      go_ret
      exact ⟨rfl, HP3.out, HK3.out⟩
  · obtain rfl : b = false := HHB.out.symm.trans (decide_eq_false fun hh => hk hh.1)
    have e1 : (xk == kind) = false := beq_false_of_ne hk
    have e2 : (xk != kind) = true := by simp [hk]
    clear HHB hk
    go_wp2_with fail
    go_ret
    exact ⟨rfl, HP3.out, HK3.out⟩
theorem rsmark_any {w : World} {K E g c : Nat} {L : List Lx} {q : Nat} (h : RRep w K E g c L q) {x : Lx} (hx : L[q]? = some x) (hq : x.k ≠ 0 → q + 1 < L.length) (hq0 : x.k = 0 → q + 1 = L.length) (t : ByteArray) {b : Bool} (hb : hitX x 4 t = b) : Calls Tryd.prog 24 #[.pointer (some ⟨E, 0, none⟩), .string t] w fun e w' => e = .returned (.bool b) ∧ RRep w' K E g c L (stepX x b q) ∧ Kp (fun i => i = E) w w' := by
  have PA := Lib.hid (ris_any h hx hq hq0 4 t hb)
  clear h hx hq hq0 hb
  go_enter Tryd.func24, Tryd.ntmps24
  go_wp2_with fail
  refine PA.out.mono ?_
  rintro e w2 ⟨rfl, hp, hk⟩
  have HP := Lib.hid hp
  have HK := Lib.hid hk
  clear hp hk
  go_wp2_with fail
  go_ret
  exact ⟨rfl, HP.out, HK.out⟩
theorem rsword_any {w : World} {K E g c : Nat} {L : List Lx} {q : Nat} (h : RRep w K E g c L q) {x : Lx} (hx : L[q]? = some x) (hq : x.k ≠ 0 → q + 1 < L.length) (hq0 : x.k = 0 → q + 1 = L.length) (t : ByteArray) {b : Bool} (hb : hitX x 1 t = b) : Calls Tryd.prog 26 #[.pointer (some ⟨E, 0, none⟩), .string t] w fun e w' => e = .returned (.bool b) ∧ RRep w' K E g c L (stepX x b q) ∧ Kp (fun i => i = E) w w' := by
  have PA := Lib.hid (ris_any h hx hq hq0 1 t hb)
  clear h hx hq hq0 hb
  go_enter Tryd.func26, Tryd.ntmps26
  go_wp2_with fail
  refine PA.out.mono ?_
  rintro e w2 ⟨rfl, hp, hk⟩
  have HP := Lib.hid hp
  have HK := Lib.hid hk
  clear hp hk
  go_wp2_with fail
  go_ret
  exact ⟨rfl, HP.out, HK.out⟩
set_option maxHeartbeats 1600000 in
theorem rnew_ok (s : ByteArray) (hs : s.size ≤ 10000) (w : World)  {L : List Lx} {N : Nat} (hR : scS s = ⟨L, 0, 0⟩) (hG : Good L N) {K : Nat} (hK : K ≤ w.heap.size) : Calls Tryd.prog 18 #[.string s] w fun e w' => ∃ D g c, e = .returned (.tuple #[.pointer (some ⟨D, 0, none⟩), .int .i64 0, .int .i64 0]) ∧ RRep w' K D g c L 0 ∧ Below w.heap.size w w' := by
  have SC := Lib.hid (rscan_any s hs w hR)
  have HLN : L.length ≤ 4001 := by have := scS_len s; rw [hR] at this; exact this
  have HG := Lib.hid hG
  have HK := Lib.hid hK
  have HL := Lib.hid HLN
  clear hR hG hK HLN
  go_enter Tryd.func18, Tryd.ntmps18
  go_wp2_with fail
  refine SC.out.mono ?_
  rintro e w1 ⟨v, rfl, ho, hb⟩
  have HO := Lib.hid ho
  have HB := Lib.hid hb
  clear ho hb
  simp only at HO
  obtain ⟨A, c, hv, -, -, -⟩ := row_form HO.out
  subst hv
  go_wp2_with fail
  exact bodyPost_ret (v := .tuple #[.pointer (some ⟨w1.heap.size, 0, none⟩), .int .i64 0, .int .i64 0]) (by simp [results, Tryd.results18, go_sem]) rfl (by
    have hlen := HG.out.len
    have hal := (Below.refl w1.heap.size w1).alloc (Nat.le_refl _) (.cells #[.slice A L.length c] 59)
    obtain ⟨g, cap, e, hgk, hgl, hc⟩ := row_cells (row_mono HO.out HK.out) (by omega)
    injection e with e1 e2 e3
    subst e1 e3
    obtain ⟨A2, c2, e, hlc, -, -⟩ := row_form HO.out
    injection e with e1 e2 e3
    subst e3
    refine ⟨w1.heap.size, g, c, rfl, ⟨by rw [Nat.zero_mul]; exact Blk.new _ _ _, fun i hi => (hal.cell (p := ⟨g, i, none⟩) hgl).trans (hc i hi), Nat.lt_of_lt_of_le hgl hal.size, hgk, Nat.le_trans HK.out HB.out.size, by omega, by omega, hlc, HL.out⟩, HB.out.alloc HB.out.size _⟩)
set_option maxHeartbeats 1600000 in
theorem rnew_bad (s : ByteArray) (hs : s.size ≤ 10000) (w : World)  {e0 : Int} {p0 : Nat} (hR : scS s = ⟨[], e0, p0⟩) (he : e0 ≠ 0) : Calls Tryd.prog 18 #[.string s] w fun e w' => e = .returned (.tuple #[.pointer none, .int .i64 e0, .int .i64 (p0 : Int)]) ∧ Below w.heap.size w w' := by
  have SC := Lib.hid (rscan_any s hs w hR)
  have e1 : (e0 == 0) = false := beq_false_of_ne he
  have e2 : (e0 != 0) = true := by simp [he]
  clear hR he
  go_enter Tryd.func18, Tryd.ntmps18
  go_wp2_with fail
  refine SC.out.mono ?_
  rintro e w1 ⟨v, rfl, ho, hb⟩
  have HB := Lib.hid hb
  simp only at ho
  obtain ⟨A, c, hv, -, -, -⟩ := row_form ho
  subst hv
  clear ho hb
  go_wp2_with fail
  exact bodyPost_ret (v := .tuple #[.pointer none, .int .i64 e0, .int .i64 (p0 : Int)]) (by simp [results, Tryd.results18, go_sem]) rfl ⟨rfl, HB.out⟩
end Go.Proofs.YtklogijbdpghpaaDoor
