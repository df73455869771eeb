/-
  CONTRACTS of velocity's specification: Add, Forget, Last.
-/
import Derived.Test.YtkfiekpinojahabVR1
namespace Go.Proofs.Ytkfiekpinojahab.R
open Go.RowKit
set_option linter.unusedVariables false
set_option linter.unusedSimpArgs false
theorem row_mono {w : World} {K K' : Nat} {e : TypeId} {z n : Nat} {v : Value} {xs : List Value} (h : w.ownsRow K e z v n xs) (hK : K' ≤ K) : w.ownsRow K' e z v n xs := by
  obtain ⟨h1, h2⟩ := h
  refine ⟨h1, ?_⟩
  rcases h2 with h2 | ⟨g, cap, cur, e, hb, h3⟩
  · exact .inl h2
  · exact .inr ⟨g, cap, cur, e, by omega, h3⟩
theorem kepS_le (us : List UR) (b : Int) : (kepS us b).length ≤ us.length := List.length_filter_le _ _
def addRS (s : VS) (k : ByteArray) (a m : Int) : VS := ⟨s.hor, a, kepS s.us (a - s.hor) ++ [⟨k, a, m⟩]⟩
def addF (s : VS) (k : ByteArray) (a m : Int) : Int :=
  if k.size = 0 ∨ 40 < k.size then 5 else if ¬ tim a ∨ a < s.last then 14 else if m < 0 ∨ 999999999999 < m then 4 else if 1000 ≤ (kepS s.us (a - s.hor)).length then 12 else 0
def addH (s : VS) (k : ByteArray) (a m : Int) : VS := if addF s k a m = 0 then addRS s k a m else s
set_option maxHeartbeats 3200000 in
set_option maxRecDepth 5000 in
theorem add_t {K D : Nat} {v : Value} {s : VS} {w : World} (hr : Rep w K D v s) (k : ByteArray) (a m : Int) (ok : AddOk s k a m) : Calls Try.prog 11 #[.pointer (some ⟨D, 0, none⟩), .string k, .int .i64 a, .int .i64 m] w fun e w' => (1000 ≤ (kepS s.us (a - s.hor)).length → e = .returned (.int .i64 12) ∧ Left w w' K D v v s) ∧ ((kepS s.us (a - s.hor)).length < 1000 → e = .returned (.int .i64 0) ∧ ∃ v', Left w w' K D v v' (addRS s k a m)) := by
  have IT := Lib.hid (fun w => time_any a (b := true) (decide_eq_true (show tim a from ⟨ok.a0, ok.aM⟩)) w)
  have hd := hr.win
  have hlt := hd.lt
  have d2 := hd.cell 2
  simp at d2
  have a1 : decide (a < s.last) = false := decide_eq_false (by have := ok.al; omega)
  have a2 : decide (m < 0) = false := decide_eq_false (by have := ok.m0; omega)
  have a3 : decide (999999999999 < m) = false := decide_eq_false (by have := ok.mM; omega)
  have a4 : decide ((40 : Int) < (k.size : Int)) = false := decide_eq_false (by have := ok.k40; omega)
  have k1 := str_eq0 (s := k) (by have := ok.k0; omega)
  have KA := Lib.hid (kept_any hr a ok.a0 ok.aM)
  have HR := Lib.hid hr
  have HOK := Lib.hid ok
  clear hr hd ok
  go_enter Try.func11, Try.ntmps11
  go_wp2_with fail
  refine (IT.out _).mono ?_
  rintro e w1 ⟨rfl, rfl⟩
  go_wp2_with fail
  refine KA.out.mono ?_
  rintro e w1 ⟨v1, rfl, ho1, hB1⟩
  obtain ⟨A1, c1, rfl, -, -, -⟩ := row_form ho1
  have HR1 := Lib.hid (HR.out.below hB1)
  have HB1 := Lib.hid hB1
  clear ho1 hB1
  have hkl := kepS_le s.us (a - s.hor)
  have hlu := HR.out.lu
  obtain ⟨r, hr0⟩ : ∃ r, r = (kepS s.us (a - s.hor)).length := ⟨_, rfl⟩
  rw [← hr0] at hkl ⊢
  have HR0 := Lib.hid hr0
  clear hr0
  by_cases hf : 1000 ≤ r
  · have g1 : decide ((1000 : Int) ≤ (r : Int)) = true := decide_eq_true (by omega)
    have HF := Lib.hid hf
    go_wp2_with fail
    go_ret
    exact ⟨fun _ => ⟨rfl, Left.same HR.out HB1.out⟩, fun h => absurd HF.out (by have := HR0.out; omega)⟩
  · have g1 : decide ((1000 : Int) ≤ (r : Int)) = false := decide_eq_false (by omega)
    have HR1000 : Hid (r < 1000) := Lib.hid (by omega)
    have KA2 := Lib.hid (kept_any HR1.out a HOK.out.a0 HOK.out.aM)
    have hl1 := HR1.out.win.lt
    have HL1 := Lib.hid hl1
    clear hf
    go_wp2_with fail
    refine KA2.out.mono ?_
    rintro e w2 ⟨v2, rfl, ho2, hB2⟩
    rw [← HR0.out] at ho2
    obtain ⟨A2, c2, rfl, -, -, -⟩ := row_form ho2
    have HDV := Lib.hid (show (Value.slice A2 r c2).ownBlock ≠ some D from fun e => by have := (row_lt ho2 e).1; have := HL1.out; omega)
    have HR2 := Lib.hid (HR1.out.below hB2)
    have hd2 := HR2.out.win
    have p2 := hd2.cell 2
    have p1 := hd2.cell 1
    simp at p1 p2
    have pf1 := hd2.frozen 1
    have pf2 := hd2.frozen 2
    have hlt2 := hd2.lt
    have HD2 := Lib.hid hd2
    have HO2 := Lib.hid ho2
    have HB2 := Lib.hid hB2
    have HS2 := Lib.hid hB2.size
    obtain ⟨i, hi, hz, hz1, hz2⟩ := info_parts use_info
    have HI := Lib.hid hi
    have HZ := Lib.hid hz
    have H1 := Lib.hid hz1
    have H2 := Lib.hid hz2
    clear ho2 hB2 hd2 hi hz hz1 hz2
    go_wp2_with (at_builtin; refine wpList_append_own_at _ rfl _ _ 53 rfl w1.heap.size 62 i (.agg #[.string ⟨#[]⟩, .int .i64 0, .int .i64 0]) 3 32 Try.underlying53 HI.out HZ.out H1.out H2.out rfl (by decide) _ r (ucells (kepS s.us (a - s.hor))) rfl (row_alloc HO2.out _) ⟨w2.heap.size, 0, none⟩ 1 1 [.string k, .int .i64 a, .int .i64 m] rfl rfl (cell_three_new _ _ _ _ _) (ucells_one [⟨k, a, m⟩]) (by have := HR1000.out; unfold maxLen; omega) (by have := HR1000.out; omega) (by have := HS2.out; simp; omega) ?_; intro v5 w5 ho hg hnil hl; obtain ⟨A5, k5, rfl, -, -, -⟩ := row_form ho; have hD5 := Lib.hid ((HD2.out.alloc (.cells #[.string k, .int .i64 a, .int .i64 m] 62)).grown hg (fun e => HDV.out e.symm)); have g2 := hD5.out.cell 2; have gf2 := hD5.out.frozen 2; have g1' := hD5.out.cell 1; have gf1 := hD5.out.frozen 1; have gl := hD5.out.lt; simp at g2 g1'; have HG := Lib.hid hg; have HOO := Lib.hid ho; have HLL := Lib.hid hl; clear hg ho hl hnil)
    go_ret
    have hown : ∀ j, (Value.slice A5 (r + 1) k5).ownBlock = some j → w1.heap.size ≤ j := fun j hj => (row_lt HOO.out hj).1
    have hdv : (Value.slice A5 (r + 1) k5).ownBlock ≠ some D := fun e => by
      have h1 := hown D e
      have h2 := HL1.out
      omega
    have h0 := HR.out
    refine ⟨fun h => absurd HR1000.out (by have := HR0.out; omega), fun _ => ⟨rfl, .slice A5 (r + 1) k5, ?_⟩⟩
    refine ⟨⟨(hD5.out.set_ 1 (.slice A5 (r + 1) k5)).set_ 2 (.int .i64 a), ?_, hdv, h0.kd, h0.lh, h0.hh, HOK.out.a0, HOK.out.aM, ?_, ?_⟩, ?_, fun j hj => .inr (Nat.le_trans HB1.out.size (hown j hj))⟩
    · have h1 := row_set (row_set HOO.out (p := ⟨D, 1, none⟩) hdv (.slice A5 (r + 1) k5)) (p := ⟨D, 2, none⟩) hdv (.int .i64 a)
      unfold addRS
      simp only [List.length_append, List.length_cons, List.length_nil, ucells_app, ← HR0.out]
      exact row_mono h1 (by have := h0.kd; have := h0.win.lt; have := HB1.out.size; omega)
    · have := HR1000.out
      unfold addRS
      simp only [List.length_append, List.length_cons, List.length_nil, ← HR0.out]
      omega
    · intro x hx
      rcases List.mem_append.1 hx with hx | hx
      · exact h0.ok x (List.mem_filter.1 hx).1
      · rw [List.mem_singleton.1 hx]
        exact ⟨HOK.out.k40, HOK.out.a0, HOK.out.aM, HOK.out.m0, HOK.out.mM⟩
    · have hk : Kp (Own D v) w w2 := (Kp.of HB1.out).trans (Kp.of HB2.out)
      exact (((hk.alloc _).grown HG.out (fun j hj => .inr (Nat.le_trans HB1.out.size (row_lt HO2.out hj).1))).set (p := ⟨D, 1, none⟩) (.inl (.inl rfl)) _).set (p := ⟨D, 2, none⟩) (.inl (.inl rfl)) _
theorem addF_ok {s : VS} {k : ByteArray} {a m : Int} (h : addF s k a m = 0) : AddOk s k a m ∧ (kepS s.us (a - s.hor)).length < 1000 := by
  unfold addF at h
  split at h
  · omega
  · split at h
    · omega
    · split at h
      · omega
      · split at h
        · omega
        · rename_i h1 h2 h3 h4
          have ht : tim a := by
            by_cases ht : tim a
            · exact ht
            · exact absurd (.inl ht) h2
          exact ⟨⟨by omega, by omega, ht.1, ht.2, by omega, by omega, by omega⟩, by omega⟩
set_option maxRecDepth 5000 in
theorem add_gen {K D : Nat} {v : Value} {s : VS} {w : World} (hr : Rep w K D v s) (k : ByteArray) (a m : Int) {c : Int} (hc : addF s k a m = c) : Calls Try.prog 11 #[.pointer (some ⟨D, 0, none⟩), .string k, .int .i64 a, .int .i64 m] w fun e w' => e = .returned (.int .i64 c) ∧ ∃ v', Left w w' K D v v' (addH s k a m) := by
  by_cases h0 : c = 0
  · subst h0
    obtain ⟨ok, hf⟩ := addF_ok hc
    have hg : addH s k a m = addRS s k a m := by unfold addH; rw [if_pos hc]
    rw [hg]
    exact (add_t hr k a m ok).mono fun e w' h => h.2 hf
  have HG : Hid (addH s k a m = s) := Lib.hid (by unfold addH; rw [hc, if_neg h0])
  have HL := Lib.hid (Left.same hr (Below.refl _ _))
  have HE := Lib.hid hc
  have H0 := Lib.hid h0
  clear hc h0
  have hd := hr.win
  have hlt := hd.lt
  have d0 := hd.cell 0
  have d1 := hd.cell 1
  have d2 := hd.cell 2
  simp at d0 d1 d2
  by_cases hk0 : k.size = 0
  · have HX : Hid (c = 5) := Lib.hid (by rw [← HE.out]; unfold addF; rw [if_pos (.inl hk0)])
    obtain rfl : k = ⟨#[]⟩ := by
      apply ByteArray.ext
      exact Array.eq_empty_of_size_eq_zero hk0
    clear hk0
    clear hr hd d0 d1
    go_enter Try.func11, Try.ntmps11
    go_wp2_with fail
    go_ret
    exact ⟨ret_eq HX.out, v, by rw [HG.out]; exact HL.out⟩
  have k1 := str_eq0 (s := k) hk0
  by_cases hk40 : 40 < k.size
  · have HX : Hid (c = 5) := Lib.hid (by rw [← HE.out]; unfold addF; rw [if_pos (.inr hk40)])
    have a4 : decide ((40 : Int) < (k.size : Int)) = true := decide_eq_true (by omega)
    clear hk0 hk40
    clear hr hd d0 d1
    go_enter Try.func11, Try.ntmps11
    go_wp2_with fail
    go_ret
    exact ⟨ret_eq HX.out, v, by rw [HG.out]; exact HL.out⟩
  have a4 : decide ((40 : Int) < (k.size : Int)) = false := decide_eq_false (by omega)
  by_cases ht : tim a
  case neg =>
    have HX : Hid (c = 14) := Lib.hid (by rw [← HE.out]; unfold addF; rw [if_neg (by omega), if_pos (.inl ht)])
    have IT := Lib.hid (fun w => time_any a (b := false) (decide_eq_false ht) w)
    clear hk0 hk40 ht
    clear hr hd d0 d1
    go_enter Try.func11, Try.ntmps11
    go_wp2_with fail
    refine (IT.out _).mono ?_
    rintro e w1 ⟨rfl, rfl⟩
    go_wp2_with fail
    go_ret
    exact ⟨ret_eq HX.out, v, by rw [HG.out]; exact HL.out⟩
  have IT := Lib.hid (fun w => time_any a (b := true) (decide_eq_true ht) w)
  by_cases hla : a < s.last
  · have HX : Hid (c = 14) := Lib.hid (by rw [← HE.out]; unfold addF; rw [if_neg (by omega), if_pos (.inr hla)])
    have a1 : decide (a < s.last) = true := decide_eq_true hla
    clear hk0 hk40 ht hla
    clear hr hd d0 d1
    go_enter Try.func11, Try.ntmps11
    go_wp2_with fail
    refine (IT.out _).mono ?_
    rintro e w1 ⟨rfl, rfl⟩
    go_wp2_with fail
    go_ret
    exact ⟨ret_eq HX.out, v, by rw [HG.out]; exact HL.out⟩
  have a1 : decide (a < s.last) = false := decide_eq_false hla
  by_cases hm0 : m < 0
  · have HX : Hid (c = 4) := Lib.hid (by rw [← HE.out]; unfold addF; rw [if_neg (by omega), if_neg (by rintro (h | h); exact h ht; exact hla h), if_pos (.inl hm0)])
    have a2 : decide (m < 0) = true := decide_eq_true hm0
    clear hk0 hk40 ht hla hm0
    clear hr hd d0 d1
    go_enter Try.func11, Try.ntmps11
    go_wp2_with fail
    refine (IT.out _).mono ?_
    rintro e w1 ⟨rfl, rfl⟩
    go_wp2_with fail
    go_ret
    exact ⟨ret_eq HX.out, v, by rw [HG.out]; exact HL.out⟩
  have a2 : decide (m < 0) = false := decide_eq_false hm0
  by_cases hmM : 999999999999 < m
  · have HX : Hid (c = 4) := Lib.hid (by rw [← HE.out]; unfold addF; rw [if_neg (by omega), if_neg (by rintro (h | h); exact h ht; exact hla h), if_pos (.inr hmM)])
    have a3 : decide (999999999999 < m) = true := decide_eq_true hmM
    clear hk0 hk40 ht hla hm0 hmM
    clear hr hd d0 d1
    go_enter Try.func11, Try.ntmps11
    go_wp2_with fail
    refine (IT.out _).mono ?_
    rintro e w1 ⟨rfl, rfl⟩
    go_wp2_with fail
    go_ret
    exact ⟨ret_eq HX.out, v, by rw [HG.out]; exact HL.out⟩
  by_cases hfu : 1000 ≤ (kepS s.us (a - s.hor)).length
  · have hX : c = 12 := by rw [← HE.out]; unfold addF; rw [if_neg (by omega), if_neg (by rintro (h | h); exact h ht; exact hla h), if_neg (by omega), if_pos hfu]
    rw [hX, HG.out]
    exact (add_t hr k a m ⟨by omega, by omega, ht.1, ht.2, by omega, by omega, by omega⟩).mono fun e w' h => ⟨(h.1 hfu).1, v, (h.1 hfu).2⟩
  · have hX : c = 0 := by rw [← HE.out]; unfold addF; rw [if_neg (by omega), if_neg (by rintro (h | h); exact h ht; exact hla h), if_neg (by omega), if_neg hfu]
    exfalso
    exact H0.out hX
def forM (s : VS) (a : Int) : List UR := if tim a then kepS s.us (a - s.hor) else s.us
set_option maxRecDepth 5000 in
theorem forget_gen {K D : Nat} {v : Value} {s : VS} {w : World} (hr : Rep w K D v s) (a : Int) {c : Int} (hc : (s.us.length : Int) - ((forM s a).length : Int) = c) : Calls Try.prog 19 #[.pointer (some ⟨D, 0, none⟩), .int .i64 a] w fun e w' => e = .returned (.int .i64 c) ∧ ∃ v', Left w w' K D v v' { s with us := forM s a } := by
  by_cases ht : tim a
  · have hfm : forM s a = kepS s.us (a - s.hor) := by unfold forM; rw [if_pos ht]
    rw [hfm] at hc ⊢
    have IT := Lib.hid (fun w => time_any a (b := true) (decide_eq_true ht) w)
    have hd := hr.win
    have hlt := hd.lt
    have d1 := hd.cell 1
    simp at d1
    obtain ⟨A0, c0, hv, -, -, -⟩ := row_form hr.row
    rw [hv] at d1
    have hlu := hr.lu
    have hkl := kepS_le s.us (a - s.hor)
    have KA := Lib.hid (kept_any hr a ht.1 ht.2)
    have HR := Lib.hid hr
    have HC := Lib.hid hc
    obtain ⟨r, hr0⟩ : ∃ r, r = (kepS s.us (a - s.hor)).length := ⟨_, rfl⟩
    rw [← hr0] at hkl
    have HR0 := Lib.hid hr0
    generalize hU : s.us.length = U at *
    have HU := Lib.hid hU
    have hsub : (U : Int) - (r : Int) = c := by rw [hr0]; exact hc
    have hwr : wrap64 c = c := by unfold wrap64; omega
    clear hr hd hv hr0 hc ht hfm hU
    go_enter Try.func19, Try.ntmps19
    go_wp2_with fail
    refine (IT.out _).mono ?_
    rintro e w1 ⟨rfl, rfl⟩
    go_wp2_with fail
    refine KA.out.mono ?_
    rintro e w2 ⟨v2, rfl, ho2, hB2⟩
    rw [← HR0.out] at ho2
    obtain ⟨A2, c2, rfl, -, -, -⟩ := row_form ho2
    have HDV := Lib.hid (show (Value.slice A2 r c2).ownBlock ≠ some D from fun e => by have := (row_lt ho2 e).1; omega)
    have HR2 := Lib.hid (HR.out.below hB2)
    have hd2 := HR2.out.win
    have p1 := hd2.cell 1
    simp at p1
    have pf1 := hd2.frozen 1
    have hlt2 := hd2.lt
    have HD2 := Lib.hid hd2
    have HO2 := Lib.hid ho2
    have HB2 := Lib.hid hB2
    have HS := Lib.hid (hd2.set_ 1 (.slice A2 r c2))
    have s1 := HS.out.cell 1
    have sl := HS.out.lt
    simp at s1
    clear ho2 hB2 hd2
    go_wp2_with fail
    go_ret
    have h0 := HR.out
    refine ⟨rfl, .slice A2 r c2, ⟨HS.out, ?_, HDV.out, h0.kd, h0.lh, h0.hh, h0.ll, h0.hl, ?_, ?_⟩, ?_, fun j hj => .inr (row_lt HO2.out hj).1⟩
    · have h1 := row_set HO2.out (p := ⟨D, 1, none⟩) HDV.out (.slice A2 r c2)
      simp only [← HR0.out]
      exact row_mono h1 (by have := h0.kd; have := h0.win.lt; omega)
    · show (kepS s.us (a - s.hor)).length ≤ 1000
      rw [← HR0.out]; omega
    · intro x hx
      exact h0.ok x (List.mem_filter.1 hx).1
    · have hk : Kp (Own D v) w w2 := Kp.of HB2.out
      exact hk.set (p := ⟨D, 1, none⟩) (.inl (.inl rfl)) _
  · have hfm : forM s a = s.us := by unfold forM; rw [if_neg ht]
    rw [hfm, Int.sub_self] at hc
    rw [hfm]
    subst hc
    have IT := Lib.hid (fun w => time_any a (b := false) (decide_eq_false ht) w)
    have HL := Lib.hid (Left.same hr (Below.refl _ _))
    have hlt := hr.win.lt
    clear hr ht hfm
    go_enter Try.func19, Try.ntmps19
    go_wp2_with fail
    refine (IT.out _).mono ?_
    rintro e w1 ⟨rfl, rfl⟩
    go_wp2_with fail
    go_ret
    exact ⟨rfl, v, HL.out⟩
end Go.Proofs.Ytkfiekpinojahab.R
