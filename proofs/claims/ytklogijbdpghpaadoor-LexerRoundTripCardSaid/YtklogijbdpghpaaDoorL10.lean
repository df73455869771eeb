/-
  CONTRACTS of the lexer: the program's scan.
-/
import Derived.Test.YtklogijbdpghpaaDoorLXS
namespace Go.Proofs.YtklogijbdpghpaaDoor
open Go.RowKit
set_option linter.unusedVariables false
set_option linter.unusedSimpArgs false
/-- What a scan leaves. -/
def ScanQ (w w' : World) (R : Res) (e : Ending) : Prop := ∃ v, e = .returned (.tuple #[v, .int .i64 R.e, .int .i64 (R.p : Int)]) ∧ w'.ownsRow w.heap.size 30 4 v R.l.length (lcells R.l) ∧ Below w.heap.size w w'
set_option maxHeartbeats 3200000 in
set_option maxRecDepth 5000 in
theorem scan_any (s : ByteArray) (hs : s.size ≤ 10000) (w : World) (hEr : Errs w) (h5 : 5 ≤ w.heap.size) {R : Res} (hR : scS s = R) : Calls Tryd.prog 10 #[.string s] w fun e w' => ScanQ w w' R e := by
  have HEr := Lib.hid hEr
  have H5 := Lib.hid h5
  obtain ⟨i, hi, hz, hz1, hz2⟩ := info_parts lex_info
  have HI := Lib.hid hi
  have HZ := Lib.hid hz
  have H1 := Lib.hid hz1
  have H2 := Lib.hid hz2
  clear hEr h5 hi hz hz1 hz2
  go_enter Tryd.func10, Tryd.ntmps10
  by_cases h4 : 4000 < s.size
  · have d1 : decide ((4000 : Int) < (s.size : Int)) = true := decide_eq_true (by omega)
    obtain rfl : R = ⟨[], 3, 0⟩ := by rw [← hR]; unfold scS; rw [if_pos h4]
    clear hR h4
    go_wp2_with fail
    exact bodyPost_ret (v := .tuple #[.slice none 0 0, .int .i64 3, .int .i64 0]) (by simp [results, Tryd.results10, go_sem]) rfl ⟨_, rfl, World.ownsRow_nil _ _ _ _, Below.refl _ _⟩
  have d1 : decide ((4000 : Int) < (s.size : Int)) = false := decide_eq_false (by omega)
  have HR : Hid (scP s (skP s false 0) [] = R) := Lib.hid (by rw [← hR]; unfold scS; rw [if_neg h4])
  have hs4 : s.size ≤ 4000 := by omega
  clear hR h4
  go_wp2_with fail
  clear d1
  obtain ⟨q0, hq0⟩ : ∃ q, skP s false 0 = q := ⟨_, rfl⟩
  have hq0l := skP_le s false 0 (Nat.zero_le _)
  refine (skip_any s hs 0 (Nat.zero_le _) hq0 _).mono ?_
  rintro e w1 ⟨rfl, rfl⟩
  rw [hq0] at HR hq0l
  clear hq0
  go_wp2_with fail
  go_loopw [5, 6] (fun vv v wr => ∃ (k : Nat) (L : List Lx), k ≤ s.size ∧ L.length ≤ k ∧ v = .int .i64 (k : Int) ∧ wr.ownsRow w.heap.size 30 4 vv L.length (lcells L) ∧ Below w.heap.size w wr ∧ Hid (scP s k L = R)) (fun _ v _ => s.size - (intOf v).toNat)
  case atStart => exact ⟨q0, [], hq0l.2, Nat.zero_le _, rfl, World.ownsRow_nil _ _ _ _, Below.refl _ _, HR⟩
  case round =>
    obtain ⟨k, L, hk, hL, rfl, hov, hB, HK⟩ := hrel
    have HOV := Lib.hid hov
    have HB := Lib.hid hB
    clear hov hB
    by_cases hlt : k < s.size
    · have hsl := fun w => sl_l s k (by omega) (i := (k : Int)) rfl w
      rw [show s.extract k s.size = off s k from rfl] at hsl
      have hoz := off_size s k
      have LA := Lib.hid (fun w h h5 => lexeme_any (off s k) (by omega) (by omega) w h h5)
      obtain ⟨le, ln, lx⟩ := lex_off s k hlt
      have HLE := Lib.hid le
      have HLN := Lib.hid ln
      have HLX := Lib.hid lx
      clear le ln lx hoz
      go_wp2_with fail
      refine (LA.out _ (HEr.out.later HB.out H5.out) (Nat.le_trans H5.out HB.out.size)).mono ?_
      rintro e w2 ⟨⟨x, n, rfl, hQ⟩, hb⟩
      rw [HLE.out] at hQ ⊢
      have HQ := Lib.hid hQ
      have hov2 := row_of HOV.out (fun j hj => hb.block j (row_lt HOV.out hj).2)
      have HOV2 := Lib.hid hov2
      have HB2 := Lib.hid (HB.out.trans (hb.mono HB.out.size))
      clear hQ hov2 hb HOV HB
      unfold lv
      obtain ⟨xk, xt, xn, xp⟩ := x
      by_cases he : lexE s k = 0
      · obtain ⟨hx, rfl⟩ := HQ.out he
        have hxx := HLX.out _ hx
        have hnn := HLN.out
        have hlt2 := lexN_lt s k hlt he
        obtain ⟨q, hq⟩ : ∃ q, skP s false (lexN s k) = q := ⟨_, rfl⟩
        have hql := skP_le s false (lexN s k) hlt2.2
        rw [hq] at hql
        have HNX : Hid (scP s q (L ++ [⟨xk, xt, xn, (k : Int)⟩]) = R) := Lib.hid (by rw [← HK.out, scP_go s k L hlt he, hq, ← hxx])
        obtain ⟨m, hm⟩ : ∃ m, lexN s k = m := ⟨_, rfl⟩
        rw [hm] at hq hnn hlt2 hql
        have HSK := Lib.hid (fun w => skip_any s hs m hlt2.2 hq w)
        have hmm : (k : Int) + ((lexN (off s k) 0 : Nat) : Int) = (m : Int) := by omega
        have hmb : ((lexN (off s k) 0 : Nat) : Int) ≤ 10000 := by omega
        generalize lexN (off s k) 0 = d at *
        rw [he]
        have HMM := Lib.hid (show k + 1 ≤ m by omega)
        clear hx hxx he hq hm HQ hlt2
        obtain ⟨A1, c1, hvv, -, -, -⟩ := row_form HOV2.out
        subst hvv
        generalize hM : L.length = M at *
        have HM := Lib.hid hM
        have HLN2 := Lib.hid (show M ≤ 4000 by omega)
        have HML := Lib.hid hL
        have HNW : Hid (∀ j u, [.int .i64 xk, .string xt, .int .i64 xn, .int .i64 (k : Int)][j]? = some u → ((w2.alloc (.cells #[.int .i64 xk, .string xt, .int .i64 xn, .int .i64 (k : Int)] 30)).alloc (.cells #[.int .i64 xk, .string xt, .int .i64 xn, .int .i64 (k : Int)] 30)).cell? ((⟨w2.heap.size + 1, 0, none⟩ : Addr).add j) = some u) := Lib.hid (by
          have := cell_four_new (w2.alloc (.cells #[.int .i64 xk, .string xt, .int .i64 xn, .int .i64 (k : Int)] 30)) (.int .i64 xk) (.string xt) (.int .i64 xn) (.int .i64 (k : Int)) 30
          simpa using this)
        clear hM
        go_wp2_with (at_builtin; refine wpList_append_own_at _ rfl _ _ 23 rfl w.heap.size 30 i (.agg #[.int .i64 0, .string ⟨#[]⟩, .int .i64 0, .int .i64 0]) 4 40 Tryd.underlying23 HI.out HZ.out H1.out H2.out rfl (by decide) _ M (lcells L) rfl (row_alloc (row_alloc HOV2.out _) _) ⟨w2.heap.size + 1, 0, none⟩ 1 1 [.int .i64 xk, .string xt, .int .i64 xn, .int .i64 (k : Int)] rfl rfl HNW.out (lcells_one [⟨xk, xt, xn, (k : Int)⟩]) (by have := HLN2.out; unfold maxLen; omega) (by have := HLN2.out; omega) (by have := HB2.out.size; simp; omega) ?_; intro v5 w5 ho hg hnil hl; obtain ⟨A5, k5, rfl, -, -, -⟩ := row_form ho; have HG := Lib.hid hg; have HOO := Lib.hid ho; clear hg ho hl hnil)
        clear hmm hmb
        refine (HSK.out _).mono ?_
        rintro e w6 ⟨rfl, rfl⟩
        go_wp2_with fail
        go_round
        case rel =>
          refine ⟨q, _, hql.2, ?_, by first | rfl | go_num, ?_, ?_, HNX⟩
          · rw [List.length_append, HM.out, List.length_singleton]
            have := HMM.out
            omega
          · rw [List.length_append, HM.out, lcells_app]
            exact HOO.out
          · have h1 := HB2.out.alloc HB2.out.size (.cells #[.int .i64 xk, .string xt, .int .i64 xn, .int .i64 (k : Int)] 30)
            have h2 := h1.alloc h1.size (.cells #[.int .i64 xk, .string xt, .int .i64 xn, .int .i64 (k : Int)] 30)
            exact h2.grown HG.out h2.size (fun j hj => (row_lt HOV2.out hj).1)
        case measure => have := HMM.out; simp [intOf]; omega
      · have HBD : Hid (R = ⟨[], lexE s k, k⟩) := Lib.hid (by rw [← HK.out, scP_bad s k L hlt he])
        have e1 : (lexE s k == 0) = false := beq_false_of_ne he
        have e2 : (lexE s k != 0) = true := by simp [he]
        generalize lexE s k = c at *
        clear he HQ HLX HLN HLE
        go_wp2_with fail
        exact bodyPost_ret (v := .tuple #[.slice none 0 0, .int .i64 c, .int .i64 (k : Int)]) (by simp [results, Tryd.results10, go_sem]) rfl ⟨_, by rw [HBD.out], by rw [HBD.out]; exact World.ownsRow_nil _ _ _ _, HB2.out.alloc HB2.out.size _⟩
    · obtain rfl : k = s.size := by omega
      have hend := HK.out
      rw [scP_end] at hend
      have HEND := Lib.hid hend
      obtain ⟨A1, c1, hvv, -, -, -⟩ := row_form HOV.out
      subst hvv
      generalize hM : L.length = M at *
      have HM := Lib.hid hM
      have HLN2 := Lib.hid (show M ≤ 4000 by omega)
      have HNW : Hid (∀ j u, [.int .i64 0, .string ⟨#[]⟩, .int .i64 0, .int .i64 (s.size : Int)][j]? = some u → (wr.alloc (.cells #[.int .i64 0, .string ⟨#[]⟩, .int .i64 0, .int .i64 (s.size : Int)] 30)).cell? ((⟨wr.heap.size, 0, none⟩ : Addr).add j) = some u) := Lib.hid (cell_four_new _ _ _ _ _ _)
      clear hM hend hL
      go_wp2_with (at_builtin; refine wpList_append_own_at _ rfl _ _ 23 rfl w.heap.size 30 i (.agg #[.int .i64 0, .string ⟨#[]⟩, .int .i64 0, .int .i64 0]) 4 40 Tryd.underlying23 HI.out HZ.out H1.out H2.out rfl (by decide) _ M (lcells L) rfl (row_alloc HOV.out _) ⟨wr.heap.size, 0, none⟩ 1 1 [.int .i64 0, .string ⟨#[]⟩, .int .i64 0, .int .i64 (s.size : Int)] rfl rfl HNW.out (lcells_one [⟨0, ⟨#[]⟩, 0, (s.size : Int)⟩]) (by have := HLN2.out; unfold maxLen; omega) (by have := HLN2.out; omega) (by have := HB.out.size; simp; omega) ?_; intro v5 w5 ho hg hnil hl; obtain ⟨A5, k5, rfl, -, -, -⟩ := row_form ho; have HG := Lib.hid hg; have HOO := Lib.hid ho; clear hg ho hl hnil)
      exact bodyPost_ret (v := .tuple #[.slice A5 (M + 1) k5, .int .i64 0, .int .i64 0]) (by simp [results, Tryd.results10, go_sem]) rfl ⟨_, by rw [← HEND.out]; rfl, by rw [← HEND.out]; show w5.ownsRow _ _ _ _ (L ++ [_]).length (lcells (L ++ [_])); rw [List.length_append, HM.out, lcells_app]; exact HOO.out, by (have h1 := HB.out.alloc HB.out.size (.cells #[.int .i64 0, .string ⟨#[]⟩, .int .i64 0, .int .i64 (s.size : Int)] 30)); exact h1.grown HG.out h1.size (fun j hj => (row_lt HOV.out hj).1)⟩
end Go.Proofs.YtklogijbdpghpaaDoor
