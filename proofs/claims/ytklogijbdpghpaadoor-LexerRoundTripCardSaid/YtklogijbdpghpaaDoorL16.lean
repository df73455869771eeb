/-
  CONTRACTS of the lexer: what lexemes are printed as, of both.
-/
import Derived.Test.YtklogijbdpghpaaDoorL15
import Derived.Lib.AppendIntMem
namespace Go.Proofs.YtklogijbdpghpaaDoor
open Go.Joins Go.ChangeShapes Go.WideShapes Go.RowKit Go.Deep
set_option linter.unusedVariables false
set_option linter.unusedSimpArgs false
theorem Pow.later {w w' : World} {B : Nat} (h : Pow w) (hb : Below B w w') (hB : 5 ≤ B) : Pow w' := by
  unfold Pow Lib.TabIs World.var? at *
  obtain ⟨k, hk, hk8⟩ : ∃ k, (Tryd.prog).globalNamed "internal/strconv.uint64pow10" = some k ∧ k < 5 := ⟨_, (by kernel_rfl : _ = some 0), by decide⟩
  simp only [hk, Option.bind_some] at h ⊢
  rw [hb.block k (by omega)]
  exact h
set_option maxHeartbeats 3200000 in
set_option maxRecDepth 5000 in
theorem print_any (A : Option Addr) (n c : Nat) (L : List Lx) (w : World) (hS : Lxs w w.heap.size A n L) (hok : ∀ x ∈ L, okW x) (hn : n ≤ 5000) (hP : Pow w) (h5 : 5 ≤ w.heap.size) : Calls Tryd.prog 13 #[.slice A n c] w fun e w' => e = .returned (.string (printS L)) ∧ Below w.heap.size w w' := by
  have HS := Lib.hid hS
  have HOK := Lib.hid hok
  have HP := Lib.hid hP
  have HP5 := Lib.hid h5
  have HLEN := Lib.hid hS.1
  obtain ⟨i, hi, hz, hz1, hz2⟩ := info_parts str_info
  have HI := Lib.hid hi
  have HZ := Lib.hid hz
  have H1 := Lib.hid hz1
  have H2 := Lib.hid hz2
  have HJ := Lib.hid (join_le hok (by rw [hS.1]; omega))
  clear hS hok hP h5 hi hz hz1 hz2
  go_enter Tryd.func13, Tryd.ntmps13
  go_wp2_with fail
  go_loopw [3, 8] (fun vv v wr => ∃ k : Nat, k ≤ n ∧ v = .int .i64 (k : Int) ∧ wr.ownsRow w.heap.size 9 1 vv (wordsS (L.take k)).length (strV (wordsS (L.take k))) ∧ Below w.heap.size w wr) (fun _ v _ => n - (intOf v).toNat)
  case atStart => exact ⟨0, Nat.zero_le _, rfl, World.ownsRow_nil _ _ _ _, Below.refl _ _⟩
  case round =>
    obtain ⟨k, hk, rfl, hov, hB⟩ := hrel
    have HOV := Lib.hid hov
    have HB := Lib.hid hB
    by_cases hlt : k < n
    · obtain ⟨ad, x, p, rfl, hx, hp, hpb, q0, q1, q2, q3⟩ := Lxs.at (HS.out.below hB) hlt
      have hpl : p.block < wr.heap.size := by have := hB.size; omega
      have HT := Lib.hid (wordsS_take hx)
      have hxo := HOK.out x (List.mem_of_getElem? hx)
      obtain ⟨xk, xt, xn, xp⟩ := x
      simp only at q0 q1 q2 q3
      have HXN := Lib.hid hxo.2
      have hxt : xt.size ≤ 10000 := hxo.1
      obtain ⟨A1, c1, hvv, -, -, -⟩ := row_form HOV.out
      subst hvv
      have hwl : (wordsS (L.take k)).length ≤ 5000 := by have h1 := wordsS_len (L.take k); rw [List.length_take] at h1; omega
      generalize hM : (wordsS (L.take k)).length = M at *
      have HM := Lib.hid hM
      have HLN2 := Lib.hid hwl
      clear hov hB hx hxo hM hwl hpb
      rcases (show xk = 1 ∨ xk = 4 ∨ xk = 2 ∨ xk = 3 ∨ (xk ≠ 1 ∧ xk ≠ 4 ∧ xk ≠ 2 ∧ xk ≠ 3) by omega) with rfl | rfl | rfl | rfl | ⟨k1, k4, k2, k3⟩
      · have HWS : Hid (wordsS (L.take (k + 1)) = wordsS (L.take k) ++ [xt]) := Lib.hid (by rw [HT.out]; rfl)
        have HNW : Hid (∀ j u, [Value.string xt][j]? = some u → ((wr.alloc (.cells #[.int .i64 1, .string xt, .int .i64 xn, .int .i64 xp] 30)).alloc (.cells #[.string xt] 9)).cell? ((⟨wr.heap.size + 1, 0, none⟩ : Addr).add j) = some u) := Lib.hid (by
          have := cell_one_new (wr.alloc (.cells #[.int .i64 1, .string xt, .int .i64 xn, .int .i64 xp] 30)) (.string xt) 9
          simpa using this)
        go_wp2_with (at_builtin; refine wpList_append_own_at _ rfl _ _ 51 rfl w.heap.size 9 i (.string ⟨#[]⟩) 1 16 Tryd.underlying51 HI.out HZ.out H1.out H2.out rfl (by decide) _ M (strV (wordsS (L.take k))) rfl (row_alloc (row_alloc HOV.out _) _) ⟨wr.heap.size + 1, 0, none⟩ 1 1 [.string xt] rfl rfl HNW.out (strV_one [xt]) (by have := HLN2.out; unfold maxLen; omega) (by have := HLN2.out; omega) (by have := HB.out.size; simp; omega) ?_; intro v5 w5 ho hg hnil hl; obtain ⟨A5, k5, rfl, -, -, -⟩ := row_form ho; have HG := Lib.hid hg; have HOO := Lib.hid ho; clear hg ho hl hnil)
        go_round
        case rel =>
          refine ⟨k + 1, by omega, by go_num, ?_, ?_⟩
          · rw [HWS.out, List.length_append, HM.out, strV, List.map_append]
            exact HOO.out
          · have h0 := HB.out.alloc HB.out.size (.cells #[.int .i64 1, .string xt, .int .i64 xn, .int .i64 xp] 30)
            have h1 := h0.alloc h0.size (.cells #[.string xt] 9)
            exact h1.grown HG.out h1.size (fun j hj => (row_lt HOV.out hj).1)
        case measure => simp [intOf]; omega
      · have HWS : Hid (wordsS (L.take (k + 1)) = wordsS (L.take k) ++ [xt]) := Lib.hid (by rw [HT.out]; rfl)
        have HNW : Hid (∀ j u, [Value.string xt][j]? = some u → ((wr.alloc (.cells #[.int .i64 4, .string xt, .int .i64 xn, .int .i64 xp] 30)).alloc (.cells #[.string xt] 9)).cell? ((⟨wr.heap.size + 1, 0, none⟩ : Addr).add j) = some u) := Lib.hid (by
          have := cell_one_new (wr.alloc (.cells #[.int .i64 4, .string xt, .int .i64 xn, .int .i64 xp] 30)) (.string xt) 9
          simpa using this)
        go_wp2_with (at_builtin; refine wpList_append_own_at _ rfl _ _ 51 rfl w.heap.size 9 i (.string ⟨#[]⟩) 1 16 Tryd.underlying51 HI.out HZ.out H1.out H2.out rfl (by decide) _ M (strV (wordsS (L.take k))) rfl (row_alloc (row_alloc HOV.out _) _) ⟨wr.heap.size + 1, 0, none⟩ 1 1 [.string xt] rfl rfl HNW.out (strV_one [xt]) (by have := HLN2.out; unfold maxLen; omega) (by have := HLN2.out; omega) (by have := HB.out.size; simp; omega) ?_; intro v5 w5 ho hg hnil hl; obtain ⟨A5, k5, rfl, -, -, -⟩ := row_form ho; have HG := Lib.hid hg; have HOO := Lib.hid ho; clear hg ho hl hnil)
        go_round
        case rel =>
          refine ⟨k + 1, by omega, by go_num, ?_, ?_⟩
          · rw [HWS.out, List.length_append, HM.out, strV, List.map_append]
            exact HOO.out
          · have h0 := HB.out.alloc HB.out.size (.cells #[.int .i64 4, .string xt, .int .i64 xn, .int .i64 xp] 30)
            have h1 := h0.alloc h0.size (.cells #[.string xt] 9)
            exact h1.grown HG.out h1.size (fun j hj => (row_lt HOV.out hj).1)
        case measure => simp [intOf]; omega
      · have HWS : Hid (wordsS (L.take (k + 1)) = wordsS (L.take k) ++ [fmtB xn]) := Lib.hid (by rw [HT.out]; rfl)
        go_wp2_with fail
        refine (Tryd.strconv_FormatInt_10 xn HXN.out.1 HXN.out.2 _ (HP.out.later (HB.out.alloc HB.out.size (.cells #[.int .i64 2, .string xt, .int .i64 xn, .int .i64 xp] 30)) HP5.out)).mono ?_
        rintro e w2 ⟨rfl, k2, os2, rfl⟩
        have hbw : Below w.heap.size w (Sort.grow ((wr.alloc (.cells #[.int .i64 2, .string xt, .int .i64 xn, .int .i64 xp] 30)).drewN k2) os2) := (HB.out.alloc HB.out.size (.cells #[.int .i64 2, .string xt, .int .i64 xn, .int .i64 xp] 30)).trans ((Lib.below_grow _ _ (Nat.le_refl _) k2 os2).mono (HB.out.alloc HB.out.size (.cells #[.int .i64 2, .string xt, .int .i64 xn, .int .i64 xp] 30)).size)
        have hov2 := row_of (b := Sort.grow ((wr.alloc (.cells #[.int .i64 2, .string xt, .int .i64 xn, .int .i64 xp] 30)).drewN k2) os2) (row_alloc HOV.out (.cells #[.int .i64 2, .string xt, .int .i64 xn, .int .i64 xp] 30)) (fun j hj => (Lib.below_grow _ (wr.alloc (.cells #[.int .i64 2, .string xt, .int .i64 xn, .int .i64 xp] 30)) (Nat.le_refl _) k2 os2).block j (row_lt (row_alloc HOV.out (.cells #[.int .i64 2, .string xt, .int .i64 xn, .int .i64 xp] 30)) hj).2)
        generalize Sort.grow ((wr.alloc (.cells #[.int .i64 2, .string xt, .int .i64 xn, .int .i64 xp] 30)).drewN k2) os2 = w2 at hbw hov2 ⊢
        rw [show (⟨(Lib.itoa xn).toArray⟩ : ByteArray) = fmtB xn from rfl]
        have HB2 := Lib.hid hbw
        have HOV2 := Lib.hid hov2
        clear hbw hov2
        generalize hfm : fmtB xn = fm at *
        have HNW : Hid (∀ j u, [Value.string fm][j]? = some u → (w2.alloc (.cells #[.string fm] 9)).cell? ((⟨w2.heap.size, 0, none⟩ : Addr).add j) = some u) := Lib.hid (cell_one_new _ _ _)
        clear hfm
        go_wp2_with (at_builtin; refine wpList_append_own_at _ rfl _ _ 51 rfl w.heap.size 9 i (.string ⟨#[]⟩) 1 16 Tryd.underlying51 HI.out HZ.out H1.out H2.out rfl (by decide) _ M (strV (wordsS (L.take k))) rfl (row_alloc HOV2.out _) ⟨w2.heap.size, 0, none⟩ 1 1 [.string fm] rfl rfl HNW.out (strV_one [fm]) (by have := HLN2.out; unfold maxLen; omega) (by have := HLN2.out; omega) (by have := HB2.out.size; simp; omega) ?_; intro v5 w5 ho hg hnil hl; obtain ⟨A5, k5, rfl, -, -, -⟩ := row_form ho; have HG := Lib.hid hg; have HOO := Lib.hid ho; clear hg ho hl hnil)
        go_round
        case rel =>
          refine ⟨k + 1, by omega, by go_num, ?_, ?_⟩
          · rw [HWS.out, List.length_append, HM.out, strV, List.map_append]
            exact HOO.out
          · have h1 := HB2.out.alloc HB2.out.size (.cells #[.string fm] 9)
            exact h1.grown HG.out h1.size (fun j hj => (row_lt HOV2.out hj).1)
        case measure => simp [intOf]; omega
      · have HWS : Hid (wordsS (L.take (k + 1)) = wordsS (L.take k) ++ [(((⟨#[34]⟩ : ByteArray) ++ xt) ++ (⟨#[34]⟩ : ByteArray))]) := Lib.hid (by rw [HT.out]; rfl)
        have hz1 : (⟨#[34]⟩ : ByteArray).size = 1 := rfl
        have hz2 : ((⟨#[34]⟩ : ByteArray) ++ xt).size = xt.size + 1 := by rw [ByteArray.size_append, hz1]; omega
        have HNW : Hid (∀ j u, [Value.string (((⟨#[34]⟩ : ByteArray) ++ xt) ++ (⟨#[34]⟩ : ByteArray))][j]? = some u → ((wr.alloc (.cells #[.int .i64 3, .string xt, .int .i64 xn, .int .i64 xp] 30)).alloc (.cells #[.string (((⟨#[34]⟩ : ByteArray) ++ xt) ++ (⟨#[34]⟩ : ByteArray))] 9)).cell? ((⟨wr.heap.size + 1, 0, none⟩ : Addr).add j) = some u) := Lib.hid (by
          have := cell_one_new (wr.alloc (.cells #[.int .i64 3, .string xt, .int .i64 xn, .int .i64 xp] 30)) (.string (((⟨#[34]⟩ : ByteArray) ++ xt) ++ (⟨#[34]⟩ : ByteArray))) 9
          simpa using this)
        go_wp2_with (at_builtin; refine wpList_append_own_at _ rfl _ _ 51 rfl w.heap.size 9 i (.string ⟨#[]⟩) 1 16 Tryd.underlying51 HI.out HZ.out H1.out H2.out rfl (by decide) _ M (strV (wordsS (L.take k))) rfl (row_alloc (row_alloc HOV.out _) _) ⟨wr.heap.size + 1, 0, none⟩ 1 1 [.string (((⟨#[34]⟩ : ByteArray) ++ xt) ++ (⟨#[34]⟩ : ByteArray))] rfl rfl HNW.out (strV_one [(((⟨#[34]⟩ : ByteArray) ++ xt) ++ (⟨#[34]⟩ : ByteArray))]) (by have := HLN2.out; unfold maxLen; omega) (by have := HLN2.out; omega) (by have := HB.out.size; simp; omega) ?_; intro v5 w5 ho hg hnil hl; obtain ⟨A5, k5, rfl, -, -, -⟩ := row_form ho; have HG := Lib.hid hg; have HOO := Lib.hid ho; clear hg ho hl hnil)
        go_round
        case rel =>
          refine ⟨k + 1, by omega, by go_num, ?_, ?_⟩
          · rw [HWS.out, List.length_append, HM.out, strV, List.map_append]
            exact HOO.out
          · have h0 := HB.out.alloc HB.out.size (.cells #[.int .i64 3, .string xt, .int .i64 xn, .int .i64 xp] 30)
            have h1 := h0.alloc h0.size (.cells #[.string (((⟨#[34]⟩ : ByteArray) ++ xt) ++ (⟨#[34]⟩ : ByteArray))] 9)
            exact h1.grown HG.out h1.size (fun j hj => (row_lt HOV.out hj).1)
        case measure => simp [intOf]; omega
      · have HWS : Hid (wordsS (L.take (k + 1)) = wordsS (L.take k) ++ []) := Lib.hid (by rw [HT.out]; unfold wordS; simp [k1, k4, k2, k3])
        have e1 : (xk == 1) = false := beq_false_of_ne k1
        have e4 : (xk == 4) = false := beq_false_of_ne k4
        have e2 : (xk == 2) = false := beq_false_of_ne k2
        have e3 : (xk == 3) = false := beq_false_of_ne k3
        subst_vars
        clear k1 k2 k3 k4
        go_wp2_with fail
        go_round
        case rel => exact ⟨k + 1, by omega, by go_num, by rw [HWS.out, List.append_nil]; first | exact row_alloc HOV.out _ | exact HOV.out, by first | exact HB.out | exact HB.out.alloc HB.out.size _⟩
        case measure => simp [intOf]; omega
    · obtain rfl : k = n := by omega
      have htk : L.take k = L := List.take_of_length_le (by rw [HLEN.out]; exact Nat.le_refl _)
      rw [htk] at hov
      clear hB HOV
      obtain ⟨A1, c1, hvv, hc1, -, -⟩ := row_form hov
      subst hvv
      by_cases hm : (wordsS L).length = 0
      · have hnil : wordsS L = [] := List.length_eq_zero_iff.1 hm
        have HE : Hid (printS L = ⟨#[]⟩) := Lib.hid (by unfold printS; rw [hnil]; rfl)
        rw [hm]
        clear hov hm hnil htk hc1
        go_wp2_with fail
        refine (Tryd.strings_Join_none A1 c1 ⟨#[32]⟩ wr).mono ?_
        rintro e w2 ⟨rfl, rfl⟩
        go_wp2_with fail
        go_ret
        exact ⟨ret_str HE.out.symm, HB.out⟩
      · obtain ⟨g, cap, e, -, hgl, hc⟩ := row_cells hov (by omega)
        injection e with e1 e2 e3
        subst e1 e3
        have JN := Lib.hid (Tryd.strings_Join g 0 c1 (wordsS L) ⟨#[32]⟩ wr (fun j x hx => by
          have hj : j < (wordsS L).length := (List.getElem?_eq_some_iff.1 hx).1
          have := hc j (by omega)
          rw [Nat.zero_add, this]
          unfold strV
          rw [List.getElem?_map, hx]
          rfl) hgl (by have h1 := wordsS_len L; have := HLEN.out; omega) hc1 HJ.out)
        rw [show (⟨(Lib.join ((wordsS L).map (·.data.toList)) (⟨#[32]⟩ : ByteArray).data.toList).toArray⟩ : ByteArray) = printS L from rfl] at JN
        clear hov hc htk
        generalize (wordsS L).length = m at *
        go_wp2_with fail
        refine JN.out.mono ?_
        rintro e w2 ⟨rfl, hb⟩
        go_wp2_with fail
        go_ret
        exact ⟨rfl, HB.out.trans (hb.mono HB.out.size)⟩
set_option maxHeartbeats 3200000 in
set_option maxRecDepth 5000 in
theorem rprint_any (A : Option Addr) (n c : Nat) (L : List Lx) (w : World) (hS : Lxs w w.heap.size A n L) (hok : ∀ x ∈ L, okW x) (hn : n ≤ 5000) (hP : Pow w) (h5 : 5 ≤ w.heap.size) : Calls Tryd.prog 14 #[.slice A n c] w fun e w' => e = .returned (.string (printS L)) ∧ Below w.heap.size w w' := by
  have HS := Lib.hid hS
  have HOK := Lib.hid hok
  have HP := Lib.hid hP
  have HP5 := Lib.hid h5
  have HLEN := Lib.hid hS.1
  obtain ⟨i, hi, hz, hz1, hz2⟩ := info_parts str_info
  have HI := Lib.hid hi
  have HZ := Lib.hid hz
  have H1 := Lib.hid hz1
  have H2 := Lib.hid hz2
  have HJ := Lib.hid (join_le hok (by rw [hS.1]; omega))
  clear hS hok hP h5 hi hz hz1 hz2
  go_enter Tryd.func14, Tryd.ntmps14
  go_wp2_with fail
  go_loopw [3, 4] (fun vv v wr => ∃ k : Nat, k ≤ n ∧ v = .int .i64 (k : Int) ∧ wr.ownsRow w.heap.size 9 1 vv (wordsS (L.take k)).length (strV (wordsS (L.take k))) ∧ Below w.heap.size w wr) (fun _ v _ => n - (intOf v).toNat)
  case atStart => exact ⟨0, Nat.zero_le _, rfl, World.ownsRow_nil _ _ _ _, Below.refl _ _⟩
  case round =>
    obtain ⟨k, hk, rfl, hov, hB⟩ := hrel
    have HOV := Lib.hid hov
    have HB := Lib.hid hB
    by_cases hlt : k < n
    · obtain ⟨ad, x, p, rfl, hx, hp, hpb, q0, q1, q2, q3⟩ := Lxs.at (HS.out.below hB) hlt
      have hpl : p.block < wr.heap.size := by have := hB.size; omega
      have HT := Lib.hid (wordsS_take hx)
      have hxo := HOK.out x (List.mem_of_getElem? hx)
      obtain ⟨xk, xt, xn, xp⟩ := x
      simp only at q0 q1 q2 q3
      have HXN := Lib.hid hxo.2
      have hxt : xt.size ≤ 10000 := hxo.1
      obtain ⟨A1, c1, hvv, -, -, -⟩ := row_form HOV.out
      subst hvv
      have hwl : (wordsS (L.take k)).length ≤ 5000 := by have h1 := wordsS_len (L.take k); rw [List.length_take] at h1; omega
      generalize hM : (wordsS (L.take k)).length = M at *
      have HM := Lib.hid hM
      have HLN2 := Lib.hid hwl
      clear hov hB hx hxo hM hwl hpb
      rcases (show xk = 1 ∨ xk = 4 ∨ xk = 2 ∨ xk = 3 ∨ (xk ≠ 1 ∧ xk ≠ 4 ∧ xk ≠ 2 ∧ xk ≠ 3) by omega) with rfl | rfl | rfl | rfl | ⟨k1, k4, k2, k3⟩
      · have HWS : Hid (wordsS (L.take (k + 1)) = wordsS (L.take k) ++ [xt]) := Lib.hid (by rw [HT.out]; rfl)
        have HNW : Hid (∀ j u, [Value.string xt][j]? = some u → ((wr).alloc (.cells #[.string xt] 9)).cell? ((⟨wr.heap.size, 0, none⟩ : Addr).add j) = some u) := Lib.hid (by
          have := cell_one_new (wr) (.string xt) 9
          simpa using this)
        go_wp2_with (at_builtin; refine wpList_append_own_at _ rfl _ _ 51 rfl w.heap.size 9 i (.string ⟨#[]⟩) 1 16 Tryd.underlying51 HI.out HZ.out H1.out H2.out rfl (by decide) _ M (strV (wordsS (L.take k))) rfl (row_alloc HOV.out _) ⟨wr.heap.size, 0, none⟩ 1 1 [.string xt] rfl rfl HNW.out (strV_one [xt]) (by have := HLN2.out; unfold maxLen; omega) (by have := HLN2.out; omega) (by have := HB.out.size; simp; omega) ?_; intro v5 w5 ho hg hnil hl; obtain ⟨A5, k5, rfl, -, -, -⟩ := row_form ho; have HG := Lib.hid hg; have HOO := Lib.hid ho; clear hg ho hl hnil)
        go_round
        case rel =>
          refine ⟨k + 1, by omega, by go_num, ?_, ?_⟩
          · rw [HWS.out, List.length_append, HM.out, strV, List.map_append]
            exact HOO.out
          · have h1 := HB.out.alloc HB.out.size (.cells #[.string xt] 9)
            exact h1.grown HG.out h1.size (fun j hj => (row_lt HOV.out hj).1)
        case measure => simp [intOf]; omega
      · have HWS : Hid (wordsS (L.take (k + 1)) = wordsS (L.take k) ++ [xt]) := Lib.hid (by rw [HT.out]; rfl)
        have HNW : Hid (∀ j u, [Value.string xt][j]? = some u → ((wr).alloc (.cells #[.string xt] 9)).cell? ((⟨wr.heap.size, 0, none⟩ : Addr).add j) = some u) := Lib.hid (by
          have := cell_one_new (wr) (.string xt) 9
          simpa using this)
        go_wp2_with (at_builtin; refine wpList_append_own_at _ rfl _ _ 51 rfl w.heap.size 9 i (.string ⟨#[]⟩) 1 16 Tryd.underlying51 HI.out HZ.out H1.out H2.out rfl (by decide) _ M (strV (wordsS (L.take k))) rfl (row_alloc HOV.out _) ⟨wr.heap.size, 0, none⟩ 1 1 [.string xt] rfl rfl HNW.out (strV_one [xt]) (by have := HLN2.out; unfold maxLen; omega) (by have := HLN2.out; omega) (by have := HB.out.size; simp; omega) ?_; intro v5 w5 ho hg hnil hl; obtain ⟨A5, k5, rfl, -, -, -⟩ := row_form ho; have HG := Lib.hid hg; have HOO := Lib.hid ho; clear hg ho hl hnil)
        go_round
        case rel =>
          refine ⟨k + 1, by omega, by go_num, ?_, ?_⟩
          · rw [HWS.out, List.length_append, HM.out, strV, List.map_append]
            exact HOO.out
          · have h1 := HB.out.alloc HB.out.size (.cells #[.string xt] 9)
            exact h1.grown HG.out h1.size (fun j hj => (row_lt HOV.out hj).1)
        case measure => simp [intOf]; omega
      · have HWS : Hid (wordsS (L.take (k + 1)) = wordsS (L.take k) ++ [fmtB xn]) := Lib.hid (by rw [HT.out]; rfl)
        go_wp2_with fail
        refine (Tryd.strconv_FormatInt_10 xn HXN.out.1 HXN.out.2 _ (HP.out.later (HB.out) HP5.out)).mono ?_
        rintro e w2 ⟨rfl, k2, os2, rfl⟩
        have hbw : Below w.heap.size w (Sort.grow (wr.drewN k2) os2) := (HB.out).trans ((Lib.below_grow _ _ (Nat.le_refl _) k2 os2).mono (HB.out).size)
        have hov2 := row_of (b := Sort.grow (wr.drewN k2) os2) (HOV.out) (fun j hj => (Lib.below_grow _ wr (Nat.le_refl _) k2 os2).block j (row_lt (HOV.out) hj).2)
        generalize Sort.grow (wr.drewN k2) os2 = w2 at hbw hov2 ⊢
        rw [show (⟨(Lib.itoa xn).toArray⟩ : ByteArray) = fmtB xn from rfl]
        have HB2 := Lib.hid hbw
        have HOV2 := Lib.hid hov2
        clear hbw hov2
        generalize hfm : fmtB xn = fm at *
        have HNW : Hid (∀ j u, [Value.string fm][j]? = some u → (w2.alloc (.cells #[.string fm] 9)).cell? ((⟨w2.heap.size, 0, none⟩ : Addr).add j) = some u) := Lib.hid (cell_one_new _ _ _)
        clear hfm
        go_wp2_with (at_builtin; refine wpList_append_own_at _ rfl _ _ 51 rfl w.heap.size 9 i (.string ⟨#[]⟩) 1 16 Tryd.underlying51 HI.out HZ.out H1.out H2.out rfl (by decide) _ M (strV (wordsS (L.take k))) rfl (row_alloc HOV2.out _) ⟨w2.heap.size, 0, none⟩ 1 1 [.string fm] rfl rfl HNW.out (strV_one [fm]) (by have := HLN2.out; unfold maxLen; omega) (by have := HLN2.out; omega) (by have := HB2.out.size; simp; omega) ?_; intro v5 w5 ho hg hnil hl; obtain ⟨A5, k5, rfl, -, -, -⟩ := row_form ho; have HG := Lib.hid hg; have HOO := Lib.hid ho; clear hg ho hl hnil)
        go_round
        case rel =>
          refine ⟨k + 1, by omega, by go_num, ?_, ?_⟩
          · rw [HWS.out, List.length_append, HM.out, strV, List.map_append]
            exact HOO.out
          · have h1 := HB2.out.alloc HB2.out.size (.cells #[.string fm] 9)
            exact h1.grown HG.out h1.size (fun j hj => (row_lt HOV2.out hj).1)
        case measure => simp [intOf]; omega
      · have HWS : Hid (wordsS (L.take (k + 1)) = wordsS (L.take k) ++ [(((⟨#[34]⟩ : ByteArray) ++ xt) ++ (⟨#[34]⟩ : ByteArray))]) := Lib.hid (by rw [HT.out]; rfl)
        have hz1 : (⟨#[34]⟩ : ByteArray).size = 1 := rfl
        have hz2 : ((⟨#[34]⟩ : ByteArray) ++ xt).size = xt.size + 1 := by rw [ByteArray.size_append, hz1]; omega
        have HNW : Hid (∀ j u, [Value.string (((⟨#[34]⟩ : ByteArray) ++ xt) ++ (⟨#[34]⟩ : ByteArray))][j]? = some u → ((wr).alloc (.cells #[.string (((⟨#[34]⟩ : ByteArray) ++ xt) ++ (⟨#[34]⟩ : ByteArray))] 9)).cell? ((⟨wr.heap.size, 0, none⟩ : Addr).add j) = some u) := Lib.hid (by
          have := cell_one_new (wr) (.string (((⟨#[34]⟩ : ByteArray) ++ xt) ++ (⟨#[34]⟩ : ByteArray))) 9
          simpa using this)
        go_wp2_with (at_builtin; refine wpList_append_own_at _ rfl _ _ 51 rfl w.heap.size 9 i (.string ⟨#[]⟩) 1 16 Tryd.underlying51 HI.out HZ.out H1.out H2.out rfl (by decide) _ M (strV (wordsS (L.take k))) rfl (row_alloc HOV.out _) ⟨wr.heap.size, 0, none⟩ 1 1 [.string (((⟨#[34]⟩ : ByteArray) ++ xt) ++ (⟨#[34]⟩ : ByteArray))] rfl rfl HNW.out (strV_one [(((⟨#[34]⟩ : ByteArray) ++ xt) ++ (⟨#[34]⟩ : ByteArray))]) (by have := HLN2.out; unfold maxLen; omega) (by have := HLN2.out; omega) (by have := HB.out.size; simp; omega) ?_; intro v5 w5 ho hg hnil hl; obtain ⟨A5, k5, rfl, -, -, -⟩ := row_form ho; have HG := Lib.hid hg; have HOO := Lib.hid ho; clear hg ho hl hnil)
        go_round
        case rel =>
          refine ⟨k + 1, by omega, by go_num, ?_, ?_⟩
          · rw [HWS.out, List.length_append, HM.out, strV, List.map_append]
            exact HOO.out
          · have h1 := HB.out.alloc HB.out.size (.cells #[.string (((⟨#[34]⟩ : ByteArray) ++ xt) ++ (⟨#[34]⟩ : ByteArray))] 9)
            exact h1.grown HG.out h1.size (fun j hj => (row_lt HOV.out hj).1)
        case measure => simp [intOf]; omega
      · have HWS : Hid (wordsS (L.take (k + 1)) = wordsS (L.take k) ++ []) := Lib.hid (by rw [HT.out]; unfold wordS; simp [k1, k4, k2, k3])
        have e1 : (xk == 1) = false := beq_false_of_ne k1
        have e4 : (xk == 4) = false := beq_false_of_ne k4
        have e2 : (xk == 2) = false := beq_false_of_ne k2
        have e3 : (xk == 3) = false := beq_false_of_ne k3
        subst_vars
        clear k1 k2 k3 k4
        go_wp2_with fail
        go_round
        case rel => exact ⟨k + 1, by omega, by go_num, by rw [HWS.out, List.append_nil]; first | exact row_alloc HOV.out _ | exact HOV.out, by first | exact HB.out | exact HB.out.alloc HB.out.size _⟩
        case measure => simp [intOf]; omega
    · obtain rfl : k = n := by omega
      have htk : L.take k = L := List.take_of_length_le (by rw [HLEN.out]; exact Nat.le_refl _)
      rw [htk] at hov
      clear hB HOV
      obtain ⟨A1, c1, hvv, hc1, -, -⟩ := row_form hov
      subst hvv
      by_cases hm : (wordsS L).length = 0
      · have hnil : wordsS L = [] := List.length_eq_zero_iff.1 hm
        have HE : Hid (printS L = ⟨#[]⟩) := Lib.hid (by unfold printS; rw [hnil]; rfl)
        rw [hm]
        clear hov hm hnil htk hc1
        go_wp2_with fail
        refine (Tryd.strings_Join_none A1 c1 ⟨#[32]⟩ wr).mono ?_
        rintro e w2 ⟨rfl, rfl⟩
        go_wp2_with fail
        go_ret
        exact ⟨ret_str HE.out.symm, HB.out⟩
      · obtain ⟨g, cap, e, -, hgl, hc⟩ := row_cells hov (by omega)
        injection e with e1 e2 e3
        subst e1 e3
        have JN := Lib.hid (Tryd.strings_Join g 0 c1 (wordsS L) ⟨#[32]⟩ wr (fun j x hx => by
          have hj : j < (wordsS L).length := (List.getElem?_eq_some_iff.1 hx).1
          have := hc j (by omega)
          rw [Nat.zero_add, this]
          unfold strV
          rw [List.getElem?_map, hx]
          rfl) hgl (by have h1 := wordsS_len L; have := HLEN.out; omega) hc1 HJ.out)
        rw [show (⟨(Lib.join ((wordsS L).map (·.data.toList)) (⟨#[32]⟩ : ByteArray).data.toList).toArray⟩ : ByteArray) = printS L from rfl] at JN
        clear hov hc htk
        generalize (wordsS L).length = m at *
        go_wp2_with fail
        refine JN.out.mono ?_
        rintro e w2 ⟨rfl, hb⟩
        go_wp2_with fail
        go_ret
        exact ⟨rfl, HB.out.trans (hb.mono HB.out.size)⟩
end Go.Proofs.YtklogijbdpghpaaDoor
