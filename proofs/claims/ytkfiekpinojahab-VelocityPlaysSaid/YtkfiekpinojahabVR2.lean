/-
  CONTRACTS of velocity's specification: in, Count, Sum.
-/
import Derived.Test.YtkfiekpinojahabVR1
namespace Go.Proofs.Ytkfiekpinojahab.R
open Go.RowKit
set_option linter.unusedVariables false
set_option linter.unusedSimpArgs false
set_option maxHeartbeats 3200000 in
set_option maxRecDepth 5000 in
theorem in_any {K D : Nat} {v : Value} {s : VS} {w : World} (hr : Rep w K D v s) (key : ByteArray) (at_ n : Int) (h0 : 0 ≤ at_) (hM : at_ ≤ 1099511627776) (h1 : 1 ≤ n) (h2 : n ≤ s.hor) : Calls Try.prog 31 #[.pointer (some ⟨D, 0, none⟩), .string key, .int .i64 at_, .int .i64 n] w fun e w' => ∃ v', e = .returned v' ∧ w'.ownsRow w.heap.size 62 3 v' (wS s.us key at_ n).length (ucells (wS s.us key at_ n)) ∧ Below w.heap.size w w' := by
  have IT := Lib.hid (fun w => time_any at_ (b := true) (decide_eq_true (show tim at_ from ⟨h0, hM⟩)) w)
  have hd := hr.win
  have d0 := hd.cell 0
  have d1 := hd.cell 1
  simp at d0 d1
  have hlt := hd.lt
  obtain ⟨A, cap, hv, -, -, -⟩ := row_form hr.row
  rw [hv] at d1 hd
  have HWD := Lib.hid hd
  have HO := Lib.hid hr.row
  rw [hv] at HO
  have a1 : decide (n < 1) = false := decide_eq_false (by omega)
  have a2 : decide ((s.hor : Int) < n) = false := decide_eq_false (by omega)
  have hlu := hr.lu
  have hhh := hr.hh
  obtain ⟨b, hb⟩ : ∃ b : Int, b = at_ - n := ⟨_, rfl⟩
  have hbw : at_ - n = b := hb.symm
  have hwb : wrap64 b = b := by unfold wrap64; omega
  obtain ⟨i, hi, hz, hz1, hz2⟩ := info_parts use_info
  obtain ⟨hor, last, us⟩ := s
  simp only at *
  have HI := Lib.hid hi
  have HZ := Lib.hid hz
  have H1 := Lib.hid hz1
  have H2 := Lib.hid hz2
  generalize hU : us.length = U at *
  have HU := Lib.hid hU
  have HOK := Lib.hid hr.ok
  have HB := Lib.hid hb
  clear hr hd h0 hM h1 h2 hv hhh hi hz hz1 hz2 hU hb
  go_enter Try.func31, Try.ntmps31
  go_wp2_with fail
  refine (IT.out _).mono ?_
  rintro e w1 ⟨rfl, rfl⟩
  go_wp2_with fail
  have HD := Lib.hid hlt
  clear d0 d1
  go_loopw [9, 10] (fun vv i wr => ∃ k : Nat, k ≤ U ∧ i = .int .i64 (k : Int) ∧ wr.ownsRow w.heap.size 62 3 vv (wS (us.take k) key at_ n).length (ucells (wS (us.take k) key at_ n)) ∧ Below w.heap.size w wr) (fun _ i _ => U - (intOf i).toNat)
  case atStart => exact ⟨0, by omega, rfl, World.ownsRow_nil _ _ _ _, Below.refl _ _⟩
  case round =>
    obtain ⟨k, hk, rfl, hov, hB⟩ := hrel
    have HOV := Lib.hid hov
    have HB2 := Lib.hid hB
    have hwd := HWD.out.below hB HWD.out.lt
    have d1 := hwd.cell 1
    simp at d1
    have hlt3 := hwd.lt
    clear hov hB hwd
    by_cases hlt2 : k < U
    · have hm' : k < us.length := by rw [HU.out]; exact hlt2
      obtain ⟨g, cap', e, -, hgl, hcell⟩ := row_cells HO.out (by omega)
      injection e with e1' e2' e3'
      subst e1' e3'
      have hx := List.getElem?_eq_getElem hm'
      generalize us[k] = x at hx
      have p0 : wr.cell? ⟨g, k * 3, none⟩ = some (.string x.k) := ((HB2.out.cell (p := ⟨g, k * 3, none⟩) hgl).trans (hcell _ (by omega))).trans (ucells_at us hx).1
      have p1 : wr.cell? ⟨g, k * 3 + 1, none⟩ = some (.int .i64 x.a) := ((HB2.out.cell (p := ⟨g, k * 3 + 1, none⟩) hgl).trans (hcell _ (by omega))).trans (ucells_at us hx).2.1
      have p2 : wr.cell? ⟨g, k * 3 + 2, none⟩ = some (.int .i64 x.m) := ((HB2.out.cell (p := ⟨g, k * 3 + 2, none⟩) hgl).trans (hcell _ (by omega))).trans (ucells_at us hx).2.2
      have HT := Lib.hid (wS_take (key := key) (at_ := at_) (n := n) hx)
      have hglr : g < wr.heap.size := Nat.lt_of_lt_of_le hgl HB2.out.size
      clear hcell hx hm'
      by_cases hkey : x.k = key
      case neg =>
        have e0 := str_ne hkey
        have HN := Lib.hid (HT.out.trans (if_neg (by simp [inW, hkey])))
        clear hkey
        go_wp2
        go_round
        case rel => exact ⟨k + 1, by omega, by go_num, by rw [HN.out]; exact row_alloc HOV.out _, (HB2.out.alloc HB2.out.size _)⟩
        case measure => simp [intOf]; omega
      by_cases hlo : b < x.a
      case neg =>
        have e0 : (x.k.toList == key.toList) = true := by rw [hkey]; exact beq_self_eq_true _
        have e1 : decide (b < x.a) = false := decide_eq_false hlo
        have HN := Lib.hid (HT.out.trans (if_neg (by unfold inW; rw [hbw]; simp [hlo])))
        clear hkey hlo
        go_wp2
        go_round
        case rel => exact ⟨k + 1, by omega, by go_num, by rw [HN.out]; exact row_alloc HOV.out _, (HB2.out.alloc HB2.out.size _)⟩
        case measure => simp [intOf]; omega
      by_cases hhi : x.a ≤ at_
      case neg =>
        have e0 : (x.k.toList == key.toList) = true := by rw [hkey]; exact beq_self_eq_true _
        have e1 : decide (b < x.a) = true := decide_eq_true hlo
        have e2 : decide (x.a ≤ at_) = false := decide_eq_false hhi
        have HN := Lib.hid (HT.out.trans (if_neg (by unfold inW; rw [hbw]; simp [hhi])))
        clear hkey hlo hhi
        go_wp2
        go_round
        case rel => exact ⟨k + 1, by omega, by go_num, by rw [HN.out]; exact row_alloc HOV.out _, (HB2.out.alloc HB2.out.size _)⟩
        case measure => simp [intOf]; omega
      have e0 : (x.k.toList == key.toList) = true := by rw [hkey]; exact beq_self_eq_true _
      have e1 : decide (b < x.a) = true := decide_eq_true hlo
      have e2 : decide (x.a ≤ at_) = true := decide_eq_true hhi
      have HN := Lib.hid (HT.out.trans (if_pos (by unfold inW; rw [hbw]; simp [hkey, hlo, hhi])))
      have hlen : (wS (us.take k) key at_ n).length ≤ 1000 := by
        have h1 := List.length_filter_le (inW key at_ n) (us.take k)
        have h2 : (us.take k).length ≤ k := by simp; omega
        unfold wS
        omega
      have HLN := Lib.hid hlen
      clear hkey hlo hhi hlen
      obtain ⟨A1, c1, hvv, -, -, -⟩ := row_form HOV.out
      have HVV := Lib.hid hvv
      subst hvv
      generalize hM : (wS (us.take k) key at_ n).length = M at *
      have HM := Lib.hid hM
      have HNW : Hid (∀ j u, [Value.string x.k, .int .i64 x.a, .int .i64 x.m][j]? = some u → ((wr.alloc (.cells #[.string x.k, .int .i64 x.a, .int .i64 x.m] 62)).alloc (.cells #[.string x.k, .int .i64 x.a, .int .i64 x.m] 62)).cell? ((⟨wr.heap.size + 1, 0, none⟩ : Addr).add j) = some u) := Lib.hid (by
        have := cell_three_new (wr.alloc (.cells #[.string x.k, .int .i64 x.a, .int .i64 x.m] 62)) (.string x.k) (.int .i64 x.a) (.int .i64 x.m) 62
        simpa using this)
      clear hM
      go_wp2_with (at_builtin; refine wpList_append_own_at _ rfl _ _ 53 rfl w.heap.size 62 i (.agg #[.string ⟨#[]⟩, .int .i64 0, .int .i64 0]) 3 32 Try.underlying53 HI.out HZ.out H1.out H2.out rfl (by decide) _ M (ucells (wS (us.take k) key at_ n)) rfl (row_alloc (row_alloc HOV.out _) _) ⟨wr.heap.size + 1, 0, none⟩ 1 1 [.string x.k, .int .i64 x.a, .int .i64 x.m] rfl rfl HNW.out (ucells_one [x]) (by have := HLN.out; unfold maxLen; omega) (by have := HLN.out; omega) (by have := HB2.out.size; simp; omega) ?_; intro v5 w5 ho hg hnil hl; obtain ⟨A5, k5, rfl, -, -, -⟩ := row_form ho; have HG := Lib.hid hg; have HOO := Lib.hid ho; have HLL := Lib.hid hl; clear hg ho hl hnil)
      go_round
      case rel =>
        refine ⟨k + 1, by omega, by go_num, ?_, ?_⟩
        · rw [HN.out, List.length_append, HM.out, ucells_app]
          exact HOO.out
        · have h1 := HB2.out.alloc HB2.out.size (.cells #[.string x.k, .int .i64 x.a, .int .i64 x.m] 62)
          have h2 := h1.alloc h1.size (.cells #[.string x.k, .int .i64 x.a, .int .i64 x.m] 62)
          exact h2.grown HG.out h2.size (fun j hj => (row_lt HOV.out hj).1)
      case measure => simp [intOf]; omega
    · obtain rfl : k = U := by omega
      have htk : us.take k = us := List.take_of_length_le (Nat.le_of_eq HU.out)
      have hov := HOV.out
      rw [htk] at hov
      obtain ⟨A1, c1, hvv, -, -, -⟩ := row_form hov
      subst hvv
      have HOV2 := Lib.hid hov
      clear hov HOV htk
      go_wp2
      go_ret
      exact ⟨_, rfl, HOV2.out, HB2.out⟩
theorem in_no {K D : Nat} {v : Value} {s : VS} {w : World} (hr : Rep w K D v s) (key : ByteArray) (at_ n : Int) (h : ¬ tim at_ ∨ n < 1 ∨ (s.hor : Int) < n) : Calls Try.prog 31 #[.pointer (some ⟨D, 0, none⟩), .string key, .int .i64 at_, .int .i64 n] w fun e w' => e = .returned (.slice none 0 0) ∧ w = w' := by
  have hd := hr.win
  have d0 := hd.cell 0
  simp at d0
  have hlt := hd.lt
  obtain ⟨hor, last, us⟩ := s
  simp only at *
  clear hr hd
  by_cases ht : tim at_
  case neg =>
    have IT := Lib.hid (fun w => time_any at_ (b := false) (decide_eq_false ht) w)
    clear h ht
    go_enter Try.func31, Try.ntmps31
    go_wp2_with fail
    refine (IT.out _).mono ?_
    rintro e w1 ⟨rfl, rfl⟩
    go_wp2_with fail
    go_ret
    exact ⟨rfl, rfl⟩
  have IT := Lib.hid (fun w => time_any at_ (b := true) (decide_eq_true ht) w)
  by_cases h1 : n < 1
  · have a1 : decide (n < 1) = true := decide_eq_true h1
    clear h h1 ht
    go_enter Try.func31, Try.ntmps31
    go_wp2_with fail
    refine (IT.out _).mono ?_
    rintro e w1 ⟨rfl, rfl⟩
    go_wp2_with fail
    go_ret
    exact ⟨rfl, rfl⟩
  · have a1 : decide (n < 1) = false := decide_eq_false h1
    have a2 : decide ((hor : Int) < n) = true := decide_eq_true (by rcases h with h | h | h; exact absurd ht h; exact absurd h h1; exact h)
    clear h h1 ht
    go_enter Try.func31, Try.ntmps31
    go_wp2_with fail
    refine (IT.out _).mono ?_
    rintro e w1 ⟨rfl, rfl⟩
    go_wp2_with fail
    go_ret
    exact ⟨rfl, rfl⟩
theorem in_gen {K D : Nat} {v : Value} {s : VS} {w : World} (hr : Rep w K D v s) (key : ByteArray) (at_ n : Int) : Calls Try.prog 31 #[.pointer (some ⟨D, 0, none⟩), .string key, .int .i64 at_, .int .i64 n] w fun e w' => ∃ v', e = .returned v' ∧ w'.ownsRow w.heap.size 62 3 v' (wG s key at_ n).length (ucells (wG s key at_ n)) ∧ Below w.heap.size w w' := by
  by_cases h : ¬ tim at_ ∨ n < 1 ∨ (s.hor : Int) < n
  · have hg : wG s key at_ n = [] := by
      unfold wG wL
      rcases h with h | h
      · rw [if_neg h]
      · rw [if_pos h, ite_self]
    rw [hg]
    refine (in_no hr key at_ n h).mono ?_
    rintro e w1 ⟨rfl, rfl⟩
    exact ⟨_, rfl, World.ownsRow_nil _ _ _ _, Below.refl _ _⟩
  · have ht : tim at_ := by
      by_cases ht : tim at_
      · exact ht
      · exact absurd (.inl ht) h
    have hg : wG s key at_ n = wS s.us key at_ n := by
      unfold wG wL
      rw [if_pos ht, if_neg (fun h2 => h (.inr h2))]
    rw [hg]
    have h1 : ¬ n < 1 := fun h2 => h (.inr (.inl h2))
    have h2 : ¬ (s.hor : Int) < n := fun h2 => h (.inr (.inr h2))
    exact in_any hr key at_ n ht.1 ht.2 (by omega) (by omega)
theorem count_gen {K D : Nat} {v : Value} {s : VS} {w : World} (hr : Rep w K D v s) (key : ByteArray) (at_ n : Int) {c : Int} (hc : ((wG s key at_ n).length : Int) = c) : Calls Try.prog 15 #[.pointer (some ⟨D, 0, none⟩), .string key, .int .i64 at_, .int .i64 n] w fun e w' => e = .returned (.int .i64 c) ∧ Left w w' K D v v s := by
  have WI := Lib.hid (in_gen hr key at_ n)
  have HR := Lib.hid hr
  subst hc
  clear hr
  go_enter Try.func15, Try.ntmps15
  go_wp2_with fail
  refine WI.out.mono ?_
  rintro e w1 ⟨v', rfl, ho, hB⟩
  obtain ⟨A, c1, rfl, -, -, -⟩ := row_form ho
  have HB := Lib.hid hB
  clear ho hB
  go_wp2
  go_ret
  exact ⟨rfl, Left.same HR.out HB.out⟩
set_option maxRecDepth 5000 in
theorem sum_gen {K D : Nat} {v : Value} {s : VS} {w : World} (hr : Rep w K D v s) (key : ByteArray) (at_ n : Int) {c : Int} (hc : sumU (wG s key at_ n) = c) : Calls Try.prog 17 #[.pointer (some ⟨D, 0, none⟩), .string key, .int .i64 at_, .int .i64 n] w fun e w' => e = .returned (.int .i64 c) ∧ Left w w' K D v v s := by
  have WI := Lib.hid (in_gen hr key at_ n)
  have HR := Lib.hid hr
  have hbd : ∀ k, 0 ≤ sumU ((wG s key at_ n).take k) ∧ sumU ((wG s key at_ n).take k) ≤ 999999999999 * 1000 := fun k => by
    have h1 := sumU_bound (l := (wG s key at_ n).take k) (fun x hx => ⟨(hr.ok x (wG_sub s key at_ n x (List.mem_of_mem_take hx))).2.2.2.1, (hr.ok x (wG_sub s key at_ n x (List.mem_of_mem_take hx))).2.2.2.2⟩)
    have h2 := wG_len s key at_ n
    have h3 := hr.lu
    have h4 : ((wG s key at_ n).take k).length ≤ (wG s key at_ n).length := by simp; omega
    omega
  have HBD := Lib.hid hbd
  subst hc
  have hl := Nat.le_trans (wG_len s key at_ n) hr.lu
  generalize wG s key at_ n = l at *
  clear hr hbd
  generalize hU : l.length = U at *
  have HU := Lib.hid hU
  clear hU
  go_enter Try.func17, Try.ntmps17
  go_wp2_with fail
  refine WI.out.mono ?_
  rintro e w1 ⟨v', rfl, ho, hB⟩
  obtain ⟨A, c1, rfl, -, -, -⟩ := row_form ho
  have HO := Lib.hid ho
  have HB := Lib.hid hB
  clear ho hB
  go_wp2
  go_loopw [10, 11] (fun vv i wr => ∃ k : Nat, k ≤ U ∧ i = .int .i64 (k : Int) ∧ vv = .int .i64 (sumU (l.take k)) ∧ Below w1.heap.size w1 wr) (fun _ i _ => U - (intOf i).toNat)
  case atStart => exact ⟨0, by omega, rfl, rfl, Below.refl _ _⟩
  case round =>
    obtain ⟨k, hk, rfl, rfl, hB⟩ := hrel
    have HB2 := Lib.hid hB
    clear hB
    by_cases hlt2 : k < U
    · have hm' : k < l.length := by rw [HU.out]; exact hlt2
      obtain ⟨g, cap', e, -, hgl, hcell⟩ := row_cells HO.out (by omega)
      injection e with e1' e2' e3'
      subst e1' e3'
      have hx := List.getElem?_eq_getElem hm'
      generalize l[k] = x at hx
      have p0 : wr.cell? ⟨g, k * 3, none⟩ = some (.string x.k) := ((HB2.out.cell (p := ⟨g, k * 3, none⟩) hgl).trans (hcell _ (by omega))).trans (ucells_at l hx).1
      have p1 : wr.cell? ⟨g, k * 3 + 1, none⟩ = some (.int .i64 x.a) := ((HB2.out.cell (p := ⟨g, k * 3 + 1, none⟩) hgl).trans (hcell _ (by omega))).trans (ucells_at l hx).2.1
      have p2 : wr.cell? ⟨g, k * 3 + 2, none⟩ = some (.int .i64 x.m) := ((HB2.out.cell (p := ⟨g, k * 3 + 2, none⟩) hgl).trans (hcell _ (by omega))).trans (ucells_at l hx).2.2
      have HT := Lib.hid (sumU_take hx)
      have hglr : g < wr.heap.size := Nat.lt_of_lt_of_le hgl HB2.out.size
      have hb1 := HBD.out (k + 1)
      obtain ⟨y, hy⟩ : ∃ y, y = sumU (l.take (k + 1)) := ⟨_, rfl⟩
      rw [← hy] at hb1
      have hya : sumU (l.take k) + x.m = y := by rw [hy]; exact HT.out.symm
      have hyw : wrap64 y = y := by unfold wrap64; omega
      have HY := Lib.hid hy
      clear hcell hx hm' hb1 hy
      generalize sumU (l.take k) = z at *
      go_wp2
      go_round
      case rel => exact ⟨k + 1, by omega, by go_num, by rw [hyw, HY.out], HB2.out⟩
      case measure => simp [intOf]; omega
    · obtain rfl : k = U := by omega
      have htk : l.take k = l := List.take_of_length_le (Nat.le_of_eq HU.out)
      rw [htk]
      go_wp2
      go_ret
      exact ⟨rfl, Left.same HR.out (HB.out.trans (HB2.out.mono HB.out.size))⟩
end Go.Proofs.Ytkfiekpinojahab.R
