/-
  CONTRACTS of velocity's specification: Remove.
-/
import Derived.Test.YtkfiekpinojahabVR4
namespace Go.Proofs.Ytkfiekpinojahab.R
open Go.RowKit
set_option linter.unusedVariables false
set_option linter.unusedSimpArgs false
section
variable {P : Program} (w : World)
theorem step_append_at {ops : Array Oper} {o : Oper} {a : Act} {K : Act → World → Prop} {Q : Exit → Act → World → Prop} {E : Prop} (hgd : o.guard = none) (s x : Operand) (t : TypeId)
    (ho : o.op = .call { callee := .builtin .append, args := #[s, x], argTypes := #[t, t] })
    (base : Nat) (e : TypeId) (i : TypeInfo) (z : Value) (size bytes : Nat) (ht : P.underlying t = some (.slice e)) (hi : P.info? e = some i) (hz : i.zero = some z)
    (hsize : i.size = size) (hby : i.bytes = bytes) (hzs : z.cells.size = size) (hsz : 0 < size)
    (v : Value) (n : Nat) (xs : List Value) (hs : a.eval s = v) (hown : w.ownsRow base e size v n xs)
    (ad : Addr) (m c : Nat) (news : List Value) (hx : a.eval x = .slice (some ad) m c) (hl : news.length = m * size) (hnews : ∀ j u, news[j]? = some u → w.cell? (ad.add j) = some u) (h1 : ∀ u ∈ news, u.oneCell' = true)
    (h63 : n + m ≤ maxLen) (hbytes : (n + m) * bytes ≤ 140737488355328) (hbase : base ≤ w.heap.size)
    (h : ∀ v' w', w'.ownsRow base e size v' (n + m) (xs ++ news) → w.grownBy w' v.ownBlock → K (a.put o.dst v') w') :
    if Region.wanted o (yielded ops a.tmps) = true then Oper.wp P o a w K Q else E := by
  have hw : Region.wanted o (yielded ops a.tmps) = true := by simp [Region.wanted, hgd]
  rw [if_pos hw]
  obtain ⟨v', w', hr, h2, h3, h4, h5⟩ := run_append_own_at (P := P) w base t o.type e i z size bytes ht hi hz hsize hby hzs hsz v n xs hown ad m c news hl hnews h1 h63 hbytes hbase
  unfold Oper.wp execOp
  simp only [ho, resolve, invoke, builtin, Sem.run_bind, Sem.run_pure, Result.andThen_ok, List.map_toArray, List.map_cons, List.map_nil, hs, hx, hr]
  exact h v' w' h2 h3
end
theorem row_empty {W : World} {g base : Nat} {e : TypeId} {size : Nat} (h : W.heap[g]? = some (.cells #[] e (0, 0))) (hb : base ≤ g) : W.ownsRow base e size (.slice (some ⟨g, 0, none⟩) 0 0) 0 [] := ⟨by simp, .inr ⟨g, 0, #[], rfl, hb, h, Nat.le_refl _, by unfold maxLen; omega, by simp, by simp⟩⟩
theorem news_part {w W : World} {g U : Nat} {us : List UR} (hB : Below w.heap.size w W) (hgl : g < w.heap.size) (hc : ∀ i, i < U * 3 → w.cell? ⟨g, i, none⟩ = (ucells us)[i]?) (hU : us.length = U) (off : Nat) (l : List UR) (hl : ∀ j u, (ucells l)[j]? = some u → (ucells us)[off + j]? = some u) : ∀ j u, (ucells l)[j]? = some u → W.cell? ((⟨g, off, none⟩ : Addr).add j) = some u := fun j u hu => by
  have hadd : (⟨g, off, none⟩ : Addr).add j = ⟨g, off + j, none⟩ := by unfold Addr.add; split <;> simp_all
  have h1 := hl j u hu
  obtain ⟨h2, -⟩ := List.getElem?_eq_some_iff.1 h1
  rw [ucells_len, hU] at h2
  rw [hadd, hB.cell (p := ⟨g, off + j, none⟩) hgl, hc _ h2, h1]
theorem news_take (us : List UR) (q : Nat) : ∀ j u, (ucells (us.take q))[j]? = some u → (ucells us)[0 + j]? = some u := fun j u hu => by
  rw [← ucells_take] at hu
  obtain ⟨h2, -⟩ := List.getElem?_eq_some_iff.1 hu
  rw [List.length_take] at h2
  rw [List.getElem?_take_of_lt (by omega)] at hu
  rw [Nat.zero_add]
  exact hu
theorem news_drop (us : List UR) (q : Nat) : ∀ j u, (ucells (us.drop q))[j]? = some u → (ucells us)[q * 3 + j]? = some u := fun j u hu => by
  rw [← ucells_drop, List.getElem?_drop] at hu
  exact hu
theorem size_use (W : World) : (sizeOf (Try.prog.elem 53)).run Try.prog W = .ok 3 W := by kernel_rfl
theorem sl_low (g f U cap : Nat) (h1 : f ≤ U) (W : World) : (Instr.slice 53 (.slice (some ⟨g, 0, none⟩) U cap) (some (.int .i64 (f : Int))) none none).run Try.prog W = .ok (.slice (some (if cap = f then ⟨g, 0, none⟩ else ⟨g, f * 3, none⟩)) (U - f) (cap - f)) W := by
  rw [run_slice_l W 53 (some ⟨g, 0, none⟩) U cap Try.underlying53 .i64 (f : Int) (by omega) (by omega), size_use]
  simp only [Result.andThen_ok, sliced, Int.toNat_natCast]
  split
  · rfl
  · simp [Addr.add]
    omega
theorem sl_high (g h U cap : Nat) (h1 : h ≤ cap) (W : World) : (Instr.slice 53 (.slice (some ⟨g, 0, none⟩) U cap) none (some (.int .i64 (h : Int))) none).run Try.prog W = .ok (.slice (some ⟨g, 0, none⟩) h cap) W := by
  rw [run_slice_h W 53 (some ⟨g, 0, none⟩) U cap Try.underlying53 .i64 (h : Int) (by omega) (by omega), size_use]
  simp only [Result.andThen_ok, sliced, Int.toNat_natCast]
  split
  · simp
  · simp [Addr.add]
theorem news_low {w W : World} {g U q cap : Nat} {us : List UR} {a2 : Addr} (hB : Below w.heap.size w W) (hgl : g < w.heap.size) (hc : ∀ i, i < U * 3 → w.cell? ⟨g, i, none⟩ = (ucells us)[i]?) (hU : us.length = U) (hcap : U ≤ cap) (ha : a2 = if cap = q + 1 then ⟨g, 0, none⟩ else ⟨g, (q + 1) * 3, none⟩) : ∀ j u, (ucells (us.drop (q + 1)))[j]? = some u → W.cell? (a2.add j) = some u := by
  subst ha
  split
  · intro j u hu
    rw [List.drop_of_length_le (by omega)] at hu
    cases hu
  · exact news_part hB hgl hc hU ((q + 1) * 3) _ (news_drop us (q + 1))
def RemQ (w w' : World) (K D : Nat) (v : Value) (s : VS) (key : ByteArray) (a m : Int) (e : Ending) : Prop := ∃ us' c, RemP s.us key a m us' c ∧ e = .returned (.int .i64 c) ∧ ∃ v', Left w w' K D v v' { s with us := us' }
set_option maxHeartbeats 3200000 in
set_option maxRecDepth 5000 in
theorem rem_gen {K D : Nat} {v : Value} {s : VS} {w : World} (hr : Rep w K D v s) (key : ByteArray) (a m : Int) : Calls Try.prog 13 #[.pointer (some ⟨D, 0, none⟩), .string key, .int .i64 a, .int .i64 m] w fun e w' => RemQ w w' K D v s key a m e := by
  have HR := Lib.hid hr
  have hd := hr.win
  have hlt := hd.lt
  have d1 := hd.cell 1
  simp at d1
  obtain ⟨A, cap, hv, hcap, hmax, -⟩ := row_form hr.row
  have hrow := hr.row
  rw [hv] at d1 hrow
  have HO := Lib.hid hrow
  have HD := Lib.hid hd
  have HV := Lib.hid hv
  have hlu := hr.lu
  generalize hU : s.us.length = U at *
  have HU := Lib.hid hU
  clear hr hd hv hrow hU
  go_enter Try.func13, Try.ntmps13
  go_wp2_with fail
  clear d1
  go_loopw [9] (fun iv wr => ∃ j : Nat, j ≤ U ∧ iv = .int .i64 ((j : Int) - 1) ∧ Below w.heap.size w wr ∧ NoK s.us (hitU key a m) j) (fun i _ => (intOf i + 1).toNat)
  case atStart => exact ⟨U, Nat.le_refl _, rfl, Below.refl _ _, by have := nok_end s.us (hitU key a m); rw [HU.out] at this; exact this⟩
  case round =>
    obtain ⟨j, hj, rfl, hB, hno⟩ := hrel
    have HB := Lib.hid hB
    have HNO := Lib.hid hno
    have hd := HD.out.below hB HD.out.lt
    have d1 := hd.cell 1
    simp only [HV.out] at d1
    simp at d1
    have pf1 := hd.frozen 1
    have hlt3 := hd.lt
    clear hB hd hno
    cases j with
    | zero =>
      go_wp2_with fail
      go_ret
      exact ⟨s.us, 6, .inr ⟨HNO.out, rfl, rfl⟩, rfl, v, Left.same HR.out HB.out⟩
    | succ q =>
      have hq : q < s.us.length := by rw [HU.out]; omega
      obtain ⟨g, cap', e, -, hgl, hcell⟩ := row_cells HO.out (by omega)
      injection e with e1 e2 e3
      subst e1 e3
      have hx := List.getElem?_eq_getElem hq
      generalize s.us[q] = x at hx
      have p0 : wr.cell? ⟨g, q * 3, none⟩ = some (.string x.k) := ((HB.out.cell (p := ⟨g, q * 3, none⟩) hgl).trans (hcell _ (by omega))).trans (ucells_at s.us hx).1
      have p1 : wr.cell? ⟨g, q * 3 + 1, none⟩ = some (.int .i64 x.a) := ((HB.out.cell (p := ⟨g, q * 3 + 1, none⟩) hgl).trans (hcell _ (by omega))).trans (ucells_at s.us hx).2.1
      have p2 : wr.cell? ⟨g, q * 3 + 2, none⟩ = some (.int .i64 x.m) := ((HB.out.cell (p := ⟨g, q * 3 + 2, none⟩) hgl).trans (hcell _ (by omega))).trans (ucells_at s.us hx).2.2
      have hgr : g < wr.heap.size := Nat.lt_of_lt_of_le hgl HB.out.size
      have HCL := Lib.hid hcell
      have HX := Lib.hid hx
      have ii : ((q + 1 : Nat) : Int) - 1 = (q : Int) := by omega
      rw [ii]
      clear hcell hx hq
      by_cases hk : x.k = key
      case neg =>
        have e0 := str_ne hk
        have HN := Lib.hid (nok_step HNO.out HX.out (fun h => hk h.1))
        clear hk
        go_wp2_with fail
        go_round
        case rel => exact ⟨q, by omega, by go_num, HB.out, HN.out⟩
        case measure => first | (simp [intOf]; done) | (simp [intOf]; omega)
      have e0 : (x.k.toList == key.toList) = true := by rw [hk]; exact beq_self_eq_true _
      by_cases ha : x.a = a
      case neg =>
        have e1 : (x.a == a) = false := beq_false_of_ne ha
        have HN := Lib.hid (nok_step HNO.out HX.out (fun h => ha h.2.1))
        clear hk ha
        go_wp2_with fail
        go_round
        case rel => exact ⟨q, by omega, by go_num, HB.out, HN.out⟩
        case measure => first | (simp [intOf]; done) | (simp [intOf]; omega)
      have e1 : (x.a == a) = true := by rw [ha]; exact beq_self_eq_true _
      by_cases hm : x.m = m
      case neg =>
        have e2 : (x.m == m) = false := beq_false_of_ne hm
        have HN := Lib.hid (nok_step HNO.out HX.out (fun h => hm h.2.2))
        clear hk ha hm
        go_wp2_with fail
        go_round
        case rel => exact ⟨q, by omega, by go_num, HB.out, HN.out⟩
        case measure => first | (simp [intOf]; done) | (simp [intOf]; omega)
      have e2 : (x.m == m) = true := by rw [hm]; exact beq_self_eq_true _
      have HIT : Hid (hitU key a m x) := Lib.hid ⟨hk, ha, hm⟩
      clear hk ha hm
      have hqU : q + 1 ≤ U := hj
      have HQ := Lib.hid hqU
      obtain ⟨i, hi, hz, hz1, hz2⟩ := info_parts use_info
      have HI := Lib.hid hi
      have HZ := Lib.hid hz
      have H1 := Lib.hid hz1
      have H2 := Lib.hid hz2
      clear hi hz hz1 hz2
      have hs1 := sl_high g q U cap (by omega)
      have hs2 := sl_low g (q + 1) U cap hqU
      have hq1 : ((q + 1 : Nat) : Int) = (q : Int) + 1 := by omega
      have hwq : wrap64 ((q : Int) + 1) = (q : Int) + 1 := by unfold wrap64; omega
      have hwq2 : IntKind.i64.wrap ((q : Int) + 1) = (q : Int) + 1 := IntWalk.i64_in _ (by omega)
      obtain ⟨a2, ha2⟩ : ∃ a2 : Addr, a2 = if cap = q + 1 then ⟨g, 0, none⟩ else ⟨g, (q + 1) * 3, none⟩ := ⟨_, rfl⟩
      rw [← ha2, hq1] at hs2
      have HA2 := Lib.hid ha2
      obtain ⟨c2, hc2⟩ : ∃ c2, c2 = cap - (q + 1) := ⟨_, rfl⟩
      obtain ⟨n2, hn2⟩ : ∃ n2, n2 = U - (q + 1) := ⟨_, rfl⟩
      rw [← hc2, ← hn2] at hs2
      have hs3 := hs2
      rw [← hq1] at hs3
      have HN2 := Lib.hid hn2
      have HCAP := Lib.hid hcap
      have HLU := Lib.hid hlu
      clear ha2 hc2 hn2 hcap hlu hmax hq1 hqU hj
      go_wp2_with fail
      go_region_law (first
        | (refine step_append_at _ rfl _ _ 53 rfl w.heap.size 62 i (.agg #[.string ⟨#[]⟩, .int .i64 0, .int .i64 0]) 3 32 Try.underlying53 HI.out HZ.out H1.out H2.out rfl (by decide) (.slice (some ⟨wr.heap.size, 0, none⟩) 0 0) 0 [] rfl (row_empty (heap_alloc_new wr _) HB.out.size) ⟨g, 0, none⟩ q cap (ucells (s.us.take q)) rfl (by rw [ucells_len, List.length_take, HU.out]; have := HQ.out; congr 1; omega) (news_part (HB.out.alloc HB.out.size _).drew hgl HCL.out HU.out 0 _ (news_take s.us q)) (ucells_one _) (by have := HQ.out; have := HLU.out; unfold maxLen; omega) (by have := HQ.out; have := HLU.out; omega) (by have := HB.out.size; simp; omega) ?_; intro v5 w5 ho5 hg5; rw [Nat.zero_add, List.nil_append] at ho5; have HO5 := Lib.hid ho5; have hB5 : Below w.heap.size w w5 := (HB.out.alloc HB.out.size _).drew.grown hg5 (HB.out.alloc HB.out.size _).drew.size (fun j hj => by have := HB.out.size; simp [Value.ownBlock] at hj; omega); have HB5 := Lib.hid hB5; have hd5 := HD.out.below hB5 HD.out.lt; have d5 := hd5.cell 1; simp only [HV.out] at d5; simp at d5; clear ho5 hg5 hB5 hd5)
        | (refine step_append_at _ rfl _ _ 53 rfl w.heap.size 62 i (.agg #[.string ⟨#[]⟩, .int .i64 0, .int .i64 0]) 3 32 Try.underlying53 HI.out HZ.out H1.out H2.out rfl (by decide) _ q (ucells (s.us.take q)) rfl HO5.out a2 n2 c2 (ucells (s.us.drop (q + 1))) rfl (by rw [ucells_len, List.length_drop, HU.out, HN2.out]) (news_low HB5.out hgl HCL.out HU.out HCAP.out HA2.out) (ucells_one _) (by have := HQ.out; have := HLU.out; have := HN2.out; unfold maxLen; omega) (by have := HQ.out; have := HLU.out; have := HN2.out; omega) HB5.out.size ?_; intro v6 w6 ho6 hg6; obtain ⟨A6, k6, rfl, -, -, -⟩ := row_form ho6; have HO6 := Lib.hid ho6; have hB6 : Below w.heap.size w w6 := HB5.out.grown hg6 HB5.out.size (fun j hj => (row_lt HO5.out hj).1); have HB6 := Lib.hid hB6; have hd6 := HD.out.below hB6 HD.out.lt; have HD6 := Lib.hid hd6; have d6 := hd6.cell 1; simp only [HV.out] at d6; simp at d6; have f6 := hd6.frozen 1; have l6 := hd6.lt; clear ho6 hg6 hB6 hd6))
      all_goals
        go_wp2_with fail
        go_ret
        have h0 := HR.out
        have hqU := HQ.out
        have hlU := HLU.out
        have hn2 := HN2.out
        have hdv : (Value.slice A6 (q + n2) k6).ownBlock ≠ some D := fun e => by
          have h1 := (row_lt HO6.out e).1
          have h2 := h0.win.lt
          omega
        have hl : (rmU s.us q (q + 1)).length = q + n2 := by rw [rmU_len s.us (by omega) (by rw [HU.out]; exact hqU), HU.out, HN2.out]
        refine ⟨rmU s.us q (q + 1), 0, .inl ⟨q, x, HX.out, HIT.out, HNO.out, rfl, rfl⟩, rfl, .slice A6 (q + n2) k6, ⟨HD6.out.set_ 1 _, ?_, hdv, h0.kd, h0.lh, h0.hh, h0.ll, h0.hl, ?_, okU_rm h0.ok⟩, ?_, fun j hj => .inr (row_lt HO6.out hj).1⟩
        · have h1 := row_set HO6.out (p := ⟨D, 1, none⟩) hdv (.slice A6 (q + n2) k6)
          rw [← ucells_app] at h1
          simp only [hl]
          exact row_mono h1 (by have := h0.kd; have := h0.win.lt; omega)
        · simp only [hl]
          omega
        · exact (Kp.of HB6.out).set (p := ⟨D, 1, none⟩) (.inl (.inl rfl)) _
end Go.Proofs.Ytkfiekpinojahab.R
