/-
  CONTRACTS of velocity: Add.
-/
import Derived.Test.YtkfiekpinojahabVK3
namespace Go.Proofs.Ytkfiekpinojahab
open Go.RowKit
set_option linter.unusedVariables false
set_option linter.unusedSimpArgs false
theorem str_eq0 {s : ByteArray} (h : s.size ≠ 0) : (s.toList == ([] : List UInt8)) = false := by
  rw [ByteArray.toList_eq]
  cases hl : s.data.toList with
  | nil => exfalso; exact h (by show s.data.toList.length = 0; rw [hl]; rfl)
  | cons a l => rfl
theorem isTime_any (at_ : Int) (h1 : 0 ≤ at_) (h2 : at_ ≤ 1099511627776) (w : World) : Calls Try.prog 25 #[.int .i64 at_] w fun e w' => e = .returned (.bool true) ∧ w = w' := by
  have h3 : decide (at_ ≤ 1099511627776) = true := decide_eq_true h2
  have h4 : decide (0 ≤ at_) = true := decide_eq_true h1
  clear h1 h2
  go_enter Try.func25, Try.ntmps25
  go_wp2
  go_ret
  exact ⟨rfl, rfl⟩
theorem cell_three_new (w : World) (x y z : Value) (t : TypeId) : ∀ j u, [x, y, z][j]? = some u → (w.alloc (.cells #[x, y, z] t)).cell? ((⟨w.heap.size, 0, none⟩ : Addr).add j) = some u := fun j u hu => by
  have h : (⟨w.heap.size, 0, none⟩ : Addr).add j = ⟨w.heap.size, j, none⟩ := by unfold Addr.add; split <;> simp_all
  rw [h, (Blk.new w t #[x, y, z]).cell j]
  simpa using hu
def addS (s : VS) (k : ByteArray) (at_ m : Int) : VS := ⟨s.hor, at_, s.us.drop (oldS s.us (at_ - s.hor)) ++ [⟨k, at_, m⟩]⟩
structure AddOk (s : VS) (k : ByteArray) (at_ m : Int) : Prop where
  k0 : 0 < k.size
  k40 : k.size ≤ 40
  a0 : 0 ≤ at_
  aM : at_ ≤ 1099511627776
  al : s.last ≤ at_
  m0 : 0 ≤ m
  mM : m ≤ 999999999999
set_option maxHeartbeats 3200000 in
set_option maxRecDepth 5000 in
theorem add_ok {K D : Nat} {v : Value} {s : VS} {w : World} (hr : Rep w K D v s) (k : ByteArray) (at_ m : Int) (ok : AddOk s k at_ m) (hfull : s.us.length - oldS s.us (at_ - s.hor) < 1000) : Calls Try.prog 10 #[.pointer (some ⟨D, 0, none⟩), .string k, .int .i64 at_, .int .i64 m] w fun e w' => e = .returned (.int .i64 0) ∧ ∃ v', Left w w' K D v v' (addS s k at_ m) := by
  have OA := Lib.hid (old_any hr at_ ok.a0 ok.aM)
  have IT := Lib.hid (fun w => isTime_any at_ ok.a0 ok.aM w)
  have OK := Lib.hid ok
  have HR := Lib.hid hr
  have hd := hr.win
  have d1 := hd.cell 1
  simp at d1
  have hlt := hd.lt
  have a1 : decide (at_ < s.last) = false := decide_eq_false (by have := ok.al; omega)
  have a2 : decide (m < 0) = false := decide_eq_false (by have := ok.m0; omega)
  have a3 : decide (999999999999 < m) = false := decide_eq_false (by have := ok.mM; omega)
  have a4 : decide ((40 : Int) < (k.size : Int)) = false := decide_eq_false (by have := ok.k40; omega)
  have k1 := str_eq0 (s := k) (by have := ok.k0; omega)
  have HF := Lib.hid hfull
  clear hr hd ok hfull
  have HOL := Lib.hid (oldS_le s.us (at_ - s.hor))
  obtain ⟨o, ho⟩ : ∃ o, o = oldS s.us (at_ - s.hor) := ⟨_, rfl⟩
  rw [← ho] at OA HF HOL
  have HO := Lib.hid ho
  clear ho
  go_enter Try.func10, Try.ntmps10
  go_wp2_with fail
  refine (IT.out _).mono ?_
  rintro e w1 ⟨rfl, rfl⟩
  go_wp2_with fail
  refine OA.out.mono ?_
  rintro e w1 ⟨rfl, hB1⟩
  have hr1 := HR.out.below hB1
  have HB1 := Lib.hid hB1
  obtain ⟨A1, cap1, hv, -, -, -⟩ := row_form hr1.row
  have q2 := hr1.win.cell 2
  simp at q2
  rw [hv] at q2
  have hlt1 := hr1.win.lt
  have HR1 := Lib.hid hr1
  obtain ⟨r, hr0⟩ : ∃ r, r = s.us.length - o := ⟨_, rfl⟩
  have hsub : (s.us.length : Int) - (o : Int) = (r : Int) := by have := HOL.out; omega
  have hr1000 : r < 1000 := by have := HF.out; omega
  have hwr : wrap64 (r : Int) = (r : Int) := by unfold wrap64; omega
  have g1 : decide ((1000 : Int) ≤ (r : Int)) = false := decide_eq_false (by omega)
  have HR1000 := Lib.hid hr1000
  have HR0 := Lib.hid hr0
  clear hr1000 hr0
  have hlu : s.us.length ≤ 1000 := hr1.lu
  clear hB1 hr1 d1 hv
  generalize hU : s.us.length = U at *
  have HU := Lib.hid hU
  clear hU
  go_wp2_with fail
  refine (remove_any HR1.out 0 o (Nat.zero_le _) (by rw [HU.out]; exact HOL.out) (.inl rfl)).mono ?_
  rintro e w2 ⟨rfl, v2, hL2⟩
  have HL2 := Lib.hid hL2
  have hr2 := hL2.rep
  obtain ⟨A2, cap2, hv, -, -, -⟩ := row_form hr2.row
  have hd2 := hr2.win
  have p2 := hd2.cell 2
  simp at p2
  rw [hv] at p2
  have pf1 := hd2.frozen 1
  have p1 := hd2.cell 1
  simp at p1
  have hlt2 := hd2.lt
  obtain ⟨i, hi, hz, hz1, hz2⟩ := info_parts use_info
  have hrow2 := hr2.row
  have hrl : (rmU s.us 0 o).length = r := by rw [rmU_zero, List.length_drop, HU.out, HR0.out]
  simp only at hrow2 hv p2
  rw [hrl] at hrow2 hv p2
  rw [hv] at hrow2
  have HD2 := Lib.hid hd2
  have HO2 := Lib.hid hrow2
  have HV2 := Lib.hid hv
  have hkd : K ≤ w2.heap.size := Nat.le_of_lt (Nat.lt_of_le_of_lt hr2.kd hd2.lt)
  have HI := Lib.hid hi
  have HZ := Lib.hid hz
  have H1 := Lib.hid hz1
  have H2 := Lib.hid hz2
  clear hL2 hr2 hd2 hrow2 hv q2 hi hz hz1 hz2 hrl
  go_wp2_with (at_builtin; refine wpList_append_own_at _ rfl _ _ 50 rfl K 59 i (.agg #[.string ⟨#[]⟩, .int .i64 0, .int .i64 0]) 3 32 Try.underlying50 HI.out HZ.out H1.out H2.out rfl (by decide) _ r (ucells (rmU s.us 0 o)) rfl (row_alloc HO2.out _) ⟨w2.heap.size, 0, none⟩ 1 1 [.string k, .int .i64 at_, .int .i64 m] rfl rfl (cell_three_new _ _ _ _ _) (ucells_one [⟨k, at_, m⟩]) (by have := HR1000.out; unfold maxLen; omega) (by have := HR1000.out; omega) (by simp; omega) ?_; intro v5 w5 ho hg hnil hl; obtain ⟨A5, k5, rfl, -, -, -⟩ := row_form ho; have hD5 := Lib.hid ((HD2.out.alloc (.cells #[.string k, .int .i64 at_, .int .i64 m] 59)).grown hg (fun e => by have h := HL2.out.rep.dv; rw [HV2.out] at h; exact h e.symm)); have g2 := hD5.out.cell 2; have gf2 := hD5.out.frozen 2; have g1' := hD5.out.cell 1; have gf1 := hD5.out.frozen 1; have gl := hD5.out.lt; simp at g2 g1'; have HG := Lib.hid hg; have HOO := Lib.hid ho; have HLL := Lib.hid hl; clear hg ho hl hnil)
  go_ret
  have hS : addS s k at_ m = ⟨s.hor, at_, rmU s.us 0 o ++ [⟨k, at_, m⟩]⟩ := by unfold addS; rw [← HO.out, rmU_zero]
  have hown : ∀ j, (Value.slice A5 (r + 1) k5).ownBlock = some j → v2.ownBlock = some j ∨ w2.heap.size ≤ j := fun j hj => by
    rcases HLL.out with h | h
    · left; rw [HV2.out]; exact h ▸ hj
    · rw [h] at hj
      injection hj with hj
      right
      rw [← hj]
      simp
  have hdv : (Value.slice A5 (r + 1) k5).ownBlock ≠ some D := fun e => by
    rcases hown D e with h | h
    · exact HL2.out.rep.dv h
    · have := HD2.out.lt; omega
  have hrl : (rmU s.us 0 o).length = r := by rw [rmU_zero, List.length_drop, HU.out, HR0.out]
  have h0 := HR.out
  refine ⟨rfl, .slice A5 (r + 1) k5, ?_⟩
  rw [hS]
  refine (Left.same HR.out HB1.out).trans (HL2.out.trans (show Left w2 ((w5.setCell ⟨D, 2, none⟩ (.slice A5 (r + 1) k5)).setCell ⟨D, 1, none⟩ (.int .i64 at_)) K D v2 (.slice A5 (r + 1) k5) ⟨s.hor, at_, rmU s.us 0 o ++ [⟨k, at_, m⟩]⟩ from ⟨⟨(hD5.out.set_ 2 (.slice A5 (r + 1) k5)).set_ 1 (.int .i64 at_), ?_, hdv, h0.kd, h0.lh, h0.hh, OK.out.a0, OK.out.aM, ?_, ?_⟩, ?_, hown⟩))
  · have h1 := row_set (row_set HOO.out (p := ⟨D, 2, none⟩) hdv (.slice A5 (r + 1) k5)) (p := ⟨D, 1, none⟩) hdv (.int .i64 at_)
    simp only [List.length_append, List.length_cons, List.length_nil, ucells_app, hrl]
    exact h1
  · have := HR1000.out
    simp only [List.length_append, List.length_cons, List.length_nil, hrl]
    omega
  · intro x hx
    rcases List.mem_append.1 hx with hx | hx
    · exact okU_rm h0.ok x hx
    · rw [List.mem_singleton.1 hx]
      exact ⟨OK.out.k40, OK.out.a0, OK.out.aM, OK.out.m0, OK.out.mM⟩
  · exact ((((Kp.refl (Own D v2) w2).alloc _).grown HG.out (fun j hj => .inl (.inr (by rw [HV2.out]; exact hj)))).set (p := ⟨D, 2, none⟩) (.inl (.inl rfl)) _).set (p := ⟨D, 1, none⟩) (.inl (.inl rfl)) _
end Go.Proofs.Ytkfiekpinojahab
