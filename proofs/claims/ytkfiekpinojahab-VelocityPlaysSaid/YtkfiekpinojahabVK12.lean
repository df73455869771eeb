/-
  CONTRACTS of velocity: Last and Remove at any arguments.
-/
import Derived.Test.YtkfiekpinojahabVK11
namespace Go.Proofs.Ytkfiekpinojahab
open Go.RowKit
set_option linter.unusedVariables false
set_option linter.unusedSimpArgs false
def lastS (us : List UR) (key : ByteArray) : Int × Bool := us.foldl (fun b x => if x.k = key then (x.a, true) else b) (0, false)
theorem lastS_take {us : List UR} {key : ByteArray} {k : Nat} {x : UR} (hx : us[k]? = some x) : lastS (us.take (k + 1)) key = if x.k = key then (x.a, true) else lastS (us.take k) key := by
  unfold lastS
  rw [List.take_add_one, hx, List.foldl_append]
  rfl
def NoK (us : List UR) (P : UR → Prop) (j : Nat) : Prop := ∀ i x, j ≤ i → us[i]? = some x → ¬ P x
theorem nok_step {us : List UR} {P : UR → Prop} {q : Nat} {x : UR} (h : NoK us P (q + 1)) (hx : us[q]? = some x) (hn : ¬ P x) : NoK us P q := fun i y hi hy => by
  rcases Nat.lt_or_ge q i with hl | hl
  · exact h i y hl hy
  · obtain rfl : i = q := by omega
    rw [hx] at hy
    cases hy
    exact hn
theorem nok_end (us : List UR) (P : UR → Prop) : NoK us P us.length := fun i x hi hx => by
  have := (List.getElem?_eq_some_iff.1 hx).1
  omega
theorem lastS_cut {us : List UR} {key : ByteArray} (d : Nat) {j : Nat} (hd : j + d = us.length) (h : NoK us (fun x => x.k = key) j) : lastS us key = lastS (us.take j) key := by
  induction d generalizing j with
  | zero => rw [List.take_of_length_le (by omega)]
  | succ d ih =>
    have hj : j < us.length := by omega
    rw [ih (j := j + 1) (by omega) (fun i x hi hx => h i x (by omega) hx), lastS_take (List.getElem?_eq_getElem hj), if_neg (h j _ (Nat.le_refl _) (List.getElem?_eq_getElem hj))]
set_option maxRecDepth 5000 in
theorem last_gen {K D : Nat} {v : Value} {s : VS} {w : World} (hr : Rep w K D v s) (key : ByteArray) {a : Int} {b : Bool} (hl : lastS s.us key = (a, b)) : Calls Try.prog 20 #[.pointer (some ⟨D, 0, none⟩), .string key] w fun e w' => e = .returned (.tuple #[.int .i64 a, .bool b]) ∧ Left w w' K D v v s := by
  have HLS := Lib.hid hl
  clear hl
  have HR := Lib.hid hr
  have hd := hr.win
  have hlt := hd.lt
  have d0 := hd.cell 0
  have d1 := hd.cell 1
  have d2 := hd.cell 2
  simp at d0 d1 d2
  obtain ⟨A, cap, hv, -, -, -⟩ := row_form hr.row
  have hrow := hr.row
  rw [hv] at d2 hrow
  have HO := Lib.hid hrow
  have HD := Lib.hid hd
  have HV := Lib.hid hv
  have hlu := hr.lu
  generalize hU : s.us.length = U at *
  have HU := Lib.hid hU
  clear hr hd d0 d1 hv hrow hU
  go_enter Try.func20, Try.ntmps20
  go_wp2
  clear d2
  go_loopw [6] (fun i wr => ∃ j : Nat, j ≤ U ∧ i = .int .i64 ((j : Int) - 1) ∧ Below w.heap.size w wr ∧ NoK s.us (fun x => x.k = key) j) (fun i _ => (intOf i + 1).toNat)
  case atStart => exact ⟨U, Nat.le_refl _, rfl, Below.refl _ _, by have := nok_end s.us (fun x => x.k = key); rw [HU.out] at this; exact this⟩
  case round =>
    obtain ⟨j, hj, rfl, hB, hno⟩ := hrel
    have HB := Lib.hid hB
    have HNO := Lib.hid hno
    have hd := HD.out.below hB HD.out.lt
    have d2 := hd.cell 2
    simp only [HV.out] at d2
    simp at d2
    have hlt3 := hd.lt
    clear hB hd hno
    cases j with
    | zero =>
      have HE : Hid (a = 0 ∧ b = false) := Lib.hid (by
        have h1 := lastS_cut (key := key) s.us.length (Nat.zero_add _) HNO.out
        rw [HLS.out] at h1
        exact ⟨congrArg Prod.fst h1, congrArg Prod.snd h1⟩)
      go_wp2
      go_ret2
      rw [HE.out.1, HE.out.2]
      exact ⟨rfl, Left.same HR.out HB.out⟩
    | succ q =>
      have hq : q < s.us.length := by rw [HU.out]; omega
      obtain ⟨g, cap', e, -, hgl, hcell⟩ := row_cells HO.out (by omega)
      injection e with e1 e2 e3
      subst e1 e3
      have hx := List.getElem?_eq_getElem hq
      generalize s.us[q] = x at hx
      have p0 : wr.cell? ⟨g, q * 3, none⟩ = some (.string x.k) := ((HB.out.cell (p := ⟨g, q * 3, none⟩) hgl).trans (hcell _ (by omega))).trans (ucells_at s.us hx).1
      have p1 : wr.cell? ⟨g, q * 3 + 1, none⟩ = some (.int .i64 x.a) := ((HB.out.cell (p := ⟨g, q * 3 + 1, none⟩) hgl).trans (hcell _ (by omega))).trans (ucells_at s.us hx).2.1
      have p2 : wr.cell? ⟨g, q * 3 + 2, none⟩ = some (.int .i64 x.m) := ((HB.out.cell (p := ⟨g, q * 3 + 2, none⟩) hgl).trans (hcell _ (by omega))).trans (ucells_at s.us hx).2.2
      have hgr : g < wr.heap.size := Nat.lt_of_lt_of_le hgl HB.out.size
      have ii : ((q + 1 : Nat) : Int) - 1 = (q : Int) := by omega
      rw [ii]
      have HX := Lib.hid hx
      clear hcell hx hq
      by_cases hk : x.k = key
      · have e0 : (x.k.toList == key.toList) = true := by rw [hk]; exact beq_self_eq_true _
        have HE : Hid (a = x.a ∧ b = true) := Lib.hid (by
          have h1 := lastS_cut (key := key) (s.us.length - (q + 1)) (by rw [HU.out]; omega) HNO.out
          rw [HLS.out, lastS_take HX.out, if_pos hk] at h1
          exact ⟨congrArg Prod.fst h1, congrArg Prod.snd h1⟩)
        clear hk
        go_wp2
        go_ret2
        rw [HE.out.1, HE.out.2]
        exact ⟨rfl, Left.same HR.out HB.out⟩
      · have e0 := str_ne hk
        have HN := Lib.hid (nok_step HNO.out HX.out hk)
        clear hk
        go_wp2
        go_round
        case rel => exact ⟨q, by omega, by go_num, HB.out, HN.out⟩
        case measure => first | (simp [intOf]; done) | (simp [intOf]; omega)
def RemP (us : List UR) (key : ByteArray) (a m : Int) (us' : List UR) (c : Int) : Prop :=
  (∃ i x, us[i]? = some x ∧ hitU key a m x ∧ NoK us (hitU key a m) (i + 1) ∧ us' = rmU us i (i + 1) ∧ c = 0) ∨ (NoK us (hitU key a m) 0 ∧ us' = us ∧ c = 6)
theorem RemP.uniq {us us' us'' : List UR} {key : ByteArray} {a m c d : Int} (h : RemP us key a m us' c) (k : RemP us key a m us'' d) : us' = us'' ∧ c = d := by
  rcases h with ⟨i, x, h1, h2, h3, h4, h5⟩ | ⟨h1, h2, h3⟩ <;> rcases k with ⟨j, y, k1, k2, k3, k4, k5⟩ | ⟨k1, k2, k3⟩
  · have : i = j := by
      rcases Nat.lt_trichotomy i j with h | h | h
      · exact absurd k2 (h3 j y (by omega) k1)
      · exact h
      · exact absurd h2 (k3 i x (by omega) h1)
    subst this
    exact ⟨h4.trans k4.symm, h5.trans k5.symm⟩
  · exact absurd h2 (k1 i x (Nat.zero_le _) h1)
  · exact absurd k2 (h1 j y (Nat.zero_le _) k1)
  · exact ⟨h2.trans k2.symm, h3.trans k3.symm⟩
def RemQ (w w' : World) (K D : Nat) (v : Value) (s : VS) (key : ByteArray) (a m : Int) (e : Ending) : Prop := ∃ us' c, RemP s.us key a m us' c ∧ e = .returned (.int .i64 c) ∧ ∃ v', Left w w' K D v v' { s with us := us' }
set_option maxHeartbeats 1600000 in
set_option maxRecDepth 5000 in
theorem rem_gen {K D : Nat} {v : Value} {s : VS} {w : World} (hr : Rep w K D v s) (key : ByteArray) (a m : Int) : Calls Try.prog 12 #[.pointer (some ⟨D, 0, none⟩), .string key, .int .i64 a, .int .i64 m] w fun e w' => RemQ w w' K D v s key a m e := by
  have HR := Lib.hid hr
  have hd := hr.win
  have hlt := hd.lt
  have d0 := hd.cell 0
  have d1 := hd.cell 1
  have d2 := hd.cell 2
  simp at d0 d1 d2
  obtain ⟨A, cap, hv, -, -, -⟩ := row_form hr.row
  have hrow := hr.row
  rw [hv] at d2 hrow
  have HO := Lib.hid hrow
  have HD := Lib.hid hd
  have HV := Lib.hid hv
  have hlu := hr.lu
  generalize hU : s.us.length = U at *
  have HU := Lib.hid hU
  clear hr hd d0 d1 hv hrow hU
  go_enter Try.func12, Try.ntmps12
  go_wp2
  clear d2
  go_loopw [9] (fun i wr => ∃ j : Nat, j ≤ U ∧ i = .int .i64 ((j : Int) - 1) ∧ Below w.heap.size w wr ∧ NoK s.us (hitU key a m) j) (fun i _ => (intOf i + 1).toNat)
  case atStart => exact ⟨U, Nat.le_refl _, rfl, Below.refl _ _, by have := nok_end s.us (hitU key a m); rw [HU.out] at this; exact this⟩
  case round =>
    obtain ⟨j, hj, rfl, hB, hno⟩ := hrel
    have HB := Lib.hid hB
    have HNO := Lib.hid hno
    have hd := HD.out.below hB HD.out.lt
    have d2 := hd.cell 2
    simp only [HV.out] at d2
    simp at d2
    have hlt3 := hd.lt
    clear hB hd hno
    cases j with
    | zero =>
      go_wp2
      go_ret
      exact ⟨s.us, 6, .inr ⟨HNO.out, rfl, rfl⟩, rfl, v, Left.same HR.out HB.out⟩
    | succ q =>
      have hq : q < s.us.length := by rw [HU.out]; omega
      obtain ⟨g, cap', e, -, hgl, hcell⟩ := row_cells HO.out (by omega)
      injection e with e1 e2 e3
      subst e1 e3
      have hx := List.getElem?_eq_getElem hq
      generalize s.us[q] = x at hx
      have p0 : wr.cell? ⟨g, q * 3, none⟩ = some (.string x.k) := ((HB.out.cell (p := ⟨g, q * 3, none⟩) hgl).trans (hcell _ (by omega))).trans (ucells_at s.us hx).1
      have p1 : wr.cell? ⟨g, q * 3 + 1, none⟩ = some (.int .i64 x.a) := ((HB.out.cell (p := ⟨g, q * 3 + 1, none⟩) hgl).trans (hcell _ (by omega))).trans (ucells_at s.us hx).2.1
      have p2 : wr.cell? ⟨g, q * 3 + 2, none⟩ = some (.int .i64 x.m) := ((HB.out.cell (p := ⟨g, q * 3 + 2, none⟩) hgl).trans (hcell _ (by omega))).trans (ucells_at s.us hx).2.2
      have hgr : g < wr.heap.size := Nat.lt_of_lt_of_le hgl HB.out.size
      have ii : ((q + 1 : Nat) : Int) - 1 = (q : Int) := by omega
      rw [ii]
      have HX := Lib.hid hx
      clear hcell hx hq
      by_cases hk : x.k = key
      case neg =>
        have e0 := str_ne hk
        have HN := Lib.hid (nok_step HNO.out HX.out (fun h => hk h.1))
        clear hk
        go_wp2
        go_round
        case rel => exact ⟨q, by omega, by go_num, HB.out.alloc HB.out.size _, HN.out⟩
        case measure => first | (simp [intOf]; done) | (simp [intOf]; omega)
      have e0 : (x.k.toList == key.toList) = true := by rw [hk]; exact beq_self_eq_true _
      by_cases ha : x.a = a
      case neg =>
        have e1 : (x.a == a) = false := beq_false_of_ne ha
        have HN := Lib.hid (nok_step HNO.out HX.out (fun h => ha h.2.1))
        clear hk ha
        go_wp2
        go_round
        case rel => exact ⟨q, by omega, by go_num, HB.out.alloc HB.out.size _, HN.out⟩
        case measure => first | (simp [intOf]; done) | (simp [intOf]; omega)
      have e1 : (x.a == a) = true := by rw [ha]; exact beq_self_eq_true _
      by_cases hm : x.m = m
      case neg =>
        have e2 : (x.m == m) = false := beq_false_of_ne hm
        have HN := Lib.hid (nok_step HNO.out HX.out (fun h => hm h.2.2))
        clear hk ha hm
        go_wp2
        go_round
        case rel => exact ⟨q, by omega, by go_num, HB.out.alloc HB.out.size _, HN.out⟩
        case measure => first | (simp [intOf]; done) | (simp [intOf]; omega)
      have e2 : (x.m == m) = true := by rw [hm]; exact beq_self_eq_true _
      have hU1 : q + 1 ≤ U := hj
      have RM := Lib.hid (remove_any (w := wr.alloc (.cells #[.string x.k, .int .i64 x.a, .int .i64 x.m] 59)) ((HR.out.below HB.out).below ((Below.refl _ _).alloc (Nat.le_refl _) _)) q (q + 1) (by omega) (by rw [HU.out]; omega) (.inr (by rw [HU.out]; omega)))
      have HIT : Hid (hitU key a m x) := Lib.hid ⟨hk, ha, hm⟩
      clear hk ha hm
      go_wp2_with fail
      refine RM.out.mono ?_
      rintro e w2 ⟨rfl, v2, hL2⟩
      have HL2 := Lib.hid hL2
      clear hL2
      go_wp2
      go_ret
      exact ⟨_, 0, .inl ⟨q, x, HX.out, HIT.out, HNO.out, rfl, rfl⟩, rfl, v2, (Left.same HR.out (HB.out.alloc HB.out.size _)).trans HL2.out⟩
end Go.Proofs.Ytkfiekpinojahab
