/-
  CONTRACTS of velocity's specification: what its windows are, New, Len, time, kept.
-/
import Derived.Test.YtkfiekpinojahabVK12
namespace Go.Proofs.Ytkfiekpinojahab.R
open Go.RowKit
set_option linter.unusedVariables false
set_option linter.unusedSimpArgs false
structure Rep (w : World) (K D : Nat) (v : Value) (s : VS) : Prop where
  win : Blk w D 55 #[.int .i64 (s.hor : Int), v, .int .i64 s.last]
  row : w.ownsRow K 62 3 v s.us.length (ucells s.us)
  dv : v.ownBlock ≠ some D
  kd : K ≤ D
  lh : 1 ≤ s.hor
  hh : s.hor ≤ 10000000
  ll : 0 ≤ s.last
  hl : s.last ≤ 1099511627776
  lu : s.us.length ≤ 1000
  ok : ∀ x ∈ s.us, okU x
structure Left (w w' : World) (K D : Nat) (v v' : Value) (s' : VS) : Prop where
  rep : Rep w' K D v' s'
  kp : Kp (Own D v) w w'
  own : ∀ k, v'.ownBlock = some k → v.ownBlock = some k ∨ w.heap.size ≤ k
section
variable {w w' : World} {K D : Nat} {v v' v'' : Value} {s s' s'' : VS}
theorem Rep.kp (h : Rep w K D v s) {S : Nat → Prop} (k : Kp S w w') (hn : ∀ i, Own D v i → ¬ S i) : Rep w' K D v s :=
  ⟨k.blk h.win (hn D (.inl rfl)), k.row h.row (fun i hi => hn i (.inr hi)), h.dv, h.kd, h.lh, h.hh, h.ll, h.hl, h.lu, h.ok⟩
theorem Rep.lt (h : Rep w K D v s) {i : Nat} (hi : Own D v i) : K ≤ i ∧ i < w.heap.size := by
  rcases hi with rfl | hi
  · exact ⟨h.kd, h.win.lt⟩
  · exact row_lt h.row hi
theorem Rep.below (h : Rep w K D v s) (k : Below w.heap.size w w') : Rep w' K D v s :=
  h.kp (S := fun _ => False) (Kp.of k) (fun _ _ h => h)
theorem Left.same (h : Rep w K D v s) (k : Below w.heap.size w w') : Left w w' K D v v s :=
  ⟨h.below k, Kp.of k, fun _ hk => .inl hk⟩
theorem Left.trans {a b c : World} (h : Left a b K D v v' s') (k : Left b c K D v' v'' s'') : Left a c K D v v'' s'' :=
  ⟨k.rep, h.kp.then k.kp (fun i hi ho => by
    rcases ho with e | e
    · exact .inl e
    · rcases h.own i e with h1 | h1
      · exact .inr h1
      · omega),
   fun i hi => by
    rcases k.own i hi with h1 | h1
    · exact h.own i h1
    · exact .inr (Nat.le_trans h.kp.size h1)⟩
theorem Left.far (h : Left w w' K D v v' s') {g : Nat} (hg : g < w.heap.size) (hn : ¬ Own D v g) : w'.heap[g]? = w.heap[g]? ∧ ¬ Own D v' g :=
  ⟨h.kp.block g hg hn, fun ho => by
    rcases ho with e | e
    · exact hn (.inl e)
    · rcases h.own g e with h1 | h1
      · exact hn (.inr h1)
      · omega⟩
theorem Left.below (h : Left w w' K D v v' s') (hr : Rep w K D v s) {C : Nat} (hC : C ≤ K) (hw : C ≤ w.heap.size) : Below C w w' :=
  h.kp.below (fun k hk ho => by have := hr.lt ho; omega) hw
theorem Left.grow {w0 W W' : World} {v0 : Value} (h : Left w0 W K D v0 v s) (k : Kp (fun i => w0.heap.size ≤ i ∧ ¬ Own D v i) W W') : Left w0 W' K D v0 v s :=
  ⟨h.rep.kp k (fun i ho hn => hn.2 ho), h.kp.then k (fun i hi hn => by omega), h.own⟩
theorem Rep.mono {K' : Nat} (h : Rep w K D v s) (hK : K' ≤ K) : Rep w K' D v s :=
  ⟨h.win, by
    obtain ⟨h1, h2⟩ := h.row
    refine ⟨h1, ?_⟩
    rcases h2 with h2 | ⟨g, cap, cur, e, hb, h3⟩
    · exact .inl h2
    · exact .inr ⟨g, cap, cur, e, by omega, h3⟩, h.dv, by have := h.kd; omega, h.lh, h.hh, h.ll, h.hl, h.lu, h.ok⟩
end
theorem use_info : (Try.prog.info? 62).map (fun i => (i.zero, i.size, i.bytes)) = some (some (.agg #[.string ⟨#[]⟩, .int .i64 0, .int .i64 0]), 3, 32) := by kernel_rfl
theorem new_any (h : Nat) (h1 : 1 ≤ h) (h2 : h ≤ 10000000) (w : World) {K : Nat} (hK : K ≤ w.heap.size) : Calls Try.prog 9 #[.int .i64 (h : Int)] w fun e w' => ∃ D, e = .returned (.tuple #[.pointer (some ⟨D, 0, none⟩), .int .i64 0]) ∧ Rep w' K D (.slice none 0 0) (newS h) ∧ Below w.heap.size w w' := by
  have a1 : decide ((h : Int) < 1) = false := decide_eq_false (by omega)
  have a2 : decide ((10000000 : Int) < (h : Int)) = false := decide_eq_false (by omega)
  have H2 := Lib.hid (And.intro h1 h2)
  clear h1 h2
  go_enter Try.func9, Try.ntmps9
  go_wp2
  go_ret2
  refine ⟨w.heap.size, rfl, ⟨Blk.new w 55 _, World.ownsRow_nil _ _ _ _, by simp [Value.ownBlock], hK, H2.out.1, H2.out.2, Int.le_refl _, (show (0 : Int) ≤ 1099511627776 by decide), by simp [newS], by simp [newS]⟩, (Below.refl _ _).alloc (Nat.le_refl _) _⟩
theorem new_bad (n : Int) (h : n < 1 ∨ 10000000 < n) (w : World) : Calls Try.prog 9 #[.int .i64 n] w fun e w' => e = .returned (.tuple #[.pointer none, .int .i64 4]) ∧ w = w' := by
  rcases h with h | h
  · go_enter Try.func9, Try.ntmps9
    go_wp2
    go_ret2
    exact ⟨rfl, rfl⟩
  · have h' : ¬ n < 1 := by omega
    have h2 : decide ((10000000 : Int) < n) = true := decide_eq_true h
    clear h
    go_enter Try.func9, Try.ntmps9
    go_wp2
    go_ret2
    exact ⟨rfl, rfl⟩
theorem len_any {K D : Nat} {v : Value} {s : VS} {w : World} (hr : Rep w K D v s) {c : Int} (hc : (s.us.length : Int) = c) : Calls Try.prog 23 #[.pointer (some ⟨D, 0, none⟩)] w fun e w' => e = .returned (.int .i64 c) ∧ Left w w' K D v v s := by
  have HL := Lib.hid (Left.same hr (Below.refl _ _))
  have hd := hr.win
  have hlt := hd.lt
  have d1 := hd.cell 1
  simp at d1
  obtain ⟨A, cap, hv, -, -, -⟩ := row_form hr.row
  rw [hv] at d1
  subst hc
  clear hr hd hv
  go_enter Try.func23, Try.ntmps23
  go_wp2
  go_ret
  exact ⟨rfl, HL.out⟩
theorem time_any (a : Int) {b : Bool} (hb : decide (tim a) = b) (w : World) : Calls Try.prog 28 #[.int .i64 a] w fun e w' => e = .returned (.bool b) ∧ w = w' := by
  subst hb
  by_cases h0 : 0 ≤ a
  · have h4 : decide (0 ≤ a) = true := decide_eq_true h0
    by_cases h1 : a ≤ 1099511627776
    · have h5 : decide (a ≤ 1099511627776) = true := decide_eq_true h1
      have HE := Lib.hid (decide_eq_true (show tim a from ⟨h0, h1⟩))
      clear h0 h1
      go_enter Try.func28, Try.ntmps28
      go_wp2
      go_ret
      exact ⟨congrArg (fun b => Ending.returned (.bool b)) HE.out.symm, rfl⟩
    · have h5 : decide (a ≤ 1099511627776) = false := decide_eq_false h1
      have HE := Lib.hid (decide_eq_false (show ¬ tim a from fun h => h1 h.2))
      clear h0 h1
      go_enter Try.func28, Try.ntmps28
      go_wp2
      go_ret
      exact ⟨congrArg (fun b => Ending.returned (.bool b)) HE.out.symm, rfl⟩
  · have h4 : decide (0 ≤ a) = false := decide_eq_false h0
    have HE := Lib.hid (decide_eq_false (show ¬ tim a from fun h => h0 h.1))
    clear h0
    go_enter Try.func28, Try.ntmps28
    go_wp2
    go_ret
    exact ⟨congrArg (fun b => Ending.returned (.bool b)) HE.out.symm, rfl⟩
theorem row_drewN {a : World} {K : Nat} {e : TypeId} {z n : Nat} {v : Value} {xs : List Value} (hr : a.ownsRow K e z v n xs) (m : Nat) : (a.drewN m).ownsRow K e z v n xs := hr
def kepS (us : List UR) (b : Int) : List UR := us.filter fun u => decide (b < u.a)
theorem kepS_take {us : List UR} {b : Int} {k : Nat} {x : UR} (hx : us[k]? = some x) : kepS (us.take (k + 1)) b = if b < x.a then kepS (us.take k) b ++ [x] else kepS (us.take k) b := by
  unfold kepS
  rw [List.take_add_one, hx, List.filter_append]
  simp only [Option.toList_some, List.filter_cons, List.filter_nil, decide_eq_true_eq]
  split <;> simp
set_option maxHeartbeats 3200000 in
set_option maxRecDepth 5000 in
theorem kept_any {K D : Nat} {v : Value} {s : VS} {w : World} (hr : Rep w K D v s) (a : Int) (h0 : 0 ≤ a) (hM : a ≤ 1099511627776) : Calls Try.prog 29 #[.pointer (some ⟨D, 0, none⟩), .int .i64 a] w fun e w' => ∃ v', e = .returned v' ∧ w'.ownsRow w.heap.size 62 3 v' (kepS s.us (a - s.hor)).length (ucells (kepS s.us (a - s.hor))) ∧ Below w.heap.size w w' := by
  have hd := hr.win
  obtain ⟨A, cap, hv, -, -, -⟩ := row_form hr.row
  have HO := Lib.hid hr.row
  rw [hv] at HO hd
  have HD := Lib.hid hd
  have hlu := hr.lu
  have hhh := hr.hh
  obtain ⟨b, hb⟩ : ∃ b : Int, b = a - s.hor := ⟨_, rfl⟩
  have hbw : a - (s.hor : Int) = b := hb.symm
  have hwb : wrap64 b = b := by unfold wrap64; omega
  obtain ⟨i, hi, hz, hz1, hz2⟩ := info_parts use_info
  rw [hbw]
  have HI := Lib.hid hi
  have HZ := Lib.hid hz
  have H1 := Lib.hid hz1
  have H2 := Lib.hid hz2
  generalize hU : s.us.length = U at *
  have HU := Lib.hid hU
  clear hr hd h0 hM hv hhh hi hz hz1 hz2 hU hb
  go_enter Try.func29, Try.ntmps29
  go_wp2_with fail
  go_loopw [5, 6] (fun vv i wr => ∃ k : Nat, k ≤ U ∧ i = .int .i64 (k : Int) ∧ wr.ownsRow w.heap.size 62 3 vv (kepS (s.us.take k) b).length (ucells (kepS (s.us.take k) b)) ∧ Below w.heap.size w wr) (fun _ i _ => U - (intOf i).toNat)
  case atStart => exact ⟨0, by omega, rfl, World.ownsRow_nil _ _ _ _, Below.refl _ _⟩
  case round =>
    obtain ⟨k, hk, rfl, hov, hB⟩ := hrel
    have HOV := Lib.hid hov
    have HB2 := Lib.hid hB
    have hd := HD.out.below hB HD.out.lt
    have d0 := hd.cell 0
    have d1 := hd.cell 1
    simp at d0 d1
    have hlt3 := hd.lt
    clear hov hB hd
    by_cases hlt2 : k < U
    · have hm' : k < s.us.length := by rw [HU.out]; exact hlt2
      obtain ⟨g, cap', e, -, hgl, hcell⟩ := row_cells HO.out (by omega)
      injection e with e1' e2' e3'
      subst e1' e3'
      have hx := List.getElem?_eq_getElem hm'
      generalize s.us[k] = x at hx
      have p0 : wr.cell? ⟨g, k * 3, none⟩ = some (.string x.k) := ((HB2.out.cell (p := ⟨g, k * 3, none⟩) hgl).trans (hcell _ (by omega))).trans (ucells_at s.us hx).1
      have p1 : wr.cell? ⟨g, k * 3 + 1, none⟩ = some (.int .i64 x.a) := ((HB2.out.cell (p := ⟨g, k * 3 + 1, none⟩) hgl).trans (hcell _ (by omega))).trans (ucells_at s.us hx).2.1
      have p2 : wr.cell? ⟨g, k * 3 + 2, none⟩ = some (.int .i64 x.m) := ((HB2.out.cell (p := ⟨g, k * 3 + 2, none⟩) hgl).trans (hcell _ (by omega))).trans (ucells_at s.us hx).2.2
      have HT := Lib.hid (kepS_take (b := b) hx)
      have hglr : g < wr.heap.size := Nat.lt_of_lt_of_le hgl HB2.out.size
      clear hcell hx hm'
      by_cases hlo : b < x.a
      case neg =>
        have e1 : decide (b < x.a) = false := decide_eq_false hlo
        have HN := Lib.hid (HT.out.trans (if_neg hlo))
        clear hlo
        go_wp2
        go_quiet (fail)
        go_wp2
        go_round
        case rel => exact ⟨k + 1, by omega, by go_num, by rw [HN.out]; exact row_drewN HOV.out _, bel_drewN HB2.out _⟩
        case measure => simp [intOf]; omega
      have e1 : decide (b < x.a) = true := decide_eq_true hlo
      have HN := Lib.hid (HT.out.trans (if_pos hlo))
      have hlen : (kepS (s.us.take k) b).length ≤ 1000 := by
        have h1 := List.length_filter_le (fun u : UR => decide (b < u.a)) (s.us.take k)
        have h2 : (s.us.take k).length ≤ k := by simp; omega
        unfold kepS
        omega
      have HLN := Lib.hid hlen
      clear hlo hlen
      obtain ⟨A1, c1, hvv, -, -, -⟩ := row_form HOV.out
      have HVV := Lib.hid hvv
      subst hvv
      generalize hM : (kepS (s.us.take k) b).length = M at *
      have HM := Lib.hid hM
      clear hM
      go_wp2
      go_quiet (fail)
      go_wp2_with (at_builtin; refine wpList_append_own_at _ rfl _ _ 53 rfl w.heap.size 62 i (.agg #[.string ⟨#[]⟩, .int .i64 0, .int .i64 0]) 3 32 Try.underlying53 HI.out HZ.out H1.out H2.out rfl (by decide) _ M (ucells (kepS (s.us.take k) b)) rfl (row_alloc (row_drewN HOV.out _) _) ⟨wr.heap.size, 0, none⟩ 1 1 [.string x.k, .int .i64 x.a, .int .i64 x.m] rfl rfl (cell_three_new _ _ _ _ _) (ucells_one [x]) (by have := HLN.out; unfold maxLen; omega) (by have := HLN.out; omega) (by have := HB2.out.size; simp; omega) ?_; intro v5 w5 ho hg hnil hl; obtain ⟨A5, k5, rfl, -, -, -⟩ := row_form ho; have HG := Lib.hid hg; have HOO := Lib.hid ho; have HLL := Lib.hid hl; clear hg ho hl hnil)
      go_round
      case rel =>
        refine ⟨k + 1, by omega, by go_num, ?_, ?_⟩
        · rw [HN.out, List.length_append, HM.out, ucells_app]
          exact HOO.out
        · have h1 := (bel_drewN HB2.out nq).alloc HB2.out.size (.cells #[.string x.k, .int .i64 x.a, .int .i64 x.m] 62)
          exact h1.grown HG.out h1.size (fun j hj => (row_lt HOV.out hj).1)
      case measure => simp [intOf]; omega
    · obtain rfl : k = U := by omega
      have htk : s.us.take k = s.us := List.take_of_length_le (Nat.le_of_eq HU.out)
      have hov := HOV.out
      rw [htk] at hov
      obtain ⟨A1, c1, hvv, -, -, -⟩ := row_form hov
      subst hvv
      have HOV2 := Lib.hid hov
      clear hov HOV htk
      go_wp2
      go_ret
      exact ⟨_, rfl, HOV2.out, HB2.out⟩
end Go.Proofs.Ytkfiekpinojahab.R
