/-
  CONTRACTS of disk's specification: Read, New.
-/
import Derived.Test.YtkfiekpinojahaaDR2
namespace Go.Proofs.Ytkfiekpinojahaa.R
open Go.RowKit
set_option linter.unusedVariables false
set_option linter.unusedSimpArgs false
set_option maxRecDepth 5000 in
set_option maxHeartbeats 1600000 in
theorem read_any (K D B : Nat) (v : Value) (s : DSt) (w : World) (hr : Rep w K D B v s) (n : Int) {t : ByteArray} {c : Int} (HT : Hid (readT s n = t)) (HC : Hid (chkS s n = c)) : Calls Try.prog 28 #[.pointer (some ⟨D, 0, none⟩), .int .i64 n] w fun e w' => e = .returned (.tuple #[.string t, .int .i64 c]) ∧ w = w' := by
  have d0 := hr.disk.cell 0
  have d1 := hr.disk.cell 1
  have d2 := hr.disk.cell 2
  simp at d0 d1 d2
  have l1 := hr.disk.lt
  by_cases hc : c = 0
  case neg =>
    have HX : Hid (t = ⟨#[]⟩) := Lib.hid (by rw [← HT.out, readT, HC.out, if_neg hc])
    cases hdn : s.down
    · rw [hdn] at d2
      by_cases h1 : n < 0
      · have HY : Hid (c = 4) := Lib.hid (by rw [← HC.out]; unfold chkS; rw [hdn, if_neg (by simp), if_pos (.inl h1)])
        have a1 : decide (n < 0) = true := decide_eq_true h1
        clear hr hc h1 d1
        go_enter Try.func28, Try.ntmps28
        go_wp2_with fail
        go_ret2
        rw [HX.out, HY.out]
        exact ⟨rfl, rfl⟩
      · have a1 : decide (n < 0) = false := decide_eq_false h1
        by_cases h2 : (s.bl.length : Int) ≤ n
        · have HY : Hid (c = 4) := Lib.hid (by rw [← HC.out]; unfold chkS; rw [hdn, if_neg (by simp), if_pos (.inr h2)])
          have a2 : decide ((s.bl.length : Int) ≤ n) = true := decide_eq_true h2
          clear hr hc h1 h2 d1
          go_enter Try.func28, Try.ntmps28
          go_wp2_with fail
          go_ret2
          rw [HX.out, HY.out]
          exact ⟨rfl, rfl⟩
        · exfalso
          apply hc
          rw [← HC.out]
          unfold chkS
          rw [hdn, if_neg (by simp), if_neg (by omega)]
    · rw [hdn] at d2
      have HY : Hid (c = 13) := Lib.hid (by rw [← HC.out]; unfold chkS; rw [hdn, if_pos rfl])
      clear hr hc d1
      go_enter Try.func28, Try.ntmps28
      go_wp2_with fail
      go_ret2
      rw [HX.out, HY.out]
      exact ⟨rfl, rfl⟩
  subst hc
  obtain ⟨hdn, n0, nl⟩ := chk_zero HC.out
  rw [hdn] at d2
  obtain ⟨n, rfl⟩ : ∃ m : Nat, n = (m : Int) := ⟨n.toNat, by omega⟩
  have nl' : n < s.bl.length := by omega
  have b1 : decide ((n : Int) < 0) = false := decide_eq_false (by omega)
  have b2 : decide ((s.bl.length : Int) ≤ (n : Int)) = false := decide_eq_false (by omega)
  have hcur : (curS s)[n]? = some t := by
    have h1 := HT.out
    rw [readT, HC.out, if_pos rfl] at h1
    have h2 : n < (curS s).length := by rw [curS, appl_len]; exact nl'
    rw [show ((n : Int)).toNat = n by omega, List.getElem?_eq_getElem h2] at h1
    rw [List.getElem?_eq_getElem h2]
    exact congrArg some h1
  have Hc := Lib.hid hcur
  have hB := hr.blocks
  have hrow := hr.row
  have lb := hr.lb
  have lp := hr.lp
  obtain ⟨A, cap, rfl⟩ := row_form hrow
  obtain ⟨bl, pe, down, steps, mask⟩ := s
  simp only at *
  obtain ⟨t0, ht0⟩ : ∃ t0, bl[n]? = some t0 := ⟨_, List.getElem?_eq_getElem nl'⟩
  have hz : w.cell? ⟨B, n, none⟩ = some (.string t0) := by rw [hB.cell n, strs_get, ht0]; rfl
  have HT0 := Lib.hid ht0
  have HR := Lib.hid hrow
  have NL := Lib.hid nl'
  have HDN := Lib.hid (show chkS ⟨bl, pe, down, steps, mask⟩ (n : Int) = 0 from HC.out)
  clear hr hB hrow hcur ht0 HT HC n0 nl hdn
  generalize hP : pe.length = P at *
  have HP := Lib.hid hP
  clear hP
  go_enter Try.func28, Try.ntmps28
  go_wp2_with fail
  go_loop [6, 7] (fun ss i => ∃ k : Nat, k ≤ P ∧ i = .int .i64 (k : Int) ∧ ∃ u, ss = .string u ∧ (appl bl (pe.take k))[n]? = some u) (fun _ i => P - (intOf i).toNat)
  case atStart => exact ⟨0, by omega, rfl, t0, rfl, HT0.out⟩
  case round =>
    obtain ⟨k, hk, rfl, u, rfl, hu⟩ := hrel
    have HU := Lib.hid hu
    clear hu
    by_cases hlk : k < P
    · have hm' : k < pe.length := by rw [HP.out]; exact hlk
      obtain ⟨g, cap', e, -, hgl, hcell⟩ := row_cells HR.out (by omega)
      injection e with e1' e2' e3'
      subst e1' e3'
      have hx := List.getElem?_eq_getElem hm'
      generalize pe[k] = x at hx
      have HX := Lib.hid hx
      have p0 : w.cell? ⟨g, k * 2, none⟩ = some (.int .i64 (x.1 : Int)) := (hcell _ (by omega)).trans (wcells_at pe HX.out).1
      have p1 : w.cell? ⟨g, k * 2 + 1, none⟩ = some (.string x.2) := (hcell _ (by omega)).trans (wcells_at pe HX.out).2
      clear hcell hx hm'
      by_cases hn : x.1 = n
      · have hq : ((x.1 : Int) == (n : Int)) = true := by simp [hn]
        have HN : Hid ((appl bl (pe.take (k + 1)))[n]? = some x.2) := Lib.hid (by rw [appl_take bl pe HX.out, hn, List.getElem?_set_self (by rw [appl_len]; exact NL.out)])
        clear hn
        go_wp2
        go_round
        case rel => exact ⟨k + 1, by omega, by go_num, x.2, rfl, HN.out⟩
        case measure => simp [intOf]; omega
      · have hq : ((x.1 : Int) == (n : Int)) = false := beq_false_of_ne (by omega)
        have HN : Hid ((appl bl (pe.take (k + 1)))[n]? = some u) := Lib.hid (by rw [appl_take bl pe HX.out, List.getElem?_set_ne hn]; exact HU.out)
        clear hn
        go_wp2
        go_round
        case rel => exact ⟨k + 1, by omega, by go_num, u, rfl, HN.out⟩
        case measure => simp [intOf]; omega
    · obtain rfl : k = P := by omega
      have HE : Hid (u = t) := Lib.hid (by
        have h1 := HU.out
        rw [List.take_of_length_le (Nat.le_of_eq HP.out)] at h1
        exact Option.some.inj (h1.symm.trans Hc.out))
      go_wp2
      go_ret2
      rw [← HE.out]
      exact ⟨rfl, rfl⟩
theorem new_bad (n : Int) (h : n < 1 ∨ 4096 < n) (w : World) : Calls Try.prog 10 #[.int .i64 n] w fun e w' => e = .returned (.tuple #[.pointer none, .int .i64 4]) ∧ w = w' := by
  rcases h with h | h
  · go_enter Try.func10, Try.ntmps10
    go_wp2
    go_ret2
    exact ⟨rfl, rfl⟩
  · have h' : ¬ n < 1 := by omega
    have h2 : decide ((4096 : Int) < n) = true := decide_eq_true h
    clear h
    go_enter Try.func10, Try.ntmps10
    go_wp2
    go_ret2
    exact ⟨rfl, rfl⟩
theorem new_any (n : Nat) (h1 : 1 ≤ n) (h2 : n ≤ 4096) (w : World) : Calls Try.prog 10 #[.int .i64 (n : Int)] w fun e w' => ∃ D B, e = .returned (.tuple #[.pointer (some ⟨D, 0, none⟩), .int .i64 0]) ∧ Rep w' w.heap.size D B (.slice none 0 0) (newS n) ∧ Below w.heap.size w w' := by
  have hmk := makeN n h2
  have a1 : decide ((n : Int) < 1) = false := decide_eq_false (by omega)
  have a2 : decide ((4096 : Int) < (n : Int)) = false := decide_eq_false (by omega)
  have H2 := Lib.hid h2
  clear h1 h2
  go_enter Try.func10, Try.ntmps10
  go_wp2
  go_ret2
  refine ⟨w.heap.size + 1, w.heap.size, rfl, ⟨?_, ?_, World.ownsRow_nil _ _ _ _, by omega, by simp [Value.ownBlock], by simp [Value.ownBlock], by omega, Nat.le_refl _, by simp [newS], by simp [newS]; exact H2.out, by simp [newS], by simp [newS], by simp [newS]⟩, ?_⟩
  · have := Blk.new (w.alloc (.cells (strs (List.replicate n ⟨#[]⟩)) 9)) 62 #[.slice (some ⟨w.heap.size, 0, none⟩) n n, .slice none 0 0, .bool false, .int .i64 0, .int .u64 0]
    simp only [newS, List.length_replicate]
    simpa using this
  · exact (Blk.new w 9 (strs (List.replicate n ⟨#[]⟩))).alloc _
  · exact ((Below.refl _ _).alloc (Nat.le_refl _) _).alloc (by simp) _
end Go.Proofs.Ytkfiekpinojahaa.R
