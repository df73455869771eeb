/-
  CONTRACTS of rates: Format.
-/
import Derived.Test.YtobnkfgikafanaaDoorR3
import Derived.Test.YtobnkfgikafanaaDoorKShelf
import Derived.Deep.RegionHeld3
namespace Go.Proofs.YtobnkfgikafanaaDoor
open Go.RowKit Go.Lib Go.Sort
set_option linter.unusedVariables false
set_option linter.unusedSimpArgs false
def Blk (w : World) (g : Nat) (t : TypeId) (cs : Array Value) : Prop := w.heap[g]? = some (.cells cs t (0, 0))

section
variable {w w' : World} {g : Nat} {t : TypeId} {cs : Array Value}
theorem Blk.lt (h : Blk w g t cs) : g < w.heap.size := by
  rcases Nat.lt_or_ge g w.heap.size with hlt | hge
  · exact hlt
  · unfold Blk at h; rw [Array.getElem?_eq_none hge] at h; cases h
theorem Blk.cell (h : Blk w g t cs) (i : Nat) : w.cell? ⟨g, i, none⟩ = cs[i]? := cell_of_row w g i cs t (0, 0) h
theorem Blk.frozen (h : Blk w g t cs) (i : Nat) : w.frozen? ⟨g, i, none⟩ = false := by
  unfold Blk at h
  simp [World.frozen?, h]
theorem Blk.new (w : World) (t : TypeId) (cs : Array Value) : Blk (w.alloc (.cells cs t)) w.heap.size t cs := heap_alloc_new w _
theorem Blk.drew (h : Blk w g t cs) : Blk w.drew g t cs := h
theorem Blk.drewN (h : Blk w g t cs) (n : Nat) : Blk (w.drewN n) g t cs := h
theorem Blk.alloc (h : Blk w g t cs) (o : Obj) : Blk (w.alloc o) g t cs := (Below.heap_alloc w o g h.lt).trans h
theorem Blk.set_ (h : Blk w g t cs) (i : Nat) (u : Value) : Blk (w.setCell ⟨g, i, none⟩ u) g t (cs.setIfInBounds i u) := by
  unfold Blk at h ⊢
  simp [World.setCell, Array.getElem?_modify, h]
theorem Blk.far (h : Blk w g t cs) {p : Addr} (hp : g ≠ p.block) (u : Value) : Blk (w.setCell p u) g t cs := (Below.heap_setCell w p u g hp).trans h
theorem Blk.below {B : Nat} (h : Blk w g t cs) (hb : Below B w w') (hg : g < B) : Blk w' g t cs := (hb.block g hg).trans h
theorem Blk.grown {row : Option Nat} (h : Blk w g t cs) (hb : w.grownBy w' row) (hg : some g ≠ row) : Blk w' g t cs := (hb.block g h.lt hg).trans h
end
def Pow (w : World) : Prop := Lib.TabIs Tryd.prog w "internal/strconv.uint64pow10" .u64 Lib.pow10Tab
theorem Pow.later {w w' : World} {B : Nat} (h : Pow w) (hb : Below B w w') (hB : 8 ≤ B) : Pow w' := by
  unfold Pow TabIs World.var? at *
  obtain ⟨k, hk, hk8⟩ : ∃ k, (Tryd.prog).globalNamed "internal/strconv.uint64pow10" = some k ∧ k < 8 := ⟨_, (by kernel_rfl : _ = some 2), by decide⟩
  simp only [hk, Option.bind_some] at h ⊢
  rw [hb.block k (by omega)]
  exact h
theorem nd_bd (u : Nat) : u < 10 ^ nDigits u ∧ (nDigits u = 1 ∨ 10 ^ (nDigits u - 1) ≤ u) := by
  induction u using Nat.strongRecOn with
  | _ u ih =>
    by_cases h : u < 10
    · rw [nDigits_small h]; exact ⟨by omega, .inl rfl⟩
    · obtain ⟨h1, h2⟩ := ih (u / 10) (by omega)
      rw [nDigits_big h, Nat.pow_succ, Nat.add_sub_cancel]
      refine ⟨by omega, .inr ?_⟩
      rcases h2 with h2 | h2
      · rw [h2]; omega
      · have hp := nDigits_pos (u / 10)
        obtain ⟨m, hm⟩ : ∃ m, nDigits (u / 10) = m + 1 := ⟨_, (Nat.succ_pred (by omega)).symm⟩
        rw [hm] at h2 ⊢
        rw [Nat.add_sub_cancel] at h2
        rw [Nat.pow_succ]
        omega
theorem nd_iff (u d : Nat) (hd : 1 ≤ d) : nDigits u ≤ d ↔ u < 10 ^ d := by
  obtain ⟨h1, h2⟩ := nd_bd u
  constructor
  · intro h
    exact Nat.lt_of_lt_of_le h1 (Nat.pow_le_pow_right (by decide) h)
  · intro h
    rcases h2 with h2 | h2
    · omega
    · apply Classical.byContradiction
      intro hn
      have := Nat.pow_le_pow_right (show 0 < 10 by decide) (show d ≤ nDigits u - 1 by omega)
      omega
theorem nd_mono (u : Nat) {d : Nat} (h : nDigits u ≤ d) : u < 10 ^ d := Nat.lt_of_lt_of_le (nd_bd u).1 (Nat.pow_le_pow_right (by decide) h)
theorem push_grow (w : World) (os : List Obj) : push w os = grow w os.toArray := by
  induction os generalizing w with
  | nil => simp [push, grow]
  | cons o os ih => rw [push, ih, alloc_eq_grow, grow_grow]; simp
theorem pushed_grow (w : World) (k : Nat) (os : Array Obj) : Pushed w (grow (w.drewN k) os) := by
  refine ⟨os.toList, k, ?_⟩
  rw [← push_drewN, push_grow]
theorem fmt_any (u : Nat) (h : u ≤ 9223372036854775807) (w : World) (hT : Pow w) : Calls Tryd.prog 33 #[.int .i64 (u : Int), .int .i64 10] w fun e w' => e = .returned (.string (decS u (nDigits u))) ∧ Pushed w w' := by
  refine (Tryd.strconv_FormatInt_10 (u : Int) (by omega) (by omega) w hT).mono ?_
  rintro e w' ⟨rfl, k, os, rfl⟩
  exact ⟨ret_str (by rw [itoa_nonneg, decS_all]), pushed_grow w k os⟩
/-- The text of a rate. -/
def fmtR (f t : ByteArray) (n d : Nat) : ByteArray := f ++ ⟨#[47]⟩ ++ t ++ ⟨#[32]⟩ ++ decS n (nDigits n) ++ ⟨#[47]⟩ ++ decS d (nDigits d)
theorem bel_alloc {w w' : World} (h : Below w.heap.size w w') (o : Obj) : Below w.heap.size w (w'.alloc o) := h.alloc h.size o
theorem bel_drewN {w w' : World} (h : Below w.heap.size w w') (n : Nat) : Below w.heap.size w (w'.drewN n) := h.trans ⟨rfl, rfl, rfl, Nat.le_refl _, fun _ _ => rfl⟩
theorem nd_13 {u : Nat} (h : u ≤ 1099511627776) : nDigits u ≤ 13 := (nd_iff u 13 (by omega)).2 (by omega)
theorem fmt_err (f t : ByteArray) (n d : Int) (hf : f.size ≤ 1000000) (ht : t.size ≤ 1000000) {e : Int} (H : Hid (chkR f t n d = e)) (he : (e != 0) = true) (w : World) : Calls Tryd.prog 15 #[.agg #[.string f, .string t, .int .i64 n, .int .i64 d]] w fun x w' => x = .returned (.string ⟨#[]⟩) ∧ Pushed w w' := by
  have CK := Lib.hid (fun w => chk_any f t n d hf ht H w)
  go_enter Tryd.func15, Tryd.ntmps15
  go_wp2_with fail
  go_at_call 13
  with_reducible refine (CK.out _).mono ?_
  rintro x w1 ⟨rfl, l0, n0, rfl⟩
  go_wp2
  go_ret
  exact ⟨rfl, (by repeat (first | with_reducible exact Pushed.refl _ | with_reducible assumption | with_reducible refine Pushed.push ?_ _ | with_reducible refine Pushed.alloc ?_ _ | with_reducible refine Pushed.drewN ?_ _ | with_reducible refine Pushed.drew ?_))⟩
set_option maxHeartbeats 3200000 in
theorem fmt_ok (f t : ByteArray) (n d : Nat) (hf : f.size ≤ 1000) (ht : t.size ≤ 1000) (H : Hid (chkR f t n d = 0)) (gn : n ≤ 1099511627776) (gd : d ≤ 1099511627776) (w : World) (hT : Pow w) (hw : 8 ≤ w.heap.size) : Calls Tryd.prog 15 #[.agg #[.string f, .string t, .int .i64 (n : Int), .int .i64 (d : Int)]] w fun x w' => x = .returned (.string (fmtR f t n d)) ∧ Below w.heap.size w w' := by
  have CK := Lib.hid (fun w => chk_any f t n d (by omega) (by omega) H w)
  have HF : Hid (fmtR f t n d = f ++ ⟨#[47]⟩ ++ t ++ ⟨#[32]⟩ ++ decS n (nDigits n) ++ ⟨#[47]⟩ ++ decS d (nDigits d)) := Lib.hid rfl
  have z1 : (decS n (nDigits n)).size ≤ 13 := by rw [decS_size]; exact nd_13 gn
  have z2 : (decS d (nDigits d)).size ≤ 13 := by rw [decS_size]; exact nd_13 gd
  have z0 : (⟨#[47]⟩ : ByteArray).size = 1 := rfl
  have z3 : (⟨#[32]⟩ : ByteArray).size = 1 := rfl
  have F1 : Hid (∀ w', Pow w' → Calls Tryd.prog 33 #[.int .i64 (n : Int), .int .i64 10] w' fun e w'' => e = .returned (.string (decS n (nDigits n))) ∧ Below w'.heap.size w' w'') := Lib.hid fun w' h => (fmt_any n (by omega) w' h).mono fun e w'' h' => ⟨h'.1, h'.2.below⟩
  have F2 : Hid (∀ w', Pow w' → Calls Tryd.prog 33 #[.int .i64 (d : Int), .int .i64 10] w' fun e w'' => e = .returned (.string (decS d (nDigits d))) ∧ Below w'.heap.size w' w'') := Lib.hid fun w' h => (fmt_any d (by omega) w' h).mono fun e w'' h' => ⟨h'.1, h'.2.below⟩
  generalize decS n (nDigits n) = p at *
  generalize decS d (nDigits d) = q at *
  have e1 : (f ++ ⟨#[47]⟩).size = f.size + 1 := by rw [ByteArray.size_append]; rfl
  have e2 : (f ++ ⟨#[47]⟩ ++ t).size = f.size + 1 + t.size := by rw [ByteArray.size_append, e1]
  have e3 : (f ++ ⟨#[47]⟩ ++ t ++ ⟨#[32]⟩).size = f.size + 1 + t.size + 1 := by rw [ByteArray.size_append, e2]; rfl
  have e4 : (f ++ ⟨#[47]⟩ ++ t ++ ⟨#[32]⟩ ++ p).size = f.size + 1 + t.size + 1 + p.size := by rw [ByteArray.size_append, e3]
  have e5 : (f ++ ⟨#[47]⟩ ++ t ++ ⟨#[32]⟩ ++ p ++ ⟨#[47]⟩).size = f.size + 1 + t.size + 1 + p.size + 1 := by rw [ByteArray.size_append, e4]; rfl
  have v1 := fun w => run_string_add_sum (P := Tryd.prog) w f ⟨#[47]⟩ (by omega)
  have v2 := fun w => run_string_add_sum (P := Tryd.prog) w (f ++ ⟨#[47]⟩) t (by omega)
  have v3 := fun w => run_string_add_sum (P := Tryd.prog) w (f ++ ⟨#[47]⟩ ++ t) ⟨#[32]⟩ (by omega)
  have v4 := fun w => run_string_add_sum (P := Tryd.prog) w (f ++ ⟨#[47]⟩ ++ t ++ ⟨#[32]⟩) p (by omega)
  have v5 := fun w => run_string_add_sum (P := Tryd.prog) w (f ++ ⟨#[47]⟩ ++ t ++ ⟨#[32]⟩ ++ p) ⟨#[47]⟩ (by omega)
  have v6 := fun w => run_string_add_sum (P := Tryd.prog) w (f ++ ⟨#[47]⟩ ++ t ++ ⟨#[32]⟩ ++ p ++ ⟨#[47]⟩) q (by omega)
  clear gn gd H e1 e2 e3 e4 e5 z1 z2 hf ht
  go_enter Tryd.func15, Tryd.ntmps15
  go_wp2_with fail
  go_at_call 13
  with_reducible refine (CK.out _).mono ?_
  rintro x w1 ⟨rfl, hP⟩
  have hA : Blk (w.alloc (.cells #[.string f, .string t, .int .i64 (n : Int), .int .i64 (d : Int)] 23)) w.heap.size 23 #[.string f, .string t, .int .i64 (n : Int), .int .i64 (d : Int)] := Blk.new _ _ _
  have hA1 : Blk w1 w.heap.size 23 #[.string f, .string t, .int .i64 (n : Int), .int .i64 (d : Int)] := hA.below hP.below (by simp)
  have hB1 : Below w.heap.size w w1 := ((Below.refl _ _).alloc (Nat.le_refl _) _).trans (hP.below.mono (by simp))
  have hPw : Pow w1 := hT.later hB1 hw
  have c0 := hA1.cell 0
  have c1 := hA1.cell 1
  have c2 := hA1.cell 2
  have c3 := hA1.cell 3
  have hl := hA1.lt
  have hsz := hB1.size
  have KS : Hid (∀ w', Below w1.heap.size w1 w' → Below w1.heap.size w1 w' ∧ w'.cell? ⟨w.heap.size, 0, none⟩ = some (.string f) ∧ w'.cell? ⟨w.heap.size, 1, none⟩ = some (.string t) ∧ w'.cell? ⟨w.heap.size, 2, none⟩ = some (.int .i64 (n : Int)) ∧ w'.cell? ⟨w.heap.size, 3, none⟩ = some (.int .i64 (d : Int))) :=
    Lib.hid fun w' hw' => ⟨hw', (hA1.below hw' hl).cell 0, (hA1.below hw' hl).cell 1, (hA1.below hw' hl).cell 2, (hA1.below hw' hl).cell 3⟩
  have G1 : Hid (∀ w', Below w1.heap.size w1 w' → Calls Tryd.prog 33 #[.int .i64 (n : Int), .int .i64 10] w' fun e w'' => e = .returned (.string p) ∧ Below w1.heap.size w1 w'') := Lib.hid fun w' hb => (F1.out w' (hPw.later hb (by omega))).mono fun e w'' h => ⟨h.1, hb.trans (h.2.mono hb.size)⟩
  have G2 : Hid (∀ w', Below w1.heap.size w1 w' → Calls Tryd.prog 33 #[.int .i64 (d : Int), .int .i64 10] w' fun e w'' => e = .returned (.string q) ∧ Below w1.heap.size w1 w'') := Lib.hid fun w' hb => (F2.out w' (hPw.later hb (by omega))).mono fun e w'' h => ⟨h.1, hb.trans (h.2.mono hb.size)⟩
  have HB1 := Lib.hid hB1
  clear hA hA1 hP hB1 hPw CK F1 F2 hT hsz
  go_wp2_with fail
  go_region_held3 (fun w' => Below w1.heap.size w1 w' ∧ w'.cell? ⟨w.heap.size, 0, none⟩ = some (.string f) ∧ w'.cell? ⟨w.heap.size, 1, none⟩ = some (.string t) ∧ w'.cell? ⟨w.heap.size, 2, none⟩ = some (.int .i64 (n : Int)) ∧ w'.cell? ⟨w.heap.size, 3, none⟩ = some (.int .i64 (d : Int))) (exact KS.out _ (by repeat (first | with_reducible exact Below.refl _ _ | with_reducible assumption | with_reducible refine Below.drew ?_ | with_reducible refine bel_alloc ?_ _ | with_reducible refine bel_drewN ?_ _))) (first | (go_at_call 33; with_reducible refine (G1.out _ (by repeat (first | with_reducible exact Below.refl _ _ | with_reducible assumption | with_reducible refine Below.drew ?_ | with_reducible refine bel_alloc ?_ _ | with_reducible refine bel_drewN ?_ _))).mono ?_; rintro e w2 ⟨rfl, hbX⟩) | (go_at_call 33; with_reducible refine (G2.out _ (by repeat (first | with_reducible exact Below.refl _ _ | with_reducible assumption | with_reducible refine Below.drew ?_ | with_reducible refine bel_alloc ?_ _ | with_reducible refine bel_drewN ?_ _))).mono ?_; rintro e w3 ⟨rfl, hbY⟩))
  all_goals go_wp2
  all_goals go_ret
  all_goals exact ⟨ret_str HF.out.symm, HB1.out.trans (Below.mono (by repeat (first | with_reducible exact Below.refl _ _ | with_reducible assumption | with_reducible refine Below.drew ?_ | with_reducible refine bel_alloc ?_ _ | with_reducible refine bel_drewN ?_ _)) HB1.out.size)⟩
theorem rfmt_err (f t : ByteArray) (n d : Int) (hf : f.size ≤ 1000000) (ht : t.size ≤ 1000000) {e : Int} (H : Hid (chkR f t n d = e)) (he : (e != 0) = true) (w : World) : Calls Tryd.prog 16 #[.agg #[.string f, .string t, .int .i64 n, .int .i64 d]] w fun x w' => x = .returned (.string ⟨#[]⟩) ∧ Pushed w w' := by
  have CK := Lib.hid (fun w => rchk_any f t n d hf ht H w)
  go_enter Tryd.func16, Tryd.ntmps16
  go_wp2_with fail
  go_at_call 14
  with_reducible refine (CK.out _).mono ?_
  rintro x w1 ⟨rfl, l0, n0, rfl⟩
  go_wp2
  go_ret
  exact ⟨rfl, (by repeat (first | with_reducible exact Pushed.refl _ | with_reducible assumption | with_reducible refine Pushed.push ?_ _ | with_reducible refine Pushed.alloc ?_ _ | with_reducible refine Pushed.drewN ?_ _ | with_reducible refine Pushed.drew ?_))⟩
set_option maxHeartbeats 3200000 in
theorem rfmt_ok (f t : ByteArray) (n d : Nat) (hf : f.size ≤ 1000) (ht : t.size ≤ 1000) (H : Hid (chkR f t n d = 0)) (gn : n ≤ 1099511627776) (gd : d ≤ 1099511627776) (w : World) (hT : Pow w) (hw : 8 ≤ w.heap.size) : Calls Tryd.prog 16 #[.agg #[.string f, .string t, .int .i64 (n : Int), .int .i64 (d : Int)]] w fun x w' => x = .returned (.string (fmtR f t n d)) ∧ Below w.heap.size w w' := by
  have CK := Lib.hid (fun w => rchk_any f t n d (by omega) (by omega) H w)
  have HF : Hid (fmtR f t n d = f ++ ⟨#[47]⟩ ++ t ++ ⟨#[32]⟩ ++ decS n (nDigits n) ++ ⟨#[47]⟩ ++ decS d (nDigits d)) := Lib.hid rfl
  have z1 : (decS n (nDigits n)).size ≤ 13 := by rw [decS_size]; exact nd_13 gn
  have z2 : (decS d (nDigits d)).size ≤ 13 := by rw [decS_size]; exact nd_13 gd
  have z0 : (⟨#[47]⟩ : ByteArray).size = 1 := rfl
  have z3 : (⟨#[32]⟩ : ByteArray).size = 1 := rfl
  have F1 : Hid (∀ w', Pow w' → Calls Tryd.prog 33 #[.int .i64 (n : Int), .int .i64 10] w' fun e w'' => e = .returned (.string (decS n (nDigits n))) ∧ Below w'.heap.size w' w'') := Lib.hid fun w' h => (fmt_any n (by omega) w' h).mono fun e w'' h' => ⟨h'.1, h'.2.below⟩
  have F2 : Hid (∀ w', Pow w' → Calls Tryd.prog 33 #[.int .i64 (d : Int), .int .i64 10] w' fun e w'' => e = .returned (.string (decS d (nDigits d))) ∧ Below w'.heap.size w' w'') := Lib.hid fun w' h => (fmt_any d (by omega) w' h).mono fun e w'' h' => ⟨h'.1, h'.2.below⟩
  generalize decS n (nDigits n) = p at *
  generalize decS d (nDigits d) = q at *
  have e1 : (f ++ ⟨#[47]⟩).size = f.size + 1 := by rw [ByteArray.size_append]; rfl
  have e2 : (f ++ ⟨#[47]⟩ ++ t).size = f.size + 1 + t.size := by rw [ByteArray.size_append, e1]
  have e3 : (f ++ ⟨#[47]⟩ ++ t ++ ⟨#[32]⟩).size = f.size + 1 + t.size + 1 := by rw [ByteArray.size_append, e2]; rfl
  have e4 : (f ++ ⟨#[47]⟩ ++ t ++ ⟨#[32]⟩ ++ p).size = f.size + 1 + t.size + 1 + p.size := by rw [ByteArray.size_append, e3]
  have e5 : (f ++ ⟨#[47]⟩ ++ t ++ ⟨#[32]⟩ ++ p ++ ⟨#[47]⟩).size = f.size + 1 + t.size + 1 + p.size + 1 := by rw [ByteArray.size_append, e4]; rfl
  have v1 := fun w => run_string_add_sum (P := Tryd.prog) w f ⟨#[47]⟩ (by omega)
  have v2 := fun w => run_string_add_sum (P := Tryd.prog) w (f ++ ⟨#[47]⟩) t (by omega)
  have v3 := fun w => run_string_add_sum (P := Tryd.prog) w (f ++ ⟨#[47]⟩ ++ t) ⟨#[32]⟩ (by omega)
  have v4 := fun w => run_string_add_sum (P := Tryd.prog) w (f ++ ⟨#[47]⟩ ++ t ++ ⟨#[32]⟩) p (by omega)
  have v5 := fun w => run_string_add_sum (P := Tryd.prog) w (f ++ ⟨#[47]⟩ ++ t ++ ⟨#[32]⟩ ++ p) ⟨#[47]⟩ (by omega)
  have v6 := fun w => run_string_add_sum (P := Tryd.prog) w (f ++ ⟨#[47]⟩ ++ t ++ ⟨#[32]⟩ ++ p ++ ⟨#[47]⟩) q (by omega)
  clear gn gd H e1 e2 e3 e4 e5 z1 z2 hf ht
  go_enter Tryd.func16, Tryd.ntmps16
  go_wp2_with fail
  go_at_call 14
  with_reducible refine (CK.out _).mono ?_
  rintro x w1 ⟨rfl, hP⟩
  have hA : Blk (w.alloc (.cells #[.string f, .string t, .int .i64 (n : Int), .int .i64 (d : Int)] 23)) w.heap.size 23 #[.string f, .string t, .int .i64 (n : Int), .int .i64 (d : Int)] := Blk.new _ _ _
  have hA1 : Blk w1 w.heap.size 23 #[.string f, .string t, .int .i64 (n : Int), .int .i64 (d : Int)] := hA.below hP.below (by simp)
  have hB1 : Below w.heap.size w w1 := ((Below.refl _ _).alloc (Nat.le_refl _) _).trans (hP.below.mono (by simp))
  have hPw : Pow w1 := hT.later hB1 hw
  have c0 := hA1.cell 0
  have c1 := hA1.cell 1
  have c2 := hA1.cell 2
  have c3 := hA1.cell 3
  have hl := hA1.lt
  have hsz := hB1.size
  have KS : Hid (∀ w', Below w1.heap.size w1 w' → Below w1.heap.size w1 w' ∧ w'.cell? ⟨w.heap.size, 0, none⟩ = some (.string f) ∧ w'.cell? ⟨w.heap.size, 1, none⟩ = some (.string t) ∧ w'.cell? ⟨w.heap.size, 2, none⟩ = some (.int .i64 (n : Int)) ∧ w'.cell? ⟨w.heap.size, 3, none⟩ = some (.int .i64 (d : Int))) :=
    Lib.hid fun w' hw' => ⟨hw', (hA1.below hw' hl).cell 0, (hA1.below hw' hl).cell 1, (hA1.below hw' hl).cell 2, (hA1.below hw' hl).cell 3⟩
  have G1 : Hid (∀ w', Below w1.heap.size w1 w' → Calls Tryd.prog 33 #[.int .i64 (n : Int), .int .i64 10] w' fun e w'' => e = .returned (.string p) ∧ Below w1.heap.size w1 w'') := Lib.hid fun w' hb => (F1.out w' (hPw.later hb (by omega))).mono fun e w'' h => ⟨h.1, hb.trans (h.2.mono hb.size)⟩
  have G2 : Hid (∀ w', Below w1.heap.size w1 w' → Calls Tryd.prog 33 #[.int .i64 (d : Int), .int .i64 10] w' fun e w'' => e = .returned (.string q) ∧ Below w1.heap.size w1 w'') := Lib.hid fun w' hb => (F2.out w' (hPw.later hb (by omega))).mono fun e w'' h => ⟨h.1, hb.trans (h.2.mono hb.size)⟩
  have HB1 := Lib.hid hB1
  clear hA hA1 hP hB1 hPw CK F1 F2 hT hsz
  go_wp2_with fail
  go_region_held3 (fun w' => Below w1.heap.size w1 w' ∧ w'.cell? ⟨w.heap.size, 0, none⟩ = some (.string f) ∧ w'.cell? ⟨w.heap.size, 1, none⟩ = some (.string t) ∧ w'.cell? ⟨w.heap.size, 2, none⟩ = some (.int .i64 (n : Int)) ∧ w'.cell? ⟨w.heap.size, 3, none⟩ = some (.int .i64 (d : Int))) (exact KS.out _ (by repeat (first | with_reducible exact Below.refl _ _ | with_reducible assumption | with_reducible refine Below.drew ?_ | with_reducible refine bel_alloc ?_ _ | with_reducible refine bel_drewN ?_ _))) (first | (go_at_call 33; with_reducible refine (G1.out _ (by repeat (first | with_reducible exact Below.refl _ _ | with_reducible assumption | with_reducible refine Below.drew ?_ | with_reducible refine bel_alloc ?_ _ | with_reducible refine bel_drewN ?_ _))).mono ?_; rintro e w2 ⟨rfl, hbX⟩) | (go_at_call 33; with_reducible refine (G2.out _ (by repeat (first | with_reducible exact Below.refl _ _ | with_reducible assumption | with_reducible refine Below.drew ?_ | with_reducible refine bel_alloc ?_ _ | with_reducible refine bel_drewN ?_ _))).mono ?_; rintro e w3 ⟨rfl, hbY⟩))
  all_goals go_wp2
  all_goals go_ret
  all_goals exact ⟨ret_str HF.out.symm, HB1.out.trans (Below.mono (by repeat (first | with_reducible exact Below.refl _ _ | with_reducible assumption | with_reducible refine Below.drew ?_ | with_reducible refine bel_alloc ?_ _ | with_reducible refine bel_drewN ?_ _)) HB1.out.size)⟩
end Go.Proofs.YtobnkfgikafanaaDoor
