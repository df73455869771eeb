/-
  CONTRACTS of amounts: the checks of two amounts, sums, differences, comparisons: the program's and the specification's.
-/
import Derived.Test.YtompkkanckejjaaDoorM2
import Derived.Test.YtompkkanckejjaaDoorM3
namespace Go.Proofs.YtompkkanckejjaaDoor
open Go.RowKit
set_option linter.unusedVariables false
set_option linter.unusedSimpArgs false
theorem str_ne {f t : ByteArray} (h : f ≠ t) : (f.toList == t.toList) = false := by
  rw [beq_eq_false_iff_ne]
  intro he
  rw [ByteArray.toList_eq, ByteArray.toList_eq] at he
  exact h (ByteArray.ext (Array.ext' he))
theorem mchk_curP {m : Int} {c : ByteArray} (h : mchkR m c = 0) : curP c ∧ -4503599627370496 ≤ m ∧ m ≤ 4503599627370496 := by
  unfold mchkR at h
  split at h
  · split at h
    · rename_i a b; exact ⟨a, b⟩
    · omega
  · omega
theorem mchk_big {m : Int} {c : ByteArray} (h : curP c) (hm : ¬ (-4503599627370496 ≤ m ∧ m ≤ 4503599627370496)) : mchkR m c = 4 := by rw [mchkR, if_pos h, if_neg hm]
theorem mchk_fit {m : Int} {c : ByteArray} (h : curP c) (hm : -4503599627370496 ≤ m ∧ m ≤ 4503599627370496) : mchkR m c = 0 := by rw [mchkR, if_pos h, if_pos hm]
theorem ne_b {e : Int} (h : ¬ e = 0) : (e != 0) = true := by simp [h]
/-- The first error of two amounts. -/
def pairR (a : Int) (c : ByteArray) (b : Int) (d : ByteArray) : Int := if mchkR a c = 0 then (if mchkR b d = 0 then (if c = d then 0 else 11) else mchkR b d) else mchkR a c
def cmpR (a b : Int) : Int := if a < b then -1 else if b < a then 1 else 0
set_option maxRecDepth 20000 in
set_option maxHeartbeats 6400000 in
theorem pair_any (a : Int) (c : ByteArray) (b : Int) (d : ByteArray) (hc : c.size ≤ 9223372036854775807) (hd : d.size ≤ 9223372036854775807) {e : Int} (H : Hid (pairR a c b d = e)) (w : World) : Calls Tryd.prog 29 #[.agg #[.int .i64 a, .string c], .agg #[.int .i64 b, .string d]] w fun x w' => x = .returned (.int .i64 e) ∧ Pushed w w' := by
  by_cases h1 : mchkR a c = 0
  case neg =>
    have C1 := Lib.hid (fun w => mchk_any a c hc (Lib.hid (rfl : mchkR a c = mchkR a c)) w)
    have HE : Hid (mchkR a c = e) := Lib.hid (by rw [← H.out, pairR, if_neg h1])
    have g := ne_b h1
    generalize mchkR a c = f at *
    clear h1 H hc hd
    go_enter Tryd.func29, Tryd.ntmps29
    go_wp2_with fail
    with_reducible refine (C1.out _).mono ?_
    rintro x w1 ⟨rfl, l0, n0, rfl⟩
    go_wp2
    go_ret
    exact ⟨ret_int HE.out, (by repeat (first | with_reducible exact Pushed.refl _ | with_reducible assumption | with_reducible refine Pushed.push ?_ _ | with_reducible refine Pushed.alloc ?_ _ | with_reducible refine Pushed.drewN ?_ _ | with_reducible refine Pushed.drew ?_))⟩
  have C1 := Lib.hid (fun w => mchk_any a c hc (Lib.hid h1) w)
  by_cases h2 : mchkR b d = 0
  case neg =>
    have C2 := Lib.hid (fun w => mchk_any b d hd (Lib.hid (rfl : mchkR b d = mchkR b d)) w)
    have HE : Hid (mchkR b d = e) := Lib.hid (by rw [← H.out, pairR, if_pos h1, if_neg h2])
    have g := ne_b h2
    generalize mchkR b d = f at *
    clear h1 h2 H hc hd
    go_enter Tryd.func29, Tryd.ntmps29
    go_wp2_with fail
    with_reducible refine (C1.out _).mono ?_
    rintro x w1 ⟨rfl, l0, n0, rfl⟩
    go_wp2_with fail
    with_reducible refine (C2.out _).mono ?_
    rintro x w1 ⟨rfl, l1, n1, rfl⟩
    go_wp2
    go_ret
    exact ⟨ret_int HE.out, (by repeat (first | with_reducible exact Pushed.refl _ | with_reducible assumption | with_reducible refine Pushed.push ?_ _ | with_reducible refine Pushed.alloc ?_ _ | with_reducible refine Pushed.drewN ?_ _ | with_reducible refine Pushed.drew ?_))⟩
  have C2 := Lib.hid (fun w => mchk_any b d hd (Lib.hid h2) w)
  by_cases h3 : c = d
  · have HE : Hid (0 = e) := Lib.hid (by rw [← H.out, pairR, if_pos h1, if_pos h2, if_pos h3])
    subst h3
    clear h1 h2 H hc hd
    go_enter Tryd.func29, Tryd.ntmps29
    go_wp2_with fail
    with_reducible refine (C1.out _).mono ?_
    rintro x w1 ⟨rfl, l0, n0, rfl⟩
    go_wp2_with fail
    with_reducible refine (C2.out _).mono ?_
    rintro x w1 ⟨rfl, l1, n1, rfl⟩
    go_wp2
    go_ret
    exact ⟨ret_int HE.out, (by repeat (first | with_reducible exact Pushed.refl _ | with_reducible assumption | with_reducible refine Pushed.push ?_ _ | with_reducible refine Pushed.alloc ?_ _ | with_reducible refine Pushed.drewN ?_ _ | with_reducible refine Pushed.drew ?_))⟩
  · have HE : Hid (11 = e) := Lib.hid (by rw [← H.out, pairR, if_pos h1, if_pos h2, if_neg h3])
    have g := str_ne h3
    clear h1 h2 h3 H hc hd
    go_enter Tryd.func29, Tryd.ntmps29
    go_wp2_with fail
    with_reducible refine (C1.out _).mono ?_
    rintro x w1 ⟨rfl, l0, n0, rfl⟩
    go_wp2_with fail
    with_reducible refine (C2.out _).mono ?_
    rintro x w1 ⟨rfl, l1, n1, rfl⟩
    go_wp2
    go_ret
    exact ⟨ret_int HE.out, (by repeat (first | with_reducible exact Pushed.refl _ | with_reducible assumption | with_reducible refine Pushed.push ?_ _ | with_reducible refine Pushed.alloc ?_ _ | with_reducible refine Pushed.drewN ?_ _ | with_reducible refine Pushed.drew ?_))⟩
set_option maxRecDepth 20000 in
set_option maxHeartbeats 6400000 in
theorem rpair_any (a : Int) (c : ByteArray) (b : Int) (d : ByteArray) (hc : c.size ≤ 9223372036854775807) (hd : d.size ≤ 9223372036854775807) {e : Int} (H : Hid (pairR a c b d = e)) (w : World) : Calls Tryd.prog 31 #[.agg #[.int .i64 a, .string c], .agg #[.int .i64 b, .string d]] w fun x w' => x = .returned (.int .i64 e) ∧ Pushed w w' := by
  by_cases h1 : mchkR a c = 0
  case neg =>
    have C1 := Lib.hid (fun w => rmchk_any a c hc (Lib.hid (rfl : mchkR a c = mchkR a c)) w)
    have HE : Hid (mchkR a c = e) := Lib.hid (by rw [← H.out, pairR, if_neg h1])
    have g := ne_b h1
    generalize mchkR a c = f at *
    clear h1 H hc hd
    go_enter Tryd.func31, Tryd.ntmps31
    go_wp2_with fail
    with_reducible refine (C1.out _).mono ?_
    rintro x w1 ⟨rfl, l0, n0, rfl⟩
    go_wp2_with fail
    with_reducible refine (C1.out _).mono ?_
    rintro x w1 ⟨rfl, l1, n1, rfl⟩
    go_wp2
    go_ret
    exact ⟨ret_int HE.out, (by repeat (first | with_reducible exact Pushed.refl _ | with_reducible assumption | with_reducible refine Pushed.push ?_ _ | with_reducible refine Pushed.alloc ?_ _ | with_reducible refine Pushed.drewN ?_ _ | with_reducible refine Pushed.drew ?_))⟩
  have C1 := Lib.hid (fun w => rmchk_any a c hc (Lib.hid h1) w)
  by_cases h2 : mchkR b d = 0
  case neg =>
    have C2 := Lib.hid (fun w => rmchk_any b d hd (Lib.hid (rfl : mchkR b d = mchkR b d)) w)
    have HE : Hid (mchkR b d = e) := Lib.hid (by rw [← H.out, pairR, if_pos h1, if_neg h2])
    have g := ne_b h2
    generalize mchkR b d = f at *
    clear h1 h2 H hc hd
    go_enter Tryd.func31, Tryd.ntmps31
    go_wp2_with fail
    with_reducible refine (C1.out _).mono ?_
    rintro x w1 ⟨rfl, l0, n0, rfl⟩
    go_wp2_with fail
    with_reducible refine (C2.out _).mono ?_
    rintro x w1 ⟨rfl, l1, n1, rfl⟩
    go_wp2_with fail
    with_reducible refine (C2.out _).mono ?_
    rintro x w1 ⟨rfl, l2, n2, rfl⟩
    go_wp2
    go_ret
    exact ⟨ret_int HE.out, (by repeat (first | with_reducible exact Pushed.refl _ | with_reducible assumption | with_reducible refine Pushed.push ?_ _ | with_reducible refine Pushed.alloc ?_ _ | with_reducible refine Pushed.drewN ?_ _ | with_reducible refine Pushed.drew ?_))⟩
  have C2 := Lib.hid (fun w => rmchk_any b d hd (Lib.hid h2) w)
  by_cases h3 : c = d
  · have HE : Hid (0 = e) := Lib.hid (by rw [← H.out, pairR, if_pos h1, if_pos h2, if_pos h3])
    subst h3
    clear h1 h2 H hc hd
    go_enter Tryd.func31, Tryd.ntmps31
    go_wp2_with fail
    with_reducible refine (C1.out _).mono ?_
    rintro x w1 ⟨rfl, l0, n0, rfl⟩
    go_wp2_with fail
    with_reducible refine (C2.out _).mono ?_
    rintro x w1 ⟨rfl, l1, n1, rfl⟩
    go_wp2
    go_ret
    exact ⟨ret_int HE.out, (by repeat (first | with_reducible exact Pushed.refl _ | with_reducible assumption | with_reducible refine Pushed.push ?_ _ | with_reducible refine Pushed.alloc ?_ _ | with_reducible refine Pushed.drewN ?_ _ | with_reducible refine Pushed.drew ?_))⟩
  · have HE : Hid (11 = e) := Lib.hid (by rw [← H.out, pairR, if_pos h1, if_pos h2, if_neg h3])
    have g := str_ne h3
    clear h1 h2 h3 H hc hd
    go_enter Tryd.func31, Tryd.ntmps31
    go_wp2_with fail
    with_reducible refine (C1.out _).mono ?_
    rintro x w1 ⟨rfl, l0, n0, rfl⟩
    go_wp2_with fail
    with_reducible refine (C2.out _).mono ?_
    rintro x w1 ⟨rfl, l1, n1, rfl⟩
    go_wp2
    go_ret
    exact ⟨ret_int HE.out, (by repeat (first | with_reducible exact Pushed.refl _ | with_reducible assumption | with_reducible refine Pushed.push ?_ _ | with_reducible refine Pushed.alloc ?_ _ | with_reducible refine Pushed.drewN ?_ _ | with_reducible refine Pushed.drew ?_))⟩
set_option maxRecDepth 20000 in
set_option maxHeartbeats 6400000 in
theorem add_e (a : Int) (c : ByteArray) (b : Int) (d : ByteArray) (hc : c.size ≤ 9223372036854775807) (hd : d.size ≤ 9223372036854775807) {e : Int} (H : Hid (pairR a c b d = e)) (he : (e != 0) = true) (w : World) : Calls Tryd.prog 10 #[.agg #[.int .i64 a, .string c], .agg #[.int .i64 b, .string d]] w fun x w' => x = .returned (.tuple #[.agg #[.int .i64 0, .string ⟨#[]⟩], .int .i64 e]) ∧ Pushed w w' := by
  have C1 := Lib.hid (fun w => pair_any a c b d hc hd H w)
  clear H hc hd
  go_enter Tryd.func10, Tryd.ntmps10
  go_wp2_with fail
  with_reducible refine (C1.out _).mono ?_
  rintro x w1 ⟨rfl, l0, n0, rfl⟩
  go_wp2
  exact bodyPost_ret (v := .tuple #[.agg #[.int .i64 0, .string ⟨#[]⟩], .int .i64 e]) (by simp [results, Tryd.results10, go_sem]) rfl ⟨rfl, (by repeat (first | with_reducible exact Pushed.refl _ | with_reducible assumption | with_reducible refine Pushed.push ?_ _ | with_reducible refine Pushed.alloc ?_ _ | with_reducible refine Pushed.drewN ?_ _ | with_reducible refine Pushed.drew ?_))⟩
set_option maxRecDepth 20000 in
set_option maxHeartbeats 6400000 in
theorem add_ok (a : Int) (c : ByteArray) (b : Int) (d : ByteArray) (hc : c.size ≤ 9223372036854775807) (hd : d.size ≤ 9223372036854775807) (hb : curP c ∧ -4503599627370496 ≤ a ∧ a ≤ 4503599627370496 ∧ -4503599627370496 ≤ b ∧ b ≤ 4503599627370496) (H : Hid (pairR a c b d = 0)) (hs : (-4503599627370496 ≤ a + b ∧ a + b ≤ 4503599627370496)) (w : World) : Calls Tryd.prog 10 #[.agg #[.int .i64 a, .string c], .agg #[.int .i64 b, .string d]] w fun x w' => x = .returned (.tuple #[.agg #[.int .i64 (a + b), .string c], .int .i64 0]) ∧ Pushed w w' := by
  have C1 := Lib.hid (fun w => pair_any a c b d hc hd H w)
  obtain ⟨g0, g1, g2, g3, g4⟩ := hb
  have C2 := Lib.hid (fun w => valid_ok (a + b) c hc (Lib.hid (mchk_fit g0 hs)) w)
  clear H hc hd hs g0
  go_enter Tryd.func10, Tryd.ntmps10
  go_wp2_with fail
  with_reducible refine (C1.out _).mono ?_
  rintro x w1 ⟨rfl, l0, n0, rfl⟩
  go_wp2_with fail
  with_reducible refine (C2.out _).mono ?_
  rintro x w1 ⟨rfl, l1, n1, rfl⟩
  go_wp2
  exact bodyPost_ret (v := .tuple #[.agg #[.int .i64 (a + b), .string c], .int .i64 0]) (by simp [results, Tryd.results10, go_sem]) rfl ⟨rfl, (by repeat (first | with_reducible exact Pushed.refl _ | with_reducible assumption | with_reducible refine Pushed.push ?_ _ | with_reducible refine Pushed.alloc ?_ _ | with_reducible refine Pushed.drewN ?_ _ | with_reducible refine Pushed.drew ?_))⟩
set_option maxRecDepth 20000 in
set_option maxHeartbeats 6400000 in
theorem add_big (a : Int) (c : ByteArray) (b : Int) (d : ByteArray) (hc : c.size ≤ 9223372036854775807) (hd : d.size ≤ 9223372036854775807) (hb : curP c ∧ -4503599627370496 ≤ a ∧ a ≤ 4503599627370496 ∧ -4503599627370496 ≤ b ∧ b ≤ 4503599627370496) (H : Hid (pairR a c b d = 0)) (hs : ¬ (-4503599627370496 ≤ a + b ∧ a + b ≤ 4503599627370496)) (w : World) : Calls Tryd.prog 10 #[.agg #[.int .i64 a, .string c], .agg #[.int .i64 b, .string d]] w fun x w' => x = .returned (.tuple #[.agg #[.int .i64 0, .string ⟨#[]⟩], .int .i64 4]) ∧ Pushed w w' := by
  have C1 := Lib.hid (fun w => pair_any a c b d hc hd H w)
  obtain ⟨g0, g1, g2, g3, g4⟩ := hb
  have C2 := Lib.hid (fun w => valid_err (a + b) c hc (Lib.hid (mchk_big g0 hs)) rfl w)
  clear H hc hd hs g0
  go_enter Tryd.func10, Tryd.ntmps10
  go_wp2_with fail
  with_reducible refine (C1.out _).mono ?_
  rintro x w1 ⟨rfl, l0, n0, rfl⟩
  go_wp2_with fail
  with_reducible refine (C2.out _).mono ?_
  rintro x w1 ⟨rfl, l1, n1, rfl⟩
  go_wp2
  exact bodyPost_ret (v := .tuple #[.agg #[.int .i64 0, .string ⟨#[]⟩], .int .i64 4]) (by simp [results, Tryd.results10, go_sem]) rfl ⟨rfl, (by repeat (first | with_reducible exact Pushed.refl _ | with_reducible assumption | with_reducible refine Pushed.push ?_ _ | with_reducible refine Pushed.alloc ?_ _ | with_reducible refine Pushed.drewN ?_ _ | with_reducible refine Pushed.drew ?_))⟩
set_option maxRecDepth 20000 in
set_option maxHeartbeats 6400000 in
theorem radd_e (a : Int) (c : ByteArray) (b : Int) (d : ByteArray) (hc : c.size ≤ 9223372036854775807) (hd : d.size ≤ 9223372036854775807) {e : Int} (H : Hid (pairR a c b d = e)) (he : (e != 0) = true) (w : World) : Calls Tryd.prog 11 #[.agg #[.int .i64 a, .string c], .agg #[.int .i64 b, .string d]] w fun x w' => x = .returned (.tuple #[.agg #[.int .i64 0, .string ⟨#[]⟩], .int .i64 e]) ∧ Pushed w w' := by
  have C1 := Lib.hid (fun w => rpair_any a c b d hc hd H w)
  clear H hc hd
  go_enter Tryd.func11, Tryd.ntmps11
  go_wp2_with fail
  with_reducible refine (C1.out _).mono ?_
  rintro x w1 ⟨rfl, l0, n0, rfl⟩
  go_wp2
  exact bodyPost_ret (v := .tuple #[.agg #[.int .i64 0, .string ⟨#[]⟩], .int .i64 e]) (by simp [results, Tryd.results11, go_sem]) rfl ⟨rfl, (by repeat (first | with_reducible exact Pushed.refl _ | with_reducible assumption | with_reducible refine Pushed.push ?_ _ | with_reducible refine Pushed.alloc ?_ _ | with_reducible refine Pushed.drewN ?_ _ | with_reducible refine Pushed.drew ?_))⟩
set_option maxRecDepth 20000 in
set_option maxHeartbeats 6400000 in
theorem radd_ok (a : Int) (c : ByteArray) (b : Int) (d : ByteArray) (hc : c.size ≤ 9223372036854775807) (hd : d.size ≤ 9223372036854775807) (hb : curP c ∧ -4503599627370496 ≤ a ∧ a ≤ 4503599627370496 ∧ -4503599627370496 ≤ b ∧ b ≤ 4503599627370496) (H : Hid (pairR a c b d = 0)) (hs : (-4503599627370496 ≤ a + b ∧ a + b ≤ 4503599627370496)) (w : World) : Calls Tryd.prog 11 #[.agg #[.int .i64 a, .string c], .agg #[.int .i64 b, .string d]] w fun x w' => x = .returned (.tuple #[.agg #[.int .i64 (a + b), .string c], .int .i64 0]) ∧ Pushed w w' := by
  have C1 := Lib.hid (fun w => rpair_any a c b d hc hd H w)
  obtain ⟨g0, g1, g2, g3, g4⟩ := hb
  have C2 := Lib.hid (fun w => within_any (a + b) (Lib.hid (decide_eq_true hs)) w)
  clear H hc hd hs g0
  go_enter Tryd.func11, Tryd.ntmps11
  go_wp2_with fail
  with_reducible refine (C1.out _).mono ?_
  rintro x w1 ⟨rfl, l0, n0, rfl⟩
  go_wp2_with fail
  with_reducible refine (C2.out _).mono ?_
  rintro x w1 ⟨rfl, rfl⟩
  go_wp2
  exact bodyPost_ret (v := .tuple #[.agg #[.int .i64 (a + b), .string c], .int .i64 0]) (by simp [results, Tryd.results11, go_sem]) rfl ⟨rfl, (by repeat (first | with_reducible exact Pushed.refl _ | with_reducible assumption | with_reducible refine Pushed.push ?_ _ | with_reducible refine Pushed.alloc ?_ _ | with_reducible refine Pushed.drewN ?_ _ | with_reducible refine Pushed.drew ?_))⟩
set_option maxRecDepth 20000 in
set_option maxHeartbeats 6400000 in
theorem radd_big (a : Int) (c : ByteArray) (b : Int) (d : ByteArray) (hc : c.size ≤ 9223372036854775807) (hd : d.size ≤ 9223372036854775807) (hb : curP c ∧ -4503599627370496 ≤ a ∧ a ≤ 4503599627370496 ∧ -4503599627370496 ≤ b ∧ b ≤ 4503599627370496) (H : Hid (pairR a c b d = 0)) (hs : ¬ (-4503599627370496 ≤ a + b ∧ a + b ≤ 4503599627370496)) (w : World) : Calls Tryd.prog 11 #[.agg #[.int .i64 a, .string c], .agg #[.int .i64 b, .string d]] w fun x w' => x = .returned (.tuple #[.agg #[.int .i64 0, .string ⟨#[]⟩], .int .i64 4]) ∧ Pushed w w' := by
  have C1 := Lib.hid (fun w => rpair_any a c b d hc hd H w)
  obtain ⟨g0, g1, g2, g3, g4⟩ := hb
  have C2 := Lib.hid (fun w => within_any (a + b) (Lib.hid (decide_eq_false hs)) w)
  clear H hc hd hs g0
  go_enter Tryd.func11, Tryd.ntmps11
  go_wp2_with fail
  with_reducible refine (C1.out _).mono ?_
  rintro x w1 ⟨rfl, l0, n0, rfl⟩
  go_wp2_with fail
  with_reducible refine (C2.out _).mono ?_
  rintro x w1 ⟨rfl, rfl⟩
  go_wp2
  exact bodyPost_ret (v := .tuple #[.agg #[.int .i64 0, .string ⟨#[]⟩], .int .i64 4]) (by simp [results, Tryd.results11, go_sem]) rfl ⟨rfl, (by repeat (first | with_reducible exact Pushed.refl _ | with_reducible assumption | with_reducible refine Pushed.push ?_ _ | with_reducible refine Pushed.alloc ?_ _ | with_reducible refine Pushed.drewN ?_ _ | with_reducible refine Pushed.drew ?_))⟩
set_option maxRecDepth 20000 in
set_option maxHeartbeats 6400000 in
theorem sub_e (a : Int) (c : ByteArray) (b : Int) (d : ByteArray) (hc : c.size ≤ 9223372036854775807) (hd : d.size ≤ 9223372036854775807) {e : Int} (H : Hid (pairR a c b d = e)) (he : (e != 0) = true) (w : World) : Calls Tryd.prog 12 #[.agg #[.int .i64 a, .string c], .agg #[.int .i64 b, .string d]] w fun x w' => x = .returned (.tuple #[.agg #[.int .i64 0, .string ⟨#[]⟩], .int .i64 e]) ∧ Pushed w w' := by
  have C1 := Lib.hid (fun w => pair_any a c b d hc hd H w)
  clear H hc hd
  go_enter Tryd.func12, Tryd.ntmps12
  go_wp2_with fail
  with_reducible refine (C1.out _).mono ?_
  rintro x w1 ⟨rfl, l0, n0, rfl⟩
  go_wp2
  exact bodyPost_ret (v := .tuple #[.agg #[.int .i64 0, .string ⟨#[]⟩], .int .i64 e]) (by simp [results, Tryd.results12, go_sem]) rfl ⟨rfl, (by repeat (first | with_reducible exact Pushed.refl _ | with_reducible assumption | with_reducible refine Pushed.push ?_ _ | with_reducible refine Pushed.alloc ?_ _ | with_reducible refine Pushed.drewN ?_ _ | with_reducible refine Pushed.drew ?_))⟩
set_option maxRecDepth 20000 in
set_option maxHeartbeats 6400000 in
theorem sub_ok (a : Int) (c : ByteArray) (b : Int) (d : ByteArray) (hc : c.size ≤ 9223372036854775807) (hd : d.size ≤ 9223372036854775807) (hb : curP c ∧ -4503599627370496 ≤ a ∧ a ≤ 4503599627370496 ∧ -4503599627370496 ≤ b ∧ b ≤ 4503599627370496) (H : Hid (pairR a c b d = 0)) (hs : (-4503599627370496 ≤ a - b ∧ a - b ≤ 4503599627370496)) (w : World) : Calls Tryd.prog 12 #[.agg #[.int .i64 a, .string c], .agg #[.int .i64 b, .string d]] w fun x w' => x = .returned (.tuple #[.agg #[.int .i64 (a - b), .string c], .int .i64 0]) ∧ Pushed w w' := by
  have C1 := Lib.hid (fun w => pair_any a c b d hc hd H w)
  obtain ⟨g0, g1, g2, g3, g4⟩ := hb
  have C2 := Lib.hid (fun w => valid_ok (a - b) c hc (Lib.hid (mchk_fit g0 hs)) w)
  clear H hc hd hs g0
  go_enter Tryd.func12, Tryd.ntmps12
  go_wp2_with fail
  with_reducible refine (C1.out _).mono ?_
  rintro x w1 ⟨rfl, l0, n0, rfl⟩
  go_wp2_with fail
  with_reducible refine (C2.out _).mono ?_
  rintro x w1 ⟨rfl, l1, n1, rfl⟩
  go_wp2
  exact bodyPost_ret (v := .tuple #[.agg #[.int .i64 (a - b), .string c], .int .i64 0]) (by simp [results, Tryd.results12, go_sem]) rfl ⟨rfl, (by repeat (first | with_reducible exact Pushed.refl _ | with_reducible assumption | with_reducible refine Pushed.push ?_ _ | with_reducible refine Pushed.alloc ?_ _ | with_reducible refine Pushed.drewN ?_ _ | with_reducible refine Pushed.drew ?_))⟩
set_option maxRecDepth 20000 in
set_option maxHeartbeats 6400000 in
theorem sub_big (a : Int) (c : ByteArray) (b : Int) (d : ByteArray) (hc : c.size ≤ 9223372036854775807) (hd : d.size ≤ 9223372036854775807) (hb : curP c ∧ -4503599627370496 ≤ a ∧ a ≤ 4503599627370496 ∧ -4503599627370496 ≤ b ∧ b ≤ 4503599627370496) (H : Hid (pairR a c b d = 0)) (hs : ¬ (-4503599627370496 ≤ a - b ∧ a - b ≤ 4503599627370496)) (w : World) : Calls Tryd.prog 12 #[.agg #[.int .i64 a, .string c], .agg #[.int .i64 b, .string d]] w fun x w' => x = .returned (.tuple #[.agg #[.int .i64 0, .string ⟨#[]⟩], .int .i64 4]) ∧ Pushed w w' := by
  have C1 := Lib.hid (fun w => pair_any a c b d hc hd H w)
  obtain ⟨g0, g1, g2, g3, g4⟩ := hb
  have C2 := Lib.hid (fun w => valid_err (a - b) c hc (Lib.hid (mchk_big g0 hs)) rfl w)
  clear H hc hd hs g0
  go_enter Tryd.func12, Tryd.ntmps12
  go_wp2_with fail
  with_reducible refine (C1.out _).mono ?_
  rintro x w1 ⟨rfl, l0, n0, rfl⟩
  go_wp2_with fail
  with_reducible refine (C2.out _).mono ?_
  rintro x w1 ⟨rfl, l1, n1, rfl⟩
  go_wp2
  exact bodyPost_ret (v := .tuple #[.agg #[.int .i64 0, .string ⟨#[]⟩], .int .i64 4]) (by simp [results, Tryd.results12, go_sem]) rfl ⟨rfl, (by repeat (first | with_reducible exact Pushed.refl _ | with_reducible assumption | with_reducible refine Pushed.push ?_ _ | with_reducible refine Pushed.alloc ?_ _ | with_reducible refine Pushed.drewN ?_ _ | with_reducible refine Pushed.drew ?_))⟩
set_option maxRecDepth 20000 in
set_option maxHeartbeats 6400000 in
theorem rsub_e (a : Int) (c : ByteArray) (b : Int) (d : ByteArray) (hc : c.size ≤ 9223372036854775807) (hd : d.size ≤ 9223372036854775807) {e : Int} (H : Hid (pairR a c b d = e)) (he : (e != 0) = true) (w : World) : Calls Tryd.prog 13 #[.agg #[.int .i64 a, .string c], .agg #[.int .i64 b, .string d]] w fun x w' => x = .returned (.tuple #[.agg #[.int .i64 0, .string ⟨#[]⟩], .int .i64 e]) ∧ Pushed w w' := by
  have C1 := Lib.hid (fun w => rpair_any a c b d hc hd H w)
  clear H hc hd
  go_enter Tryd.func13, Tryd.ntmps13
  go_wp2_with fail
  with_reducible refine (C1.out _).mono ?_
  rintro x w1 ⟨rfl, l0, n0, rfl⟩
  go_wp2
  exact bodyPost_ret (v := .tuple #[.agg #[.int .i64 0, .string ⟨#[]⟩], .int .i64 e]) (by simp [results, Tryd.results13, go_sem]) rfl ⟨rfl, (by repeat (first | with_reducible exact Pushed.refl _ | with_reducible assumption | with_reducible refine Pushed.push ?_ _ | with_reducible refine Pushed.alloc ?_ _ | with_reducible refine Pushed.drewN ?_ _ | with_reducible refine Pushed.drew ?_))⟩
set_option maxRecDepth 20000 in
set_option maxHeartbeats 6400000 in
theorem rsub_ok (a : Int) (c : ByteArray) (b : Int) (d : ByteArray) (hc : c.size ≤ 9223372036854775807) (hd : d.size ≤ 9223372036854775807) (hb : curP c ∧ -4503599627370496 ≤ a ∧ a ≤ 4503599627370496 ∧ -4503599627370496 ≤ b ∧ b ≤ 4503599627370496) (H : Hid (pairR a c b d = 0)) (hs : (-4503599627370496 ≤ a - b ∧ a - b ≤ 4503599627370496)) (w : World) : Calls Tryd.prog 13 #[.agg #[.int .i64 a, .string c], .agg #[.int .i64 b, .string d]] w fun x w' => x = .returned (.tuple #[.agg #[.int .i64 (a - b), .string c], .int .i64 0]) ∧ Pushed w w' := by
  have C1 := Lib.hid (fun w => rpair_any a c b d hc hd H w)
  obtain ⟨g0, g1, g2, g3, g4⟩ := hb
  have C2 := Lib.hid (fun w => within_any (a - b) (Lib.hid (decide_eq_true hs)) w)
  clear H hc hd hs g0
  go_enter Tryd.func13, Tryd.ntmps13
  go_wp2_with fail
  with_reducible refine (C1.out _).mono ?_
  rintro x w1 ⟨rfl, l0, n0, rfl⟩
  go_wp2_with fail
  with_reducible refine (C2.out _).mono ?_
  rintro x w1 ⟨rfl, rfl⟩
  go_wp2
  exact bodyPost_ret (v := .tuple #[.agg #[.int .i64 (a - b), .string c], .int .i64 0]) (by simp [results, Tryd.results13, go_sem]) rfl ⟨rfl, (by repeat (first | with_reducible exact Pushed.refl _ | with_reducible assumption | with_reducible refine Pushed.push ?_ _ | with_reducible refine Pushed.alloc ?_ _ | with_reducible refine Pushed.drewN ?_ _ | with_reducible refine Pushed.drew ?_))⟩
set_option maxRecDepth 20000 in
set_option maxHeartbeats 6400000 in
theorem rsub_big (a : Int) (c : ByteArray) (b : Int) (d : ByteArray) (hc : c.size ≤ 9223372036854775807) (hd : d.size ≤ 9223372036854775807) (hb : curP c ∧ -4503599627370496 ≤ a ∧ a ≤ 4503599627370496 ∧ -4503599627370496 ≤ b ∧ b ≤ 4503599627370496) (H : Hid (pairR a c b d = 0)) (hs : ¬ (-4503599627370496 ≤ a - b ∧ a - b ≤ 4503599627370496)) (w : World) : Calls Tryd.prog 13 #[.agg #[.int .i64 a, .string c], .agg #[.int .i64 b, .string d]] w fun x w' => x = .returned (.tuple #[.agg #[.int .i64 0, .string ⟨#[]⟩], .int .i64 4]) ∧ Pushed w w' := by
  have C1 := Lib.hid (fun w => rpair_any a c b d hc hd H w)
  obtain ⟨g0, g1, g2, g3, g4⟩ := hb
  have C2 := Lib.hid (fun w => within_any (a - b) (Lib.hid (decide_eq_false hs)) w)
  clear H hc hd hs g0
  go_enter Tryd.func13, Tryd.ntmps13
  go_wp2_with fail
  with_reducible refine (C1.out _).mono ?_
  rintro x w1 ⟨rfl, l0, n0, rfl⟩
  go_wp2_with fail
  with_reducible refine (C2.out _).mono ?_
  rintro x w1 ⟨rfl, rfl⟩
  go_wp2
  exact bodyPost_ret (v := .tuple #[.agg #[.int .i64 0, .string ⟨#[]⟩], .int .i64 4]) (by simp [results, Tryd.results13, go_sem]) rfl ⟨rfl, (by repeat (first | with_reducible exact Pushed.refl _ | with_reducible assumption | with_reducible refine Pushed.push ?_ _ | with_reducible refine Pushed.alloc ?_ _ | with_reducible refine Pushed.drewN ?_ _ | with_reducible refine Pushed.drew ?_))⟩
set_option maxRecDepth 20000 in
set_option maxHeartbeats 6400000 in
theorem compare_any (a b : Int) {v : Int} (H : Hid (cmpR a b = v)) (w : World) : Calls Tryd.prog 33 #[.int .i64 a, .int .i64 b] w fun x w' => x = .returned (.int .i64 v) ∧ w = w' := by
  by_cases h1 : a < b
  · have HE : Hid (-1 = v) := Lib.hid (by rw [← H.out, cmpR, if_pos h1])
    have h2 : ¬ b < a := by omega
    have h3 : (a == b) = false := by simp; omega
    have h4 : (b == a) = false := by simp; omega
    clear H
    go_enter Tryd.func33, Tryd.ntmps33
    go_wp2
    go_ret
    exact ⟨ret_int HE.out, rfl⟩
  · by_cases h2 : b < a
    · have HE : Hid (1 = v) := Lib.hid (by rw [← H.out, cmpR, if_neg h1, if_pos h2])
      have h3 : (a == b) = false := by simp; omega
      have h4 : (b == a) = false := by simp; omega
      clear H
      go_enter Tryd.func33, Tryd.ntmps33
      go_wp2
      go_ret
      exact ⟨ret_int HE.out, rfl⟩
    · have HE : Hid (0 = v) := Lib.hid (by rw [← H.out, cmpR, if_neg h1, if_neg h2])
      obtain rfl : a = b := by omega
      clear H
      go_enter Tryd.func33, Tryd.ntmps33
      go_wp2
      go_ret
      exact ⟨ret_int HE.out, rfl⟩
set_option maxRecDepth 20000 in
set_option maxHeartbeats 6400000 in
theorem cmp_e (a : Int) (c : ByteArray) (b : Int) (d : ByteArray) (hc : c.size ≤ 9223372036854775807) (hd : d.size ≤ 9223372036854775807) {e : Int} (H : Hid (pairR a c b d = e)) (he : (e != 0) = true) (w : World) : Calls Tryd.prog 14 #[.agg #[.int .i64 a, .string c], .agg #[.int .i64 b, .string d]] w fun x w' => x = .returned (.tuple #[.int .i64 0, .int .i64 e]) ∧ Pushed w w' := by
  have C1 := Lib.hid (fun w => pair_any a c b d hc hd H w)
  clear H hc hd
  go_enter Tryd.func14, Tryd.ntmps14
  go_wp2_with fail
  with_reducible refine (C1.out _).mono ?_
  rintro x w1 ⟨rfl, l0, n0, rfl⟩
  go_wp2
  go_ret2
  exact ⟨rfl, (by repeat (first | with_reducible exact Pushed.refl _ | with_reducible assumption | with_reducible refine Pushed.push ?_ _ | with_reducible refine Pushed.alloc ?_ _ | with_reducible refine Pushed.drewN ?_ _ | with_reducible refine Pushed.drew ?_))⟩
set_option maxRecDepth 20000 in
set_option maxHeartbeats 6400000 in
theorem rcmp_e (a : Int) (c : ByteArray) (b : Int) (d : ByteArray) (hc : c.size ≤ 9223372036854775807) (hd : d.size ≤ 9223372036854775807) {e : Int} (H : Hid (pairR a c b d = e)) (he : (e != 0) = true) (w : World) : Calls Tryd.prog 15 #[.agg #[.int .i64 a, .string c], .agg #[.int .i64 b, .string d]] w fun x w' => x = .returned (.tuple #[.int .i64 0, .int .i64 e]) ∧ Pushed w w' := by
  have C1 := Lib.hid (fun w => rpair_any a c b d hc hd H w)
  clear H hc hd
  go_enter Tryd.func15, Tryd.ntmps15
  go_wp2_with fail
  with_reducible refine (C1.out _).mono ?_
  rintro x w1 ⟨rfl, l0, n0, rfl⟩
  go_wp2
  go_ret2
  exact ⟨rfl, (by repeat (first | with_reducible exact Pushed.refl _ | with_reducible assumption | with_reducible refine Pushed.push ?_ _ | with_reducible refine Pushed.alloc ?_ _ | with_reducible refine Pushed.drewN ?_ _ | with_reducible refine Pushed.drew ?_))⟩
set_option maxRecDepth 20000 in
set_option maxHeartbeats 6400000 in
theorem cmp_ok (a : Int) (c : ByteArray) (b : Int) (d : ByteArray) (hc : c.size ≤ 9223372036854775807) (hd : d.size ≤ 9223372036854775807) (H : Hid (pairR a c b d = 0)) {v : Int} (HV : Hid (cmpR a b = v)) (w : World) : Calls Tryd.prog 14 #[.agg #[.int .i64 a, .string c], .agg #[.int .i64 b, .string d]] w fun x w' => x = .returned (.tuple #[.int .i64 v, .int .i64 0]) ∧ Pushed w w' := by
  have C1 := Lib.hid (fun w => pair_any a c b d hc hd H w)
  have C2 := Lib.hid (fun w => (compare_any a b HV w).mono fun x w' h => (⟨h.1, h.2 ▸ Pushed.refl _⟩ : x = _ ∧ Pushed w w'))
  clear H hc hd HV
  go_enter Tryd.func14, Tryd.ntmps14
  go_wp2_with fail
  with_reducible refine (C1.out _).mono ?_
  rintro x w1 ⟨rfl, l0, n0, rfl⟩
  go_wp2_with fail
  with_reducible refine (C2.out _).mono ?_
  rintro x w1 ⟨rfl, l1, n1, rfl⟩
  go_wp2
  go_ret2
  exact ⟨rfl, (by repeat (first | with_reducible exact Pushed.refl _ | with_reducible assumption | with_reducible refine Pushed.push ?_ _ | with_reducible refine Pushed.alloc ?_ _ | with_reducible refine Pushed.drewN ?_ _ | with_reducible refine Pushed.drew ?_))⟩
theorem rcmp_ok (a : Int) (c : ByteArray) (b : Int) (d : ByteArray) (hc : c.size ≤ 9223372036854775807) (hd : d.size ≤ 9223372036854775807) (H : Hid (pairR a c b d = 0)) {v : Int} (HV : Hid (cmpR a b = v)) (w : World) : Calls Tryd.prog 15 #[.agg #[.int .i64 a, .string c], .agg #[.int .i64 b, .string d]] w fun x w' => x = .returned (.tuple #[.int .i64 v, .int .i64 0]) ∧ Pushed w w' := by
  have C1 := Lib.hid (fun w => rpair_any a c b d hc hd H w)
  by_cases h1 : a < b
  · obtain rfl : -1 = v := by rw [← HV.out, cmpR, if_pos h1]
    clear H hc hd HV
    go_enter Tryd.func15, Tryd.ntmps15
    go_wp2_with fail
    with_reducible refine (C1.out _).mono ?_
    rintro x w1 ⟨rfl, l0, n0, rfl⟩
    go_wp2
    go_ret2
    exact ⟨rfl, (by repeat (first | with_reducible exact Pushed.refl _ | with_reducible assumption | with_reducible refine Pushed.push ?_ _ | with_reducible refine Pushed.alloc ?_ _ | with_reducible refine Pushed.drewN ?_ _ | with_reducible refine Pushed.drew ?_))⟩
  · by_cases h2 : b < a
    · obtain rfl : 1 = v := by rw [← HV.out, cmpR, if_neg h1, if_pos h2]
      clear H hc hd HV
      go_enter Tryd.func15, Tryd.ntmps15
      go_wp2_with fail
      with_reducible refine (C1.out _).mono ?_
      rintro x w1 ⟨rfl, l0, n0, rfl⟩
      go_wp2
      go_ret2
      exact ⟨rfl, (by repeat (first | with_reducible exact Pushed.refl _ | with_reducible assumption | with_reducible refine Pushed.push ?_ _ | with_reducible refine Pushed.alloc ?_ _ | with_reducible refine Pushed.drewN ?_ _ | with_reducible refine Pushed.drew ?_))⟩
    · obtain rfl : 0 = v := by rw [← HV.out, cmpR, if_neg h1, if_neg h2]
      clear H hc hd HV
      go_enter Tryd.func15, Tryd.ntmps15
      go_wp2_with fail
      with_reducible refine (C1.out _).mono ?_
      rintro x w1 ⟨rfl, l0, n0, rfl⟩
      go_wp2
      go_ret2
      exact ⟨rfl, (by repeat (first | with_reducible exact Pushed.refl _ | with_reducible assumption | with_reducible refine Pushed.push ?_ _ | with_reducible refine Pushed.alloc ?_ _ | with_reducible refine Pushed.drewN ?_ _ | with_reducible refine Pushed.drew ?_))⟩
end Go.Proofs.YtompkkanckejjaaDoor
