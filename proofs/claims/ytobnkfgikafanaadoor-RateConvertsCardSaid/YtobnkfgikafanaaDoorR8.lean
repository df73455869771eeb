/-
  CONTRACTS of rates: Cross and Markup.
-/
import Derived.Test.YtobnkfgikafanaaDoorR6
import Derived.Test.YtobnkfgikafanaaDoorR7
namespace Go.Proofs.YtobnkfgikafanaaDoor
open Go.RowKit
set_option linter.unusedVariables false
set_option linter.unusedSimpArgs false
theorem chk_ok {f t : ByteArray} {n d : Int} (h : chkR f t n d = 0) : curR f t ∧ numR n d := by
  unfold chkR at h
  by_cases h1 : curR f t
  · rw [if_pos h1] at h
    by_cases h2 : numR n d
    · exact ⟨h1, h2⟩
    · rw [if_neg h2] at h; cases h
  · rw [if_neg h1] at h; cases h
theorem chk_ne {f t : ByteArray} {n d : Int} (h : ¬ chkR f t n d = 0) : (chkR f t n d != 0) = true := by simp [h]
set_option maxHeartbeats 1600000 in
theorem cross_e1 (f t : ByteArray) (n d : Int) (g u : ByteArray) (k e : Int) (hf : f.size ≤ 1000000) (ht : t.size ≤ 1000000) (hg : g.size ≤ 1000000) (hu : u.size ≤ 1000000) {c : Int} (H : Hid (chkR f t n d = c)) (he : (c != 0) = true) (w : World) : Calls Tryd.prog 21 #[.agg #[.string f, .string t, .int .i64 n, .int .i64 d], .agg #[.string g, .string u, .int .i64 k, .int .i64 e]] w fun x w' => x = .returned (.tuple #[.agg #[.string ⟨#[]⟩, .string ⟨#[]⟩, .int .i64 0, .int .i64 0], .int .i64 c]) ∧ Pushed w w' := by
  have C1 := Lib.hid (fun w => chk_any f t n d hf ht H w)
  go_enter Tryd.func21, Tryd.ntmps21
  go_wp2_with fail
  go_at_call 13
  with_reducible refine (C1.out _).mono ?_
  rintro x w1 ⟨rfl, l0, n0, rfl⟩
  go_wp2
  exact bodyPost_ret (v := .tuple #[.agg #[.string ⟨#[]⟩, .string ⟨#[]⟩, .int .i64 0, .int .i64 0], .int .i64 c]) (by simp [results, Tryd.results21, go_sem]) rfl ⟨rfl, (by repeat (first | with_reducible exact Pushed.refl _ | with_reducible assumption | with_reducible refine Pushed.push ?_ _ | with_reducible refine Pushed.alloc ?_ _ | with_reducible refine Pushed.drewN ?_ _ | with_reducible refine Pushed.drew ?_))⟩
set_option maxHeartbeats 1600000 in
theorem cross_e2 (f t : ByteArray) (n d : Int) (g u : ByteArray) (k e : Int) (hf : f.size ≤ 1000000) (ht : t.size ≤ 1000000) (hg : g.size ≤ 1000000) (hu : u.size ≤ 1000000) (H1 : Hid (chkR f t n d = 0)) {c : Int} (H : Hid (chkR g u k e = c)) (he : (c != 0) = true) (w : World) : Calls Tryd.prog 21 #[.agg #[.string f, .string t, .int .i64 n, .int .i64 d], .agg #[.string g, .string u, .int .i64 k, .int .i64 e]] w fun x w' => x = .returned (.tuple #[.agg #[.string ⟨#[]⟩, .string ⟨#[]⟩, .int .i64 0, .int .i64 0], .int .i64 c]) ∧ Pushed w w' := by
  have C1 := Lib.hid (fun w => chk_any f t n d hf ht H1 w)
  have C2 := Lib.hid (fun w => chk_any g u k e hg hu H w)
  go_enter Tryd.func21, Tryd.ntmps21
  go_wp2_with fail
  go_at_call 13
  with_reducible refine (C1.out _).mono ?_
  rintro x w1 ⟨rfl, l0, n0, rfl⟩
  go_wp2_with fail
  go_at_call 13
  with_reducible refine (C2.out _).mono ?_
  rintro x w1 ⟨rfl, l1, n1, rfl⟩
  go_wp2
  exact bodyPost_ret (v := .tuple #[.agg #[.string ⟨#[]⟩, .string ⟨#[]⟩, .int .i64 0, .int .i64 0], .int .i64 c]) (by simp [results, Tryd.results21, go_sem]) rfl ⟨rfl, (by repeat (first | with_reducible exact Pushed.refl _ | with_reducible assumption | with_reducible refine Pushed.push ?_ _ | with_reducible refine Pushed.alloc ?_ _ | with_reducible refine Pushed.drewN ?_ _ | with_reducible refine Pushed.drew ?_))⟩
set_option maxHeartbeats 1600000 in
theorem cross_e3 (f t : ByteArray) (n d : Int) (g u : ByteArray) (k e : Int) (hf : f.size ≤ 1000000) (ht : t.size ≤ 1000000) (hg : g.size ≤ 1000000) (hu : u.size ≤ 1000000) (H1 : Hid (chkR f t n d = 0)) (H : Hid (chkR g u k e = 0)) (h : ¬ (t = g ∧ f ≠ u)) (w : World) : Calls Tryd.prog 21 #[.agg #[.string f, .string t, .int .i64 n, .int .i64 d], .agg #[.string g, .string u, .int .i64 k, .int .i64 e]] w fun x w' => x = .returned (.tuple #[.agg #[.string ⟨#[]⟩, .string ⟨#[]⟩, .int .i64 0, .int .i64 0], .int .i64 11]) ∧ Pushed w w' := by
  have C1 := Lib.hid (fun w => chk_any f t n d hf ht H1 w)
  have C2 := Lib.hid (fun w => chk_any g u k e hg hu H w)
  by_cases hne : t = g
  · have he : f = u := Classical.byContradiction fun h2 => h ⟨hne, h2⟩
    subst hne
    subst he
    clear h
    go_enter Tryd.func21, Tryd.ntmps21
    go_wp2_with fail
    go_at_call 13
    with_reducible refine (C1.out _).mono ?_
    rintro x w1 ⟨rfl, l0, n0, rfl⟩
    go_wp2_with fail
    go_at_call 13
    with_reducible refine (C2.out _).mono ?_
    rintro x w1 ⟨rfl, l1, n1, rfl⟩
    go_wp2
    exact bodyPost_ret (v := .tuple #[.agg #[.string ⟨#[]⟩, .string ⟨#[]⟩, .int .i64 0, .int .i64 0], .int .i64 11]) (by simp [results, Tryd.results21, go_sem]) rfl ⟨rfl, (by repeat (first | with_reducible exact Pushed.refl _ | with_reducible assumption | with_reducible refine Pushed.push ?_ _ | with_reducible refine Pushed.alloc ?_ _ | with_reducible refine Pushed.drewN ?_ _ | with_reducible refine Pushed.drew ?_))⟩
  · have hs1 := str_ne hne
    have hs2 : (t.toList != g.toList) = true := by simpa [bne] using hs1
    clear h hne
    go_enter Tryd.func21, Tryd.ntmps21
    go_wp2_with fail
    go_at_call 13
    with_reducible refine (C1.out _).mono ?_
    rintro x w1 ⟨rfl, l0, n0, rfl⟩
    go_wp2_with fail
    go_at_call 13
    with_reducible refine (C2.out _).mono ?_
    rintro x w1 ⟨rfl, l1, n1, rfl⟩
    go_wp2
    exact bodyPost_ret (v := .tuple #[.agg #[.string ⟨#[]⟩, .string ⟨#[]⟩, .int .i64 0, .int .i64 0], .int .i64 11]) (by simp [results, Tryd.results21, go_sem]) rfl ⟨rfl, (by repeat (first | with_reducible exact Pushed.refl _ | with_reducible assumption | with_reducible refine Pushed.push ?_ _ | with_reducible refine Pushed.alloc ?_ _ | with_reducible refine Pushed.drewN ?_ _ | with_reducible refine Pushed.drew ?_))⟩
set_option maxHeartbeats 1600000 in
theorem cross_ok (f t u : ByteArray) (n d k e : Nat) (hf : f.size ≤ 1000000) (ht : t.size ≤ 1000000) (hu : u.size ≤ 1000000) (H1 : Hid (chkR f t n d = 0)) (H : Hid (chkR t u k e = 0)) (hfu : f ≠ u) (ha : 1 ≤ n) (hb : 1 ≤ d) (hc : 1 ≤ k) (hd : 1 ≤ e) (ga : n ≤ 1099511627776) (gb : d ≤ 1099511627776) (gc : k ≤ 1099511627776) (gd : e ≤ 1099511627776) (h : prdOk n d k e) (w : World) : Calls Tryd.prog 21 #[.agg #[.string f, .string t, .int .i64 (n : Int), .int .i64 (d : Int)], .agg #[.string t, .string u, .int .i64 (k : Int), .int .i64 (e : Int)]] w fun x w' => x = .returned (.tuple #[.agg #[.string f, .string u, .int .i64 (prdN n d k e : Int), .int .i64 (prdD n d k e : Int)], .int .i64 0]) ∧ Pushed w w' := by
  have C1 := Lib.hid (fun w => chk_any f t n d hf ht H1 w)
  have C2 := Lib.hid (fun w => chk_any t u k e ht hu H w)
  have P1 := Lib.hid (fun w => prod_ok f u n d k e ha hb hc hd ga gb gc gd h w)
  have hs1 := str_ne hfu
  generalize prdN n d k e = pn at *
  generalize prdD n d k e = pd at *
  clear H1 H hfu ha hb hc hd ga gb gc gd h
  go_enter Tryd.func21, Tryd.ntmps21
  go_wp2_with fail
  go_at_call 13
  with_reducible refine (C1.out _).mono ?_
  rintro x w1 ⟨rfl, l0, n0, rfl⟩
  go_wp2_with fail
  go_at_call 13
  with_reducible refine (C2.out _).mono ?_
  rintro x w1 ⟨rfl, l1, n1, rfl⟩
  go_wp2_with fail
  go_at_call 38
  with_reducible refine (P1.out _).mono ?_
  rintro x w1 ⟨rfl, l2, n2, rfl⟩
  go_wp2
  exact bodyPost_ret (v := .tuple #[.agg #[.string f, .string u, .int .i64 (pn : Int), .int .i64 (pd : Int)], .int .i64 0]) (by simp [results, Tryd.results21, go_sem]) rfl ⟨rfl, (by repeat (first | with_reducible exact Pushed.refl _ | with_reducible assumption | with_reducible refine Pushed.push ?_ _ | with_reducible refine Pushed.alloc ?_ _ | with_reducible refine Pushed.drewN ?_ _ | with_reducible refine Pushed.drew ?_))⟩
set_option maxHeartbeats 1600000 in
theorem cross_bad (f t u : ByteArray) (n d k e : Nat) (hf : f.size ≤ 1000000) (ht : t.size ≤ 1000000) (hu : u.size ≤ 1000000) (H1 : Hid (chkR f t n d = 0)) (H : Hid (chkR t u k e = 0)) (hfu : f ≠ u) (ha : 1 ≤ n) (hb : 1 ≤ d) (hc : 1 ≤ k) (hd : 1 ≤ e) (ga : n ≤ 1099511627776) (gb : d ≤ 1099511627776) (gc : k ≤ 1099511627776) (gd : e ≤ 1099511627776) (h : ¬ prdOk n d k e) (w : World) : Calls Tryd.prog 21 #[.agg #[.string f, .string t, .int .i64 (n : Int), .int .i64 (d : Int)], .agg #[.string t, .string u, .int .i64 (k : Int), .int .i64 (e : Int)]] w fun x w' => x = .returned (.tuple #[.agg #[.string ⟨#[]⟩, .string ⟨#[]⟩, .int .i64 0, .int .i64 0], .int .i64 4]) ∧ Pushed w w' := by
  have C1 := Lib.hid (fun w => chk_any f t n d hf ht H1 w)
  have C2 := Lib.hid (fun w => chk_any t u k e ht hu H w)
  have P1 := Lib.hid (fun w => prod_bad f u n d k e ha hb hc hd ga gb gc gd h w)
  have hs1 := str_ne hfu
  clear H1 H hfu ha hb hc hd ga gb gc gd h
  go_enter Tryd.func21, Tryd.ntmps21
  go_wp2_with fail
  go_at_call 13
  with_reducible refine (C1.out _).mono ?_
  rintro x w1 ⟨rfl, l0, n0, rfl⟩
  go_wp2_with fail
  go_at_call 13
  with_reducible refine (C2.out _).mono ?_
  rintro x w1 ⟨rfl, l1, n1, rfl⟩
  go_wp2_with fail
  go_at_call 38
  with_reducible refine (P1.out _).mono ?_
  rintro x w1 ⟨rfl, l2, n2, rfl⟩
  go_wp2
  exact bodyPost_ret (v := .tuple #[.agg #[.string ⟨#[]⟩, .string ⟨#[]⟩, .int .i64 0, .int .i64 0], .int .i64 4]) (by simp [results, Tryd.results21, go_sem]) rfl ⟨rfl, (by repeat (first | with_reducible exact Pushed.refl _ | with_reducible assumption | with_reducible refine Pushed.push ?_ _ | with_reducible refine Pushed.alloc ?_ _ | with_reducible refine Pushed.drewN ?_ _ | with_reducible refine Pushed.drew ?_))⟩
set_option maxHeartbeats 1600000 in
theorem mark_e1 (f t : ByteArray) (n d b : Int) (hf : f.size ≤ 1000000) (ht : t.size ≤ 1000000) {c : Int} (H : Hid (chkR f t n d = c)) (he : (c != 0) = true) (w : World) : Calls Tryd.prog 23 #[.agg #[.string f, .string t, .int .i64 n, .int .i64 d], .int .i64 b] w fun x w' => x = .returned (.tuple #[.agg #[.string ⟨#[]⟩, .string ⟨#[]⟩, .int .i64 0, .int .i64 0], .int .i64 c]) ∧ Pushed w w' := by
  have C1 := Lib.hid (fun w => chk_any f t n d hf ht H w)
  go_enter Tryd.func23, Tryd.ntmps23
  go_wp2_with fail
  go_at_call 13
  with_reducible refine (C1.out _).mono ?_
  rintro x w1 ⟨rfl, l0, n0, rfl⟩
  go_wp2
  exact bodyPost_ret (v := .tuple #[.agg #[.string ⟨#[]⟩, .string ⟨#[]⟩, .int .i64 0, .int .i64 0], .int .i64 c]) (by simp [results, Tryd.results23, go_sem]) rfl ⟨rfl, (by repeat (first | with_reducible exact Pushed.refl _ | with_reducible assumption | with_reducible refine Pushed.push ?_ _ | with_reducible refine Pushed.alloc ?_ _ | with_reducible refine Pushed.drewN ?_ _ | with_reducible refine Pushed.drew ?_))⟩
set_option maxHeartbeats 1600000 in
theorem mark_e2 (f t : ByteArray) (n d b : Int) (hf : f.size ≤ 1000000) (ht : t.size ≤ 1000000) (H : Hid (chkR f t n d = 0)) (h : ¬ (-9999 ≤ b ∧ b ≤ 100000)) (w : World) : Calls Tryd.prog 23 #[.agg #[.string f, .string t, .int .i64 n, .int .i64 d], .int .i64 b] w fun x w' => x = .returned (.tuple #[.agg #[.string ⟨#[]⟩, .string ⟨#[]⟩, .int .i64 0, .int .i64 0], .int .i64 4]) ∧ Pushed w w' := by
  have C1 := Lib.hid (fun w => chk_any f t n d hf ht H w)
  by_cases h1 : b < -9999
  · clear h
    go_enter Tryd.func23, Tryd.ntmps23
    go_wp2_with fail
    go_at_call 13
    with_reducible refine (C1.out _).mono ?_
    rintro x w1 ⟨rfl, l0, n0, rfl⟩
    go_wp2
    exact bodyPost_ret (v := .tuple #[.agg #[.string ⟨#[]⟩, .string ⟨#[]⟩, .int .i64 0, .int .i64 0], .int .i64 4]) (by simp [results, Tryd.results23, go_sem]) rfl ⟨rfl, (by repeat (first | with_reducible exact Pushed.refl _ | with_reducible assumption | with_reducible refine Pushed.push ?_ _ | with_reducible refine Pushed.alloc ?_ _ | with_reducible refine Pushed.drewN ?_ _ | with_reducible refine Pushed.drew ?_))⟩
  · have h2 : 100000 < b := by omega
    clear h
    go_enter Tryd.func23, Tryd.ntmps23
    go_wp2_with fail
    go_at_call 13
    with_reducible refine (C1.out _).mono ?_
    rintro x w1 ⟨rfl, l0, n0, rfl⟩
    go_wp2
    exact bodyPost_ret (v := .tuple #[.agg #[.string ⟨#[]⟩, .string ⟨#[]⟩, .int .i64 0, .int .i64 0], .int .i64 4]) (by simp [results, Tryd.results23, go_sem]) rfl ⟨rfl, (by repeat (first | with_reducible exact Pushed.refl _ | with_reducible assumption | with_reducible refine Pushed.push ?_ _ | with_reducible refine Pushed.alloc ?_ _ | with_reducible refine Pushed.drewN ?_ _ | with_reducible refine Pushed.drew ?_))⟩
set_option maxHeartbeats 1600000 in
theorem mark_ok (f t : ByteArray) (n d m : Nat) (b : Int) (hf : f.size ≤ 1000000) (ht : t.size ≤ 1000000) (H : Hid (chkR f t n d = 0)) (hm : 10000 + b = (m : Int)) (b0 : -9999 ≤ b) (b1 : b ≤ 100000) (ha : 1 ≤ n) (hb : 1 ≤ d) (ga : n ≤ 1099511627776) (gb : d ≤ 1099511627776) (h : prdOk n d m 10000) (w : World) : Calls Tryd.prog 23 #[.agg #[.string f, .string t, .int .i64 (n : Int), .int .i64 (d : Int)], .int .i64 b] w fun x w' => x = .returned (.tuple #[.agg #[.string f, .string t, .int .i64 (prdN n d m 10000 : Int), .int .i64 (prdD n d m 10000 : Int)], .int .i64 0]) ∧ Pushed w w' := by
  have C1 := Lib.hid (fun w => chk_any f t n d hf ht H w)
  have P1 : Hid (∀ w, Calls Tryd.prog 38 #[.agg #[.string f, .string t, .int .i64 (n : Int), .int .i64 (d : Int)], .int .i64 (m : Int), .int .i64 10000] w fun x w' => x = .returned (.tuple #[.agg #[.string f, .string t, .int .i64 (prdN n d m 10000 : Int), .int .i64 (prdD n d m 10000 : Int)], .int .i64 0]) ∧ Pushed w w') := Lib.hid (fun w => prod_ok f t n d m 10000 ha hb (by omega) (by omega) ga gb (by omega) (by omega) h w)
  generalize prdN n d m 10000 = pn at *
  generalize prdD n d m 10000 = pd at *
  clear H ha hb ga gb h
  go_enter Tryd.func23, Tryd.ntmps23
  go_wp2_with fail
  go_at_call 13
  with_reducible refine (C1.out _).mono ?_
  rintro x w1 ⟨rfl, l0, n0, rfl⟩
  go_wp2_with fail
  go_at_call 38
  with_reducible refine (P1.out _).mono ?_
  rintro x w1 ⟨rfl, l1, n1, rfl⟩
  go_wp2
  exact bodyPost_ret (v := .tuple #[.agg #[.string f, .string t, .int .i64 (pn : Int), .int .i64 (pd : Int)], .int .i64 0]) (by simp [results, Tryd.results23, go_sem]) rfl ⟨rfl, (by repeat (first | with_reducible exact Pushed.refl _ | with_reducible assumption | with_reducible refine Pushed.push ?_ _ | with_reducible refine Pushed.alloc ?_ _ | with_reducible refine Pushed.drewN ?_ _ | with_reducible refine Pushed.drew ?_))⟩
set_option maxHeartbeats 1600000 in
theorem mark_bad (f t : ByteArray) (n d m : Nat) (b : Int) (hf : f.size ≤ 1000000) (ht : t.size ≤ 1000000) (H : Hid (chkR f t n d = 0)) (hm : 10000 + b = (m : Int)) (b0 : -9999 ≤ b) (b1 : b ≤ 100000) (ha : 1 ≤ n) (hb : 1 ≤ d) (ga : n ≤ 1099511627776) (gb : d ≤ 1099511627776) (h : ¬ prdOk n d m 10000) (w : World) : Calls Tryd.prog 23 #[.agg #[.string f, .string t, .int .i64 (n : Int), .int .i64 (d : Int)], .int .i64 b] w fun x w' => x = .returned (.tuple #[.agg #[.string ⟨#[]⟩, .string ⟨#[]⟩, .int .i64 0, .int .i64 0], .int .i64 4]) ∧ Pushed w w' := by
  have C1 := Lib.hid (fun w => chk_any f t n d hf ht H w)
  have P1 : Hid (∀ w, Calls Tryd.prog 38 #[.agg #[.string f, .string t, .int .i64 (n : Int), .int .i64 (d : Int)], .int .i64 (m : Int), .int .i64 10000] w fun x w' => x = .returned (.tuple #[.agg #[.string ⟨#[]⟩, .string ⟨#[]⟩, .int .i64 0, .int .i64 0], .int .i64 4]) ∧ Pushed w w') := Lib.hid (fun w => prod_bad f t n d m 10000 ha hb (by omega) (by omega) ga gb (by omega) (by omega) h w)
  clear H ha hb ga gb h
  go_enter Tryd.func23, Tryd.ntmps23
  go_wp2_with fail
  go_at_call 13
  with_reducible refine (C1.out _).mono ?_
  rintro x w1 ⟨rfl, l0, n0, rfl⟩
  go_wp2_with fail
  go_at_call 38
  with_reducible refine (P1.out _).mono ?_
  rintro x w1 ⟨rfl, l1, n1, rfl⟩
  go_wp2
  exact bodyPost_ret (v := .tuple #[.agg #[.string ⟨#[]⟩, .string ⟨#[]⟩, .int .i64 0, .int .i64 0], .int .i64 4]) (by simp [results, Tryd.results23, go_sem]) rfl ⟨rfl, (by repeat (first | with_reducible exact Pushed.refl _ | with_reducible assumption | with_reducible refine Pushed.push ?_ _ | with_reducible refine Pushed.alloc ?_ _ | with_reducible refine Pushed.drewN ?_ _ | with_reducible refine Pushed.drew ?_))⟩
set_option maxHeartbeats 1600000 in
theorem rcross_e1 (f t : ByteArray) (n d : Int) (g u : ByteArray) (k e : Int) (hf : f.size ≤ 1000000) (ht : t.size ≤ 1000000) (hg : g.size ≤ 1000000) (hu : u.size ≤ 1000000) {c : Int} (H : Hid (chkR f t n d = c)) (he : (c != 0) = true) (w : World) : Calls Tryd.prog 22 #[.agg #[.string f, .string t, .int .i64 n, .int .i64 d], .agg #[.string g, .string u, .int .i64 k, .int .i64 e]] w fun x w' => x = .returned (.tuple #[.agg #[.string ⟨#[]⟩, .string ⟨#[]⟩, .int .i64 0, .int .i64 0], .int .i64 c]) ∧ Pushed w w' := by
  have C1 := Lib.hid (fun w => rchk_any f t n d hf ht H w)
  go_enter Tryd.func22, Tryd.ntmps22
  go_wp2_with fail
  go_at_call 14
  with_reducible refine (C1.out _).mono ?_
  rintro x w1 ⟨rfl, l0, n0, rfl⟩
  go_wp2
  exact bodyPost_ret (v := .tuple #[.agg #[.string ⟨#[]⟩, .string ⟨#[]⟩, .int .i64 0, .int .i64 0], .int .i64 c]) (by simp [results, Tryd.results22, go_sem]) rfl ⟨rfl, (by repeat (first | with_reducible exact Pushed.refl _ | with_reducible assumption | with_reducible refine Pushed.push ?_ _ | with_reducible refine Pushed.alloc ?_ _ | with_reducible refine Pushed.drewN ?_ _ | with_reducible refine Pushed.drew ?_))⟩
set_option maxHeartbeats 1600000 in
theorem rcross_e2 (f t : ByteArray) (n d : Int) (g u : ByteArray) (k e : Int) (hf : f.size ≤ 1000000) (ht : t.size ≤ 1000000) (hg : g.size ≤ 1000000) (hu : u.size ≤ 1000000) (H1 : Hid (chkR f t n d = 0)) {c : Int} (H : Hid (chkR g u k e = c)) (he : (c != 0) = true) (w : World) : Calls Tryd.prog 22 #[.agg #[.string f, .string t, .int .i64 n, .int .i64 d], .agg #[.string g, .string u, .int .i64 k, .int .i64 e]] w fun x w' => x = .returned (.tuple #[.agg #[.string ⟨#[]⟩, .string ⟨#[]⟩, .int .i64 0, .int .i64 0], .int .i64 c]) ∧ Pushed w w' := by
  have C1 := Lib.hid (fun w => rchk_any f t n d hf ht H1 w)
  have C2 := Lib.hid (fun w => rchk_any g u k e hg hu H w)
  go_enter Tryd.func22, Tryd.ntmps22
  go_wp2_with fail
  go_at_call 14
  with_reducible refine (C1.out _).mono ?_
  rintro x w1 ⟨rfl, l0, n0, rfl⟩
  go_wp2_with fail
  go_at_call 14
  with_reducible refine (C2.out _).mono ?_
  rintro x w1 ⟨rfl, l1, n1, rfl⟩
  go_wp2
  exact bodyPost_ret (v := .tuple #[.agg #[.string ⟨#[]⟩, .string ⟨#[]⟩, .int .i64 0, .int .i64 0], .int .i64 c]) (by simp [results, Tryd.results22, go_sem]) rfl ⟨rfl, (by repeat (first | with_reducible exact Pushed.refl _ | with_reducible assumption | with_reducible refine Pushed.push ?_ _ | with_reducible refine Pushed.alloc ?_ _ | with_reducible refine Pushed.drewN ?_ _ | with_reducible refine Pushed.drew ?_))⟩
set_option maxHeartbeats 1600000 in
theorem rcross_e3 (f t : ByteArray) (n d : Int) (g u : ByteArray) (k e : Int) (hf : f.size ≤ 1000000) (ht : t.size ≤ 1000000) (hg : g.size ≤ 1000000) (hu : u.size ≤ 1000000) (H1 : Hid (chkR f t n d = 0)) (H : Hid (chkR g u k e = 0)) (h : ¬ (t = g ∧ f ≠ u)) (w : World) : Calls Tryd.prog 22 #[.agg #[.string f, .string t, .int .i64 n, .int .i64 d], .agg #[.string g, .string u, .int .i64 k, .int .i64 e]] w fun x w' => x = .returned (.tuple #[.agg #[.string ⟨#[]⟩, .string ⟨#[]⟩, .int .i64 0, .int .i64 0], .int .i64 11]) ∧ Pushed w w' := by
  have C1 := Lib.hid (fun w => rchk_any f t n d hf ht H1 w)
  have C2 := Lib.hid (fun w => rchk_any g u k e hg hu H w)
  by_cases hne : t = g
  · have he : f = u := Classical.byContradiction fun h2 => h ⟨hne, h2⟩
    subst hne
    subst he
    clear h
    go_enter Tryd.func22, Tryd.ntmps22
    go_wp2_with fail
    go_at_call 14
    with_reducible refine (C1.out _).mono ?_
    rintro x w1 ⟨rfl, l0, n0, rfl⟩
    go_wp2_with fail
    go_at_call 14
    with_reducible refine (C2.out _).mono ?_
    rintro x w1 ⟨rfl, l1, n1, rfl⟩
    go_wp2
    exact bodyPost_ret (v := .tuple #[.agg #[.string ⟨#[]⟩, .string ⟨#[]⟩, .int .i64 0, .int .i64 0], .int .i64 11]) (by simp [results, Tryd.results22, go_sem]) rfl ⟨rfl, (by repeat (first | with_reducible exact Pushed.refl _ | with_reducible assumption | with_reducible refine Pushed.push ?_ _ | with_reducible refine Pushed.alloc ?_ _ | with_reducible refine Pushed.drewN ?_ _ | with_reducible refine Pushed.drew ?_))⟩
  · have hs1 := str_ne hne
    have hs2 : (t.toList != g.toList) = true := by simpa [bne] using hs1
    clear h hne
    go_enter Tryd.func22, Tryd.ntmps22
    go_wp2_with fail
    go_at_call 14
    with_reducible refine (C1.out _).mono ?_
    rintro x w1 ⟨rfl, l0, n0, rfl⟩
    go_wp2_with fail
    go_at_call 14
    with_reducible refine (C2.out _).mono ?_
    rintro x w1 ⟨rfl, l1, n1, rfl⟩
    go_wp2
    exact bodyPost_ret (v := .tuple #[.agg #[.string ⟨#[]⟩, .string ⟨#[]⟩, .int .i64 0, .int .i64 0], .int .i64 11]) (by simp [results, Tryd.results22, go_sem]) rfl ⟨rfl, (by repeat (first | with_reducible exact Pushed.refl _ | with_reducible assumption | with_reducible refine Pushed.push ?_ _ | with_reducible refine Pushed.alloc ?_ _ | with_reducible refine Pushed.drewN ?_ _ | with_reducible refine Pushed.drew ?_))⟩
set_option maxHeartbeats 1600000 in
theorem rcross_ok (f t u : ByteArray) (n d k e : Nat) (hf : f.size ≤ 1000000) (ht : t.size ≤ 1000000) (hu : u.size ≤ 1000000) (H1 : Hid (chkR f t n d = 0)) (H : Hid (chkR t u k e = 0)) (hfu : f ≠ u) (ha : 1 ≤ n) (hb : 1 ≤ d) (hc : 1 ≤ k) (hd : 1 ≤ e) (ga : n ≤ 1099511627776) (gb : d ≤ 1099511627776) (gc : k ≤ 1099511627776) (gd : e ≤ 1099511627776) (h : prdOk n d k e) (w : World) : Calls Tryd.prog 22 #[.agg #[.string f, .string t, .int .i64 (n : Int), .int .i64 (d : Int)], .agg #[.string t, .string u, .int .i64 (k : Int), .int .i64 (e : Int)]] w fun x w' => x = .returned (.tuple #[.agg #[.string f, .string u, .int .i64 (prdN n d k e : Int), .int .i64 (prdD n d k e : Int)], .int .i64 0]) ∧ Pushed w w' := by
  have C1 := Lib.hid (fun w => rchk_any f t n d hf ht H1 w)
  have C2 := Lib.hid (fun w => rchk_any t u k e ht hu H w)
  have P1 := Lib.hid (fun w => rprod_ok n d k e ha hb hc hd ga gb gc gd h w)
  have hs1 := str_ne hfu
  generalize prdN n d k e = pn at *
  generalize prdD n d k e = pd at *
  clear H1 H hfu ha hb hc hd ga gb gc gd h
  go_enter Tryd.func22, Tryd.ntmps22
  go_wp2_with fail
  go_at_call 14
  with_reducible refine (C1.out _).mono ?_
  rintro x w1 ⟨rfl, l0, n0, rfl⟩
  go_wp2_with fail
  go_at_call 14
  with_reducible refine (C2.out _).mono ?_
  rintro x w1 ⟨rfl, l1, n1, rfl⟩
  go_wp2_with fail
  go_at_call 39
  with_reducible refine (P1.out _).mono ?_
  rintro x w1 ⟨rfl, l2, n2, rfl⟩
  go_wp2
  exact bodyPost_ret (v := .tuple #[.agg #[.string f, .string u, .int .i64 (pn : Int), .int .i64 (pd : Int)], .int .i64 0]) (by simp [results, Tryd.results22, go_sem]) rfl ⟨rfl, (by repeat (first | with_reducible exact Pushed.refl _ | with_reducible assumption | with_reducible refine Pushed.push ?_ _ | with_reducible refine Pushed.alloc ?_ _ | with_reducible refine Pushed.drewN ?_ _ | with_reducible refine Pushed.drew ?_))⟩
set_option maxHeartbeats 1600000 in
theorem rcross_bad (f t u : ByteArray) (n d k e : Nat) (hf : f.size ≤ 1000000) (ht : t.size ≤ 1000000) (hu : u.size ≤ 1000000) (H1 : Hid (chkR f t n d = 0)) (H : Hid (chkR t u k e = 0)) (hfu : f ≠ u) (ha : 1 ≤ n) (hb : 1 ≤ d) (hc : 1 ≤ k) (hd : 1 ≤ e) (ga : n ≤ 1099511627776) (gb : d ≤ 1099511627776) (gc : k ≤ 1099511627776) (gd : e ≤ 1099511627776) (h : ¬ prdOk n d k e) (w : World) : Calls Tryd.prog 22 #[.agg #[.string f, .string t, .int .i64 (n : Int), .int .i64 (d : Int)], .agg #[.string t, .string u, .int .i64 (k : Int), .int .i64 (e : Int)]] w fun x w' => x = .returned (.tuple #[.agg #[.string ⟨#[]⟩, .string ⟨#[]⟩, .int .i64 0, .int .i64 0], .int .i64 4]) ∧ Pushed w w' := by
  have C1 := Lib.hid (fun w => rchk_any f t n d hf ht H1 w)
  have C2 := Lib.hid (fun w => rchk_any t u k e ht hu H w)
  have P1 := Lib.hid (fun w => rprod_bad n d k e ha hb hc hd ga gb gc gd h w)
  have hs1 := str_ne hfu
  clear H1 H hfu ha hb hc hd ga gb gc gd h
  go_enter Tryd.func22, Tryd.ntmps22
  go_wp2_with fail
  go_at_call 14
  with_reducible refine (C1.out _).mono ?_
  rintro x w1 ⟨rfl, l0, n0, rfl⟩
  go_wp2_with fail
  go_at_call 14
  with_reducible refine (C2.out _).mono ?_
  rintro x w1 ⟨rfl, l1, n1, rfl⟩
  go_wp2_with fail
  go_at_call 39
  with_reducible refine (P1.out _).mono ?_
  rintro x w1 ⟨rfl, l2, n2, rfl⟩
  go_wp2
  exact bodyPost_ret (v := .tuple #[.agg #[.string ⟨#[]⟩, .string ⟨#[]⟩, .int .i64 0, .int .i64 0], .int .i64 4]) (by simp [results, Tryd.results22, go_sem]) rfl ⟨rfl, (by repeat (first | with_reducible exact Pushed.refl _ | with_reducible assumption | with_reducible refine Pushed.push ?_ _ | with_reducible refine Pushed.alloc ?_ _ | with_reducible refine Pushed.drewN ?_ _ | with_reducible refine Pushed.drew ?_))⟩
set_option maxHeartbeats 1600000 in
theorem rmark_e1 (f t : ByteArray) (n d b : Int) (hf : f.size ≤ 1000000) (ht : t.size ≤ 1000000) {c : Int} (H : Hid (chkR f t n d = c)) (he : (c != 0) = true) (w : World) : Calls Tryd.prog 24 #[.agg #[.string f, .string t, .int .i64 n, .int .i64 d], .int .i64 b] w fun x w' => x = .returned (.tuple #[.agg #[.string ⟨#[]⟩, .string ⟨#[]⟩, .int .i64 0, .int .i64 0], .int .i64 c]) ∧ Pushed w w' := by
  have C1 := Lib.hid (fun w => rchk_any f t n d hf ht H w)
  go_enter Tryd.func24, Tryd.ntmps24
  go_wp2_with fail
  go_at_call 14
  with_reducible refine (C1.out _).mono ?_
  rintro x w1 ⟨rfl, l0, n0, rfl⟩
  go_wp2
  exact bodyPost_ret (v := .tuple #[.agg #[.string ⟨#[]⟩, .string ⟨#[]⟩, .int .i64 0, .int .i64 0], .int .i64 c]) (by simp [results, Tryd.results24, go_sem]) rfl ⟨rfl, (by repeat (first | with_reducible exact Pushed.refl _ | with_reducible assumption | with_reducible refine Pushed.push ?_ _ | with_reducible refine Pushed.alloc ?_ _ | with_reducible refine Pushed.drewN ?_ _ | with_reducible refine Pushed.drew ?_))⟩
set_option maxHeartbeats 1600000 in
theorem rmark_e2 (f t : ByteArray) (n d b : Int) (hf : f.size ≤ 1000000) (ht : t.size ≤ 1000000) (H : Hid (chkR f t n d = 0)) (h : ¬ (-9999 ≤ b ∧ b ≤ 100000)) (w : World) : Calls Tryd.prog 24 #[.agg #[.string f, .string t, .int .i64 n, .int .i64 d], .int .i64 b] w fun x w' => x = .returned (.tuple #[.agg #[.string ⟨#[]⟩, .string ⟨#[]⟩, .int .i64 0, .int .i64 0], .int .i64 4]) ∧ Pushed w w' := by
  have C1 := Lib.hid (fun w => rchk_any f t n d hf ht H w)
  by_cases h1 : b < -9999
  · clear h
    go_enter Tryd.func24, Tryd.ntmps24
    go_wp2_with fail
    go_at_call 14
    with_reducible refine (C1.out _).mono ?_
    rintro x w1 ⟨rfl, l0, n0, rfl⟩
    go_wp2
    exact bodyPost_ret (v := .tuple #[.agg #[.string ⟨#[]⟩, .string ⟨#[]⟩, .int .i64 0, .int .i64 0], .int .i64 4]) (by simp [results, Tryd.results24, go_sem]) rfl ⟨rfl, (by repeat (first | with_reducible exact Pushed.refl _ | with_reducible assumption | with_reducible refine Pushed.push ?_ _ | with_reducible refine Pushed.alloc ?_ _ | with_reducible refine Pushed.drewN ?_ _ | with_reducible refine Pushed.drew ?_))⟩
  · have h2 : 100000 < b := by omega
    clear h
    go_enter Tryd.func24, Tryd.ntmps24
    go_wp2_with fail
    go_at_call 14
    with_reducible refine (C1.out _).mono ?_
    rintro x w1 ⟨rfl, l0, n0, rfl⟩
    go_wp2
    exact bodyPost_ret (v := .tuple #[.agg #[.string ⟨#[]⟩, .string ⟨#[]⟩, .int .i64 0, .int .i64 0], .int .i64 4]) (by simp [results, Tryd.results24, go_sem]) rfl ⟨rfl, (by repeat (first | with_reducible exact Pushed.refl _ | with_reducible assumption | with_reducible refine Pushed.push ?_ _ | with_reducible refine Pushed.alloc ?_ _ | with_reducible refine Pushed.drewN ?_ _ | with_reducible refine Pushed.drew ?_))⟩
set_option maxHeartbeats 1600000 in
theorem rmark_ok (f t : ByteArray) (n d m : Nat) (b : Int) (hf : f.size ≤ 1000000) (ht : t.size ≤ 1000000) (H : Hid (chkR f t n d = 0)) (hm : 10000 + b = (m : Int)) (b0 : -9999 ≤ b) (b1 : b ≤ 100000) (ha : 1 ≤ n) (hb : 1 ≤ d) (ga : n ≤ 1099511627776) (gb : d ≤ 1099511627776) (h : prdOk n d m 10000) (w : World) : Calls Tryd.prog 24 #[.agg #[.string f, .string t, .int .i64 (n : Int), .int .i64 (d : Int)], .int .i64 b] w fun x w' => x = .returned (.tuple #[.agg #[.string f, .string t, .int .i64 (prdN n d m 10000 : Int), .int .i64 (prdD n d m 10000 : Int)], .int .i64 0]) ∧ Pushed w w' := by
  have C1 := Lib.hid (fun w => rchk_any f t n d hf ht H w)
  have P1 : Hid (∀ w, Calls Tryd.prog 39 #[.int .i64 (n : Int), .int .i64 (d : Int), .int .i64 (m : Int), .int .i64 10000] w fun x w' => x = .returned (.tuple #[.int .i64 (prdN n d m 10000 : Int), .int .i64 (prdD n d m 10000 : Int), .bool true]) ∧ Pushed w w') := Lib.hid (fun w => rprod_ok n d m 10000 ha hb (by omega) (by omega) ga gb (by omega) (by omega) h w)
  generalize prdN n d m 10000 = pn at *
  generalize prdD n d m 10000 = pd at *
  clear H ha hb ga gb h
  go_enter Tryd.func24, Tryd.ntmps24
  go_wp2_with fail
  go_at_call 14
  with_reducible refine (C1.out _).mono ?_
  rintro x w1 ⟨rfl, l0, n0, rfl⟩
  go_wp2_with fail
  go_at_call 39
  with_reducible refine (P1.out _).mono ?_
  rintro x w1 ⟨rfl, l1, n1, rfl⟩
  go_wp2
  exact bodyPost_ret (v := .tuple #[.agg #[.string f, .string t, .int .i64 (pn : Int), .int .i64 (pd : Int)], .int .i64 0]) (by simp [results, Tryd.results24, go_sem]) rfl ⟨rfl, (by repeat (first | with_reducible exact Pushed.refl _ | with_reducible assumption | with_reducible refine Pushed.push ?_ _ | with_reducible refine Pushed.alloc ?_ _ | with_reducible refine Pushed.drewN ?_ _ | with_reducible refine Pushed.drew ?_))⟩
set_option maxHeartbeats 1600000 in
theorem rmark_bad (f t : ByteArray) (n d m : Nat) (b : Int) (hf : f.size ≤ 1000000) (ht : t.size ≤ 1000000) (H : Hid (chkR f t n d = 0)) (hm : 10000 + b = (m : Int)) (b0 : -9999 ≤ b) (b1 : b ≤ 100000) (ha : 1 ≤ n) (hb : 1 ≤ d) (ga : n ≤ 1099511627776) (gb : d ≤ 1099511627776) (h : ¬ prdOk n d m 10000) (w : World) : Calls Tryd.prog 24 #[.agg #[.string f, .string t, .int .i64 (n : Int), .int .i64 (d : Int)], .int .i64 b] w fun x w' => x = .returned (.tuple #[.agg #[.string ⟨#[]⟩, .string ⟨#[]⟩, .int .i64 0, .int .i64 0], .int .i64 4]) ∧ Pushed w w' := by
  have C1 := Lib.hid (fun w => rchk_any f t n d hf ht H w)
  have P1 : Hid (∀ w, Calls Tryd.prog 39 #[.int .i64 (n : Int), .int .i64 (d : Int), .int .i64 (m : Int), .int .i64 10000] w fun x w' => x = .returned (.tuple #[.int .i64 0, .int .i64 0, .bool false]) ∧ Pushed w w') := Lib.hid (fun w => rprod_bad n d m 10000 ha hb (by omega) (by omega) ga gb (by omega) (by omega) h w)
  clear H ha hb ga gb h
  go_enter Tryd.func24, Tryd.ntmps24
  go_wp2_with fail
  go_at_call 14
  with_reducible refine (C1.out _).mono ?_
  rintro x w1 ⟨rfl, l0, n0, rfl⟩
  go_wp2_with fail
  go_at_call 39
  with_reducible refine (P1.out _).mono ?_
  rintro x w1 ⟨rfl, l1, n1, rfl⟩
  go_wp2
  exact bodyPost_ret (v := .tuple #[.agg #[.string ⟨#[]⟩, .string ⟨#[]⟩, .int .i64 0, .int .i64 0], .int .i64 4]) (by simp [results, Tryd.results24, go_sem]) rfl ⟨rfl, (by repeat (first | with_reducible exact Pushed.refl _ | with_reducible assumption | with_reducible refine Pushed.push ?_ _ | with_reducible refine Pushed.alloc ?_ _ | with_reducible refine Pushed.drewN ?_ _ | with_reducible refine Pushed.drew ?_))⟩
end Go.Proofs.YtobnkfgikafanaaDoor
