/-
  CONTRACTS of amounts: the specification's Scale by any fraction.
-/
import Derived.Test.YtompkkanckejjaaDoorM3
namespace Go.Proofs.YtompkkanckejjaaDoor
open Go.RowKit
set_option linter.unusedVariables false
set_option linter.unusedSimpArgs false
set_option maxRecDepth 20000 in
set_option maxHeartbeats 6400000 in
theorem rscale_e1 (m num den mode : Int) (c : ByteArray) (hc : c.size ≤ 9223372036854775807) {e : Int} (h0 : Hid (mchkR m c = e)) (he : (e != 0) = true) (w : World) : Calls Tryd.prog 20 #[.agg #[.int .i64 m, .string c], .int .i64 num, .int .i64 den, .int .i64 mode] w fun x w' => x = .returned (.tuple #[.agg #[.int .i64 0, .string ⟨#[]⟩], .int .i64 e]) ∧ Below w.heap.size w w' := by
  have CK := Lib.hid (fun w => rmchk_any m c hc h0 w)
  have hM0 : Blk ((w.alloc (.cells #[.int .i64 m, .string c] 23)).alloc (.cells #[.int .i64 0, .string ⟨#[]⟩] 23)) w.heap.size 23 #[.int .i64 m, .string c] := (Blk.new _ _ _).alloc _
  have hA0 : Blk ((w.alloc (.cells #[.int .i64 m, .string c] 23)).alloc (.cells #[.int .i64 0, .string ⟨#[]⟩] 23)) (w.heap.size + 1) 23 #[.int .i64 0, .string ⟨#[]⟩] := by
    have h := Blk.new (w.alloc (.cells #[.int .i64 m, .string c] 23)) 23 #[.int .i64 0, .string ⟨#[]⟩]
    rw [World.size_alloc] at h
    exact h
  have hB0 : Below w.heap.size w ((w.alloc (.cells #[.int .i64 m, .string c] 23)).alloc (.cells #[.int .i64 0, .string ⟨#[]⟩] 23)) := bel_alloc (bel_alloc (Below.refl _ _) _) _
  clear hc h0
  go_enter Tryd.func20, Tryd.ntmps20
  go_wp2_with fail
  with_reducible refine (CK.out _).mono ?_
  rintro z w1 ⟨rfl, h1⟩
  have HM1 := Lib.hid (hM0.below h1.below hM0.lt)
  have HA1 := Lib.hid (hA0.below h1.below hA0.lt)
  have HB1 := Lib.hid (hB0.trans (h1.below.mono hB0.size))
  clear h1 hM0 hA0 hB0
  have a0 := HA1.out.cell 0
  have a1 := HA1.out.cell 1
  have af0 := HA1.out.frozen 0
  have af1 := HA1.out.frozen 1
  have al := HA1.out.lt
  clear CK
  go_wp2
  have hF : Blk ((w1.setCell ⟨w.heap.size + 1, 0, none⟩ (.int .i64 0)).setCell ⟨w.heap.size + 1, 1, none⟩ (.string ⟨#[]⟩)) (w.heap.size + 1) 23 #[.int .i64 0, .string ⟨#[]⟩] := (HA1.out.set_ 0 _).set_ 1 _
  have f0 := hF.cell 0
  have f1 := hF.cell 1
  exact bodyPost_ret (v := .tuple #[.agg #[.int .i64 0, .string ⟨#[]⟩], .int .i64 e]) (by simp [results, Tryd.results20, go_sem, f0, f1]) rfl ⟨rfl, (HB1.out.setCell (by simp) _).setCell (by simp) _⟩
set_option maxRecDepth 20000 in
set_option maxHeartbeats 6400000 in
theorem rscale_e2 (m num den mode : Int) (c : ByteArray) (hc : c.size ≤ 9223372036854775807) (h0 : Hid (mchkR m c = 0)) (hb : den < 1 ∨ 1099511627776 < den ∨ num < -1099511627776 ∨ 1099511627776 < num ∨ mode < 1 ∨ 4 < mode) (w : World) : Calls Tryd.prog 20 #[.agg #[.int .i64 m, .string c], .int .i64 num, .int .i64 den, .int .i64 mode] w fun x w' => x = .returned (.tuple #[.agg #[.int .i64 0, .string ⟨#[]⟩], .int .i64 4]) ∧ Below w.heap.size w w' := by
  have CK := Lib.hid (fun w => rmchk_any m c hc h0 w)
  have hM0 : Blk ((w.alloc (.cells #[.int .i64 m, .string c] 23)).alloc (.cells #[.int .i64 0, .string ⟨#[]⟩] 23)) w.heap.size 23 #[.int .i64 m, .string c] := (Blk.new _ _ _).alloc _
  have hA0 : Blk ((w.alloc (.cells #[.int .i64 m, .string c] 23)).alloc (.cells #[.int .i64 0, .string ⟨#[]⟩] 23)) (w.heap.size + 1) 23 #[.int .i64 0, .string ⟨#[]⟩] := by
    have h := Blk.new (w.alloc (.cells #[.int .i64 m, .string c] 23)) 23 #[.int .i64 0, .string ⟨#[]⟩]
    rw [World.size_alloc] at h
    exact h
  have hB0 : Below w.heap.size w ((w.alloc (.cells #[.int .i64 m, .string c] 23)).alloc (.cells #[.int .i64 0, .string ⟨#[]⟩] 23)) := bel_alloc (bel_alloc (Below.refl _ _) _) _
  clear hc h0
  have HB := Lib.hid hb
  clear hb
  by_cases g0 : den < 1
  · clear HB
    go_enter Tryd.func20, Tryd.ntmps20
    go_wp2_with fail
    with_reducible refine (CK.out _).mono ?_
    rintro z w1 ⟨rfl, h1⟩
    have HM1 := Lib.hid (hM0.below h1.below hM0.lt)
    have HA1 := Lib.hid (hA0.below h1.below hA0.lt)
    have HB1 := Lib.hid (hB0.trans (h1.below.mono hB0.size))
    clear h1 hM0 hA0 hB0
    have a0 := HA1.out.cell 0
    have a1 := HA1.out.cell 1
    have af0 := HA1.out.frozen 0
    have af1 := HA1.out.frozen 1
    have al := HA1.out.lt
    clear CK
    go_wp2
    have hF : Blk ((w1.setCell ⟨w.heap.size + 1, 0, none⟩ (.int .i64 0)).setCell ⟨w.heap.size + 1, 1, none⟩ (.string ⟨#[]⟩)) (w.heap.size + 1) 23 #[.int .i64 0, .string ⟨#[]⟩] := (HA1.out.set_ 0 _).set_ 1 _
    have f0 := hF.cell 0
    have f1 := hF.cell 1
    exact bodyPost_ret (v := .tuple #[.agg #[.int .i64 0, .string ⟨#[]⟩], .int .i64 4]) (by simp [results, Tryd.results20, go_sem, f0, f1]) rfl ⟨rfl, (HB1.out.setCell (by simp) _).setCell (by simp) _⟩
  by_cases g1 : 1099511627776 < den
  · clear HB
    go_enter Tryd.func20, Tryd.ntmps20
    go_wp2_with fail
    with_reducible refine (CK.out _).mono ?_
    rintro z w1 ⟨rfl, h1⟩
    have HM1 := Lib.hid (hM0.below h1.below hM0.lt)
    have HA1 := Lib.hid (hA0.below h1.below hA0.lt)
    have HB1 := Lib.hid (hB0.trans (h1.below.mono hB0.size))
    clear h1 hM0 hA0 hB0
    have a0 := HA1.out.cell 0
    have a1 := HA1.out.cell 1
    have af0 := HA1.out.frozen 0
    have af1 := HA1.out.frozen 1
    have al := HA1.out.lt
    clear CK
    go_wp2
    have hF : Blk ((w1.setCell ⟨w.heap.size + 1, 0, none⟩ (.int .i64 0)).setCell ⟨w.heap.size + 1, 1, none⟩ (.string ⟨#[]⟩)) (w.heap.size + 1) 23 #[.int .i64 0, .string ⟨#[]⟩] := (HA1.out.set_ 0 _).set_ 1 _
    have f0 := hF.cell 0
    have f1 := hF.cell 1
    exact bodyPost_ret (v := .tuple #[.agg #[.int .i64 0, .string ⟨#[]⟩], .int .i64 4]) (by simp [results, Tryd.results20, go_sem, f0, f1]) rfl ⟨rfl, (HB1.out.setCell (by simp) _).setCell (by simp) _⟩
  by_cases g2 : num < -1099511627776
  · clear HB
    go_enter Tryd.func20, Tryd.ntmps20
    go_wp2_with fail
    with_reducible refine (CK.out _).mono ?_
    rintro z w1 ⟨rfl, h1⟩
    have HM1 := Lib.hid (hM0.below h1.below hM0.lt)
    have HA1 := Lib.hid (hA0.below h1.below hA0.lt)
    have HB1 := Lib.hid (hB0.trans (h1.below.mono hB0.size))
    clear h1 hM0 hA0 hB0
    have a0 := HA1.out.cell 0
    have a1 := HA1.out.cell 1
    have af0 := HA1.out.frozen 0
    have af1 := HA1.out.frozen 1
    have al := HA1.out.lt
    clear CK
    go_wp2
    have hF : Blk ((w1.setCell ⟨w.heap.size + 1, 0, none⟩ (.int .i64 0)).setCell ⟨w.heap.size + 1, 1, none⟩ (.string ⟨#[]⟩)) (w.heap.size + 1) 23 #[.int .i64 0, .string ⟨#[]⟩] := (HA1.out.set_ 0 _).set_ 1 _
    have f0 := hF.cell 0
    have f1 := hF.cell 1
    exact bodyPost_ret (v := .tuple #[.agg #[.int .i64 0, .string ⟨#[]⟩], .int .i64 4]) (by simp [results, Tryd.results20, go_sem, f0, f1]) rfl ⟨rfl, (HB1.out.setCell (by simp) _).setCell (by simp) _⟩
  by_cases g3 : 1099511627776 < num
  · clear HB
    go_enter Tryd.func20, Tryd.ntmps20
    go_wp2_with fail
    with_reducible refine (CK.out _).mono ?_
    rintro z w1 ⟨rfl, h1⟩
    have HM1 := Lib.hid (hM0.below h1.below hM0.lt)
    have HA1 := Lib.hid (hA0.below h1.below hA0.lt)
    have HB1 := Lib.hid (hB0.trans (h1.below.mono hB0.size))
    clear h1 hM0 hA0 hB0
    have a0 := HA1.out.cell 0
    have a1 := HA1.out.cell 1
    have af0 := HA1.out.frozen 0
    have af1 := HA1.out.frozen 1
    have al := HA1.out.lt
    clear CK
    go_wp2
    have hF : Blk ((w1.setCell ⟨w.heap.size + 1, 0, none⟩ (.int .i64 0)).setCell ⟨w.heap.size + 1, 1, none⟩ (.string ⟨#[]⟩)) (w.heap.size + 1) 23 #[.int .i64 0, .string ⟨#[]⟩] := (HA1.out.set_ 0 _).set_ 1 _
    have f0 := hF.cell 0
    have f1 := hF.cell 1
    exact bodyPost_ret (v := .tuple #[.agg #[.int .i64 0, .string ⟨#[]⟩], .int .i64 4]) (by simp [results, Tryd.results20, go_sem, f0, f1]) rfl ⟨rfl, (HB1.out.setCell (by simp) _).setCell (by simp) _⟩
  by_cases g4 : mode < 1
  · clear HB
    go_enter Tryd.func20, Tryd.ntmps20
    go_wp2_with fail
    with_reducible refine (CK.out _).mono ?_
    rintro z w1 ⟨rfl, h1⟩
    have HM1 := Lib.hid (hM0.below h1.below hM0.lt)
    have HA1 := Lib.hid (hA0.below h1.below hA0.lt)
    have HB1 := Lib.hid (hB0.trans (h1.below.mono hB0.size))
    clear h1 hM0 hA0 hB0
    have a0 := HA1.out.cell 0
    have a1 := HA1.out.cell 1
    have af0 := HA1.out.frozen 0
    have af1 := HA1.out.frozen 1
    have al := HA1.out.lt
    clear CK
    go_wp2
    have hF : Blk ((w1.setCell ⟨w.heap.size + 1, 0, none⟩ (.int .i64 0)).setCell ⟨w.heap.size + 1, 1, none⟩ (.string ⟨#[]⟩)) (w.heap.size + 1) 23 #[.int .i64 0, .string ⟨#[]⟩] := (HA1.out.set_ 0 _).set_ 1 _
    have f0 := hF.cell 0
    have f1 := hF.cell 1
    exact bodyPost_ret (v := .tuple #[.agg #[.int .i64 0, .string ⟨#[]⟩], .int .i64 4]) (by simp [results, Tryd.results20, go_sem, f0, f1]) rfl ⟨rfl, (HB1.out.setCell (by simp) _).setCell (by simp) _⟩
  by_cases g5 : 4 < mode
  · clear HB
    go_enter Tryd.func20, Tryd.ntmps20
    go_wp2_with fail
    with_reducible refine (CK.out _).mono ?_
    rintro z w1 ⟨rfl, h1⟩
    have HM1 := Lib.hid (hM0.below h1.below hM0.lt)
    have HA1 := Lib.hid (hA0.below h1.below hA0.lt)
    have HB1 := Lib.hid (hB0.trans (h1.below.mono hB0.size))
    clear h1 hM0 hA0 hB0
    have a0 := HA1.out.cell 0
    have a1 := HA1.out.cell 1
    have af0 := HA1.out.frozen 0
    have af1 := HA1.out.frozen 1
    have al := HA1.out.lt
    clear CK
    go_wp2
    have hF : Blk ((w1.setCell ⟨w.heap.size + 1, 0, none⟩ (.int .i64 0)).setCell ⟨w.heap.size + 1, 1, none⟩ (.string ⟨#[]⟩)) (w.heap.size + 1) 23 #[.int .i64 0, .string ⟨#[]⟩] := (HA1.out.set_ 0 _).set_ 1 _
    have f0 := hF.cell 0
    have f1 := hF.cell 1
    exact bodyPost_ret (v := .tuple #[.agg #[.int .i64 0, .string ⟨#[]⟩], .int .i64 4]) (by simp [results, Tryd.results20, go_sem, f0, f1]) rfl ⟨rfl, (HB1.out.setCell (by simp) _).setCell (by simp) _⟩
  exact absurd HB.out (by omega)
set_option maxRecDepth 20000 in
set_option maxHeartbeats 6400000 in
theorem rscale_big (m num : Int) (A N D : Nat) (mode : Int) (c : ByteArray) (hc : c.size ≤ 9223372036854775807) (hA : A ≤ 4503599627370496) (hN : N ≤ 1099511627776) (D0 : 1 ≤ D) (D1 : D ≤ 1099511627776) (nn0 : -1099511627776 ≤ num) (nn1 : num ≤ 1099511627776) (mA : max m (-m) = (A : Int)) (mN : max num (-num) = (N : Int)) (h0 : Hid (mchkR m c = 0)) (mb0 : -4503599627370496 ≤ m) (mb1 : m ≤ 4503599627370496) (hm : 1 ≤ mode ∧ mode ≤ 4) (hv : 4503599627370496 < rndR (qLim A N D 4503599627370496) (A * N % D) D mode) (w : World) : Calls Tryd.prog 20 #[.agg #[.int .i64 m, .string c], .int .i64 num, .int .i64 (D : Int), .int .i64 mode] w fun x w' => x = .returned (.tuple #[.agg #[.int .i64 0, .string ⟨#[]⟩], .int .i64 4]) ∧ Below w.heap.size w w' := by
  have CK := Lib.hid (fun w => rmchk_any m c hc h0 w)
  have hq := qLim_le A N D 4503599627370496
  have hr : A * N % D < D := Nat.mod_lt _ D0
  have DV0 := fun w => rdivide_any A N D 4503599627370496 hA hN D0 D1 (Nat.le_refl _) w
  rw [show ((4503599627370496 : Nat) : Int) = 4503599627370496 from rfl] at DV0
  have DV := Lib.hid DV0
  clear DV0
  have RN := Lib.hid (fun w => rround_any (qLim A N D 4503599627370496) (A * N % D) D mode hq (by omega) D1 (Lib.hid rfl) w)
  have n0 : ¬ (D : Int) < 1 := by omega
  have n1 : ¬ (1099511627776 : Int) < (D : Int) := by omega
  have n2 : ¬ num < -1099511627776 := by omega
  have n3 : ¬ (1099511627776 : Int) < num := by omega
  have g0 : ¬ mode < 1 := by omega
  have g1 : ¬ 4 < mode := by omega
  have gv : (4503599627370496 : Int) < ((rndR (qLim A N D 4503599627370496) (A * N % D) D mode : Nat) : Int) := by omega
  generalize rndR (qLim A N D 4503599627370496) (A * N % D) D mode = V at *
  generalize qLim A N D 4503599627370496 = Q at *
  generalize A * N % D = R at *
  have hM0 : Blk ((w.alloc (.cells #[.int .i64 m, .string c] 23)).alloc (.cells #[.int .i64 0, .string ⟨#[]⟩] 23)) w.heap.size 23 #[.int .i64 m, .string c] := (Blk.new _ _ _).alloc _
  have hA0 : Blk ((w.alloc (.cells #[.int .i64 m, .string c] 23)).alloc (.cells #[.int .i64 0, .string ⟨#[]⟩] 23)) (w.heap.size + 1) 23 #[.int .i64 0, .string ⟨#[]⟩] := by
    have h := Blk.new (w.alloc (.cells #[.int .i64 m, .string c] 23)) 23 #[.int .i64 0, .string ⟨#[]⟩]
    rw [World.size_alloc] at h
    exact h
  have hB0 : Below w.heap.size w ((w.alloc (.cells #[.int .i64 m, .string c] 23)).alloc (.cells #[.int .i64 0, .string ⟨#[]⟩] 23)) := bel_alloc (bel_alloc (Below.refl _ _) _) _
  clear D0 D1 hc h0 hq hr hm hA hN hv
  go_enter Tryd.func20, Tryd.ntmps20
  go_wp2_with fail
  with_reducible refine (CK.out _).mono ?_
  rintro z w1 ⟨rfl, h1⟩
  have HM1 := Lib.hid (hM0.below h1.below hM0.lt)
  have HA1 := Lib.hid (hA0.below h1.below hA0.lt)
  have HB1 := Lib.hid (hB0.trans (h1.below.mono hB0.size))
  clear h1 hM0 hA0 hB0
  have q0 := HM1.out.cell 0
  have q1 := HM1.out.cell 1
  have ql := HM1.out.lt
  go_wp2_with fail
  with_reducible refine (DV.out _).mono ?_
  rintro z w2 ⟨rfl, h2⟩
  have HM2 := Lib.hid (HM1.out.below h2.below HM1.out.lt)
  have HA2 := Lib.hid (HA1.out.below h2.below HA1.out.lt)
  have HB2 := Lib.hid (HB1.out.trans (h2.below.mono HB1.out.size))
  clear h2
  clear q0 q1 ql
  go_wp2_with fail
  with_reducible refine (RN.out _).mono ?_
  rintro z w3 ⟨rfl, h3⟩
  have HM3 := Lib.hid (HM2.out.below h3.below HM2.out.lt)
  have HA3 := Lib.hid (HA2.out.below h3.below HA2.out.lt)
  have HB3 := Lib.hid (HB2.out.trans (h3.below.mono HB2.out.size))
  clear h3
  have q0 := HM3.out.cell 0
  have q1 := HM3.out.cell 1
  have ql := HM3.out.lt
  have a0 := HA3.out.cell 0
  have a1 := HA3.out.cell 1
  have af0 := HA3.out.frozen 0
  have af1 := HA3.out.frozen 1
  have al := HA3.out.lt
  clear CK DV RN
  go_wp2
  have hF : Blk ((w3.setCell ⟨w.heap.size + 1, 0, none⟩ (.int .i64 0)).setCell ⟨w.heap.size + 1, 1, none⟩ (.string ⟨#[]⟩)) (w.heap.size + 1) 23 #[.int .i64 0, .string ⟨#[]⟩] := (HA3.out.set_ 0 _).set_ 1 _
  have f0 := hF.cell 0
  have f1 := hF.cell 1
  exact bodyPost_ret (v := .tuple #[.agg #[.int .i64 0, .string ⟨#[]⟩], .int .i64 4]) (by simp [results, Tryd.results20, go_sem, f0, f1]) rfl ⟨rfl, (HB3.out.setCell (by simp) _).setCell (by simp) _⟩
set_option maxRecDepth 20000 in
set_option maxHeartbeats 6400000 in
theorem rscale_okp (m num : Int) (A N D : Nat) (mode : Int) (c : ByteArray) (hc : c.size ≤ 9223372036854775807) (hA : A ≤ 4503599627370496) (hN : N ≤ 1099511627776) (D0 : 1 ≤ D) (D1 : D ≤ 1099511627776) (nn0 : -1099511627776 ≤ num) (nn1 : num ≤ 1099511627776) (mA : max m (-m) = (A : Int)) (mN : max num (-num) = (N : Int)) (h0 : Hid (mchkR m c = 0)) (mb0 : -4503599627370496 ≤ m) (mb1 : m ≤ 4503599627370496) (hm : 1 ≤ mode ∧ mode ≤ 4) (kne : (decide (m < 0) != decide (num < 0)) = false) (hv : rndR (qLim A N D 4503599627370496) (A * N % D) D mode ≤ 4503599627370496) (w : World) : Calls Tryd.prog 20 #[.agg #[.int .i64 m, .string c], .int .i64 num, .int .i64 (D : Int), .int .i64 mode] w fun x w' => x = .returned (.tuple #[.agg #[.int .i64 ((rndR (qLim A N D 4503599627370496) (A * N % D) D mode : Nat) : Int), .string c], .int .i64 0]) ∧ Below w.heap.size w w' := by
  have CK := Lib.hid (fun w => rmchk_any m c hc h0 w)
  have hq := qLim_le A N D 4503599627370496
  have hr : A * N % D < D := Nat.mod_lt _ D0
  have DV0 := fun w => rdivide_any A N D 4503599627370496 hA hN D0 D1 (Nat.le_refl _) w
  rw [show ((4503599627370496 : Nat) : Int) = 4503599627370496 from rfl] at DV0
  have DV := Lib.hid DV0
  clear DV0
  have RN := Lib.hid (fun w => rround_any (qLim A N D 4503599627370496) (A * N % D) D mode hq (by omega) D1 (Lib.hid rfl) w)
  have n0 : ¬ (D : Int) < 1 := by omega
  have n1 : ¬ (1099511627776 : Int) < (D : Int) := by omega
  have n2 : ¬ num < -1099511627776 := by omega
  have n3 : ¬ (1099511627776 : Int) < num := by omega
  have g0 : ¬ mode < 1 := by omega
  have g1 : ¬ 4 < mode := by omega
  have kne2 : (decide (m < 0) == decide (num < 0)) = true := by revert kne; cases decide (m < 0) <;> cases decide (num < 0) <;> decide
  have gv : ¬ (4503599627370496 : Int) < ((rndR (qLim A N D 4503599627370496) (A * N % D) D mode : Nat) : Int) := by omega
  generalize rndR (qLim A N D 4503599627370496) (A * N % D) D mode = V at *
  generalize qLim A N D 4503599627370496 = Q at *
  generalize A * N % D = R at *
  have hM0 : Blk ((w.alloc (.cells #[.int .i64 m, .string c] 23)).alloc (.cells #[.int .i64 0, .string ⟨#[]⟩] 23)) w.heap.size 23 #[.int .i64 m, .string c] := (Blk.new _ _ _).alloc _
  have hA0 : Blk ((w.alloc (.cells #[.int .i64 m, .string c] 23)).alloc (.cells #[.int .i64 0, .string ⟨#[]⟩] 23)) (w.heap.size + 1) 23 #[.int .i64 0, .string ⟨#[]⟩] := by
    have h := Blk.new (w.alloc (.cells #[.int .i64 m, .string c] 23)) 23 #[.int .i64 0, .string ⟨#[]⟩]
    rw [World.size_alloc] at h
    exact h
  have hB0 : Below w.heap.size w ((w.alloc (.cells #[.int .i64 m, .string c] 23)).alloc (.cells #[.int .i64 0, .string ⟨#[]⟩] 23)) := bel_alloc (bel_alloc (Below.refl _ _) _) _
  clear D0 D1 hc h0 hq hr hm hA hN hv
  go_enter Tryd.func20, Tryd.ntmps20
  go_wp2_with fail
  with_reducible refine (CK.out _).mono ?_
  rintro z w1 ⟨rfl, h1⟩
  have HM1 := Lib.hid (hM0.below h1.below hM0.lt)
  have HA1 := Lib.hid (hA0.below h1.below hA0.lt)
  have HB1 := Lib.hid (hB0.trans (h1.below.mono hB0.size))
  clear h1 hM0 hA0 hB0
  have q0 := HM1.out.cell 0
  have q1 := HM1.out.cell 1
  have ql := HM1.out.lt
  go_wp2_with fail
  with_reducible refine (DV.out _).mono ?_
  rintro z w2 ⟨rfl, h2⟩
  have HM2 := Lib.hid (HM1.out.below h2.below HM1.out.lt)
  have HA2 := Lib.hid (HA1.out.below h2.below HA1.out.lt)
  have HB2 := Lib.hid (HB1.out.trans (h2.below.mono HB1.out.size))
  clear h2
  clear q0 q1 ql
  go_wp2_with fail
  with_reducible refine (RN.out _).mono ?_
  rintro z w3 ⟨rfl, h3⟩
  have HM3 := Lib.hid (HM2.out.below h3.below HM2.out.lt)
  have HA3 := Lib.hid (HA2.out.below h3.below HA2.out.lt)
  have HB3 := Lib.hid (HB2.out.trans (h3.below.mono HB2.out.size))
  clear h3
  have q0 := HM3.out.cell 0
  have q1 := HM3.out.cell 1
  have ql := HM3.out.lt
  have a0 := HA3.out.cell 0
  have a1 := HA3.out.cell 1
  have af0 := HA3.out.frozen 0
  have af1 := HA3.out.frozen 1
  have al := HA3.out.lt
  clear CK DV RN
  go_wp2
  have hF : Blk ((w3.setCell ⟨w.heap.size + 1, 0, none⟩ (.int .i64 (V : Int))).setCell ⟨w.heap.size + 1, 1, none⟩ (.string c)) (w.heap.size + 1) 23 #[.int .i64 (V : Int), .string c] := (HA3.out.set_ 0 _).set_ 1 _
  have f0 := hF.cell 0
  have f1 := hF.cell 1
  exact bodyPost_ret (v := .tuple #[.agg #[.int .i64 (V : Int), .string c], .int .i64 0]) (by simp [results, Tryd.results20, go_sem, f0, f1]) rfl ⟨rfl, (HB3.out.setCell (by simp) _).setCell (by simp) _⟩
set_option maxRecDepth 20000 in
set_option maxHeartbeats 6400000 in
theorem rscale_okn (m num : Int) (A N D : Nat) (mode : Int) (c : ByteArray) (hc : c.size ≤ 9223372036854775807) (hA : A ≤ 4503599627370496) (hN : N ≤ 1099511627776) (D0 : 1 ≤ D) (D1 : D ≤ 1099511627776) (nn0 : -1099511627776 ≤ num) (nn1 : num ≤ 1099511627776) (mA : max m (-m) = (A : Int)) (mN : max num (-num) = (N : Int)) (h0 : Hid (mchkR m c = 0)) (mb0 : -4503599627370496 ≤ m) (mb1 : m ≤ 4503599627370496) (hm : 1 ≤ mode ∧ mode ≤ 4) (kne : (decide (m < 0) != decide (num < 0)) = true) (hv : rndR (qLim A N D 4503599627370496) (A * N % D) D mode ≤ 4503599627370496) (w : World) : Calls Tryd.prog 20 #[.agg #[.int .i64 m, .string c], .int .i64 num, .int .i64 (D : Int), .int .i64 mode] w fun x w' => x = .returned (.tuple #[.agg #[.int .i64 (-((rndR (qLim A N D 4503599627370496) (A * N % D) D mode : Nat) : Int)), .string c], .int .i64 0]) ∧ Below w.heap.size w w' := by
  have CK := Lib.hid (fun w => rmchk_any m c hc h0 w)
  have hq := qLim_le A N D 4503599627370496
  have hr : A * N % D < D := Nat.mod_lt _ D0
  have DV0 := fun w => rdivide_any A N D 4503599627370496 hA hN D0 D1 (Nat.le_refl _) w
  rw [show ((4503599627370496 : Nat) : Int) = 4503599627370496 from rfl] at DV0
  have DV := Lib.hid DV0
  clear DV0
  have RN := Lib.hid (fun w => rround_any (qLim A N D 4503599627370496) (A * N % D) D mode hq (by omega) D1 (Lib.hid rfl) w)
  have n0 : ¬ (D : Int) < 1 := by omega
  have n1 : ¬ (1099511627776 : Int) < (D : Int) := by omega
  have n2 : ¬ num < -1099511627776 := by omega
  have n3 : ¬ (1099511627776 : Int) < num := by omega
  have g0 : ¬ mode < 1 := by omega
  have g1 : ¬ 4 < mode := by omega
  have kne2 : (decide (m < 0) == decide (num < 0)) = false := by revert kne; cases decide (m < 0) <;> cases decide (num < 0) <;> decide
  have gv : ¬ (4503599627370496 : Int) < ((rndR (qLim A N D 4503599627370496) (A * N % D) D mode : Nat) : Int) := by omega
  generalize rndR (qLim A N D 4503599627370496) (A * N % D) D mode = V at *
  generalize qLim A N D 4503599627370496 = Q at *
  generalize A * N % D = R at *
  have hM0 : Blk ((w.alloc (.cells #[.int .i64 m, .string c] 23)).alloc (.cells #[.int .i64 0, .string ⟨#[]⟩] 23)) w.heap.size 23 #[.int .i64 m, .string c] := (Blk.new _ _ _).alloc _
  have hA0 : Blk ((w.alloc (.cells #[.int .i64 m, .string c] 23)).alloc (.cells #[.int .i64 0, .string ⟨#[]⟩] 23)) (w.heap.size + 1) 23 #[.int .i64 0, .string ⟨#[]⟩] := by
    have h := Blk.new (w.alloc (.cells #[.int .i64 m, .string c] 23)) 23 #[.int .i64 0, .string ⟨#[]⟩]
    rw [World.size_alloc] at h
    exact h
  have hB0 : Below w.heap.size w ((w.alloc (.cells #[.int .i64 m, .string c] 23)).alloc (.cells #[.int .i64 0, .string ⟨#[]⟩] 23)) := bel_alloc (bel_alloc (Below.refl _ _) _) _
  clear D0 D1 hc h0 hq hr hm hA hN hv
  go_enter Tryd.func20, Tryd.ntmps20
  go_wp2_with fail
  with_reducible refine (CK.out _).mono ?_
  rintro z w1 ⟨rfl, h1⟩
  have HM1 := Lib.hid (hM0.below h1.below hM0.lt)
  have HA1 := Lib.hid (hA0.below h1.below hA0.lt)
  have HB1 := Lib.hid (hB0.trans (h1.below.mono hB0.size))
  clear h1 hM0 hA0 hB0
  have q0 := HM1.out.cell 0
  have q1 := HM1.out.cell 1
  have ql := HM1.out.lt
  go_wp2_with fail
  with_reducible refine (DV.out _).mono ?_
  rintro z w2 ⟨rfl, h2⟩
  have HM2 := Lib.hid (HM1.out.below h2.below HM1.out.lt)
  have HA2 := Lib.hid (HA1.out.below h2.below HA1.out.lt)
  have HB2 := Lib.hid (HB1.out.trans (h2.below.mono HB1.out.size))
  clear h2
  clear q0 q1 ql
  go_wp2_with fail
  with_reducible refine (RN.out _).mono ?_
  rintro z w3 ⟨rfl, h3⟩
  have HM3 := Lib.hid (HM2.out.below h3.below HM2.out.lt)
  have HA3 := Lib.hid (HA2.out.below h3.below HA2.out.lt)
  have HB3 := Lib.hid (HB2.out.trans (h3.below.mono HB2.out.size))
  clear h3
  have q0 := HM3.out.cell 0
  have q1 := HM3.out.cell 1
  have ql := HM3.out.lt
  have a0 := HA3.out.cell 0
  have a1 := HA3.out.cell 1
  have af0 := HA3.out.frozen 0
  have af1 := HA3.out.frozen 1
  have al := HA3.out.lt
  clear CK DV RN
  go_wp2
  have hF : Blk ((w3.setCell ⟨w.heap.size + 1, 0, none⟩ (.int .i64 (-(V : Int)))).setCell ⟨w.heap.size + 1, 1, none⟩ (.string c)) (w.heap.size + 1) 23 #[.int .i64 (-(V : Int)), .string c] := (HA3.out.set_ 0 _).set_ 1 _
  have f0 := hF.cell 0
  have f1 := hF.cell 1
  exact bodyPost_ret (v := .tuple #[.agg #[.int .i64 (-(V : Int)), .string c], .int .i64 0]) (by simp [results, Tryd.results20, go_sem, f0, f1]) rfl ⟨rfl, (HB3.out.setCell (by simp) _).setCell (by simp) _⟩
end Go.Proofs.YtompkkanckejjaaDoor
