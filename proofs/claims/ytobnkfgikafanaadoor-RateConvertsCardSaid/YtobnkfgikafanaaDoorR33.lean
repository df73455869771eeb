/-
  CONTRACTS of rates: the specification's Convert.
-/
import Derived.Test.YtobnkfgikafanaaDoorR32
namespace Go.Proofs.YtobnkfgikafanaaDoor
open Go.RowKit
set_option linter.unusedVariables false
set_option linter.unusedSimpArgs false
set_option maxHeartbeats 1600000 in
theorem rconv_e1 (m : Int) (c f t : ByteArray) (n d mode : Int) (hc : c.size ≤ 1000000) (hf : f.size ≤ 1000000) (ht : t.size ≤ 1000000) {e : Int} (H : Hid (mchkR m c = e)) (he : (e != 0) = true) (w : World) : Calls Tryd.prog 18 #[.agg #[.int .i64 m, .string c], .agg #[.string f, .string t, .int .i64 n, .int .i64 d], .int .i64 mode] w fun x w' => x = .returned (.tuple #[.agg #[.int .i64 0, .string ⟨#[]⟩], .int .i64 e]) ∧ Pushed w w' := by
  have C1 := Lib.hid (fun w => rmchk_any m c hc H w)
  go_enter Tryd.func18, Tryd.ntmps18
  go_wp2_with fail
  go_at_call 36
  with_reducible refine (C1.out _).mono ?_
  rintro x w1 ⟨rfl, l0, n0, rfl⟩
  go_wp2
  exact bodyPost_ret (v := .tuple #[.agg #[.int .i64 0, .string ⟨#[]⟩], .int .i64 e]) (by simp [results, Tryd.results18, go_sem]) rfl ⟨rfl, (by repeat (first | with_reducible exact Pushed.refl _ | with_reducible assumption | with_reducible refine Pushed.push ?_ _ | with_reducible refine Pushed.alloc ?_ _ | with_reducible refine Pushed.drewN ?_ _ | with_reducible refine Pushed.drew ?_))⟩
set_option maxHeartbeats 1600000 in
theorem rconv_e2 (m : Int) (c f t : ByteArray) (n d mode : Int) (hc : c.size ≤ 1000000) (hf : f.size ≤ 1000000) (ht : t.size ≤ 1000000) (H1 : Hid (mchkR m c = 0)) {e : Int} (H : Hid (chkR f t n d = e)) (he : (e != 0) = true) (w : World) : Calls Tryd.prog 18 #[.agg #[.int .i64 m, .string c], .agg #[.string f, .string t, .int .i64 n, .int .i64 d], .int .i64 mode] w fun x w' => x = .returned (.tuple #[.agg #[.int .i64 0, .string ⟨#[]⟩], .int .i64 e]) ∧ Pushed w w' := by
  have C1 := Lib.hid (fun w => rmchk_any m c hc H1 w)
  have C2 := Lib.hid (fun w => rchk_any f t n d hf ht H w)
  go_enter Tryd.func18, Tryd.ntmps18
  go_wp2_with fail
  go_at_call 36
  with_reducible refine (C1.out _).mono ?_
  rintro x w1 ⟨rfl, l0, n0, rfl⟩
  go_wp2_with fail
  go_at_call 14
  with_reducible refine (C2.out _).mono ?_
  rintro x w1 ⟨rfl, l1, n1, rfl⟩
  go_wp2
  exact bodyPost_ret (v := .tuple #[.agg #[.int .i64 0, .string ⟨#[]⟩], .int .i64 e]) (by simp [results, Tryd.results18, go_sem]) rfl ⟨rfl, (by repeat (first | with_reducible exact Pushed.refl _ | with_reducible assumption | with_reducible refine Pushed.push ?_ _ | with_reducible refine Pushed.alloc ?_ _ | with_reducible refine Pushed.drewN ?_ _ | with_reducible refine Pushed.drew ?_))⟩
set_option maxHeartbeats 1600000 in
theorem rconv_e3 (m : Int) (c f t : ByteArray) (n d mode : Int) (hc : c.size ≤ 1000000) (hf : f.size ≤ 1000000) (ht : t.size ≤ 1000000) (H1 : Hid (mchkR m c = 0)) (H : Hid (chkR f t n d = 0)) (hne : c ≠ f) (w : World) : Calls Tryd.prog 18 #[.agg #[.int .i64 m, .string c], .agg #[.string f, .string t, .int .i64 n, .int .i64 d], .int .i64 mode] w fun x w' => x = .returned (.tuple #[.agg #[.int .i64 0, .string ⟨#[]⟩], .int .i64 11]) ∧ Pushed w w' := by
  have C1 := Lib.hid (fun w => rmchk_any m c hc H1 w)
  have C2 := Lib.hid (fun w => rchk_any f t n d hf ht H w)
  have hs1 := str_ne hne
  have hs2 : (c.toList != f.toList) = true := by simpa [bne] using hs1
  go_enter Tryd.func18, Tryd.ntmps18
  go_wp2_with fail
  go_at_call 36
  with_reducible refine (C1.out _).mono ?_
  rintro x w1 ⟨rfl, l0, n0, rfl⟩
  go_wp2_with fail
  go_at_call 14
  with_reducible refine (C2.out _).mono ?_
  rintro x w1 ⟨rfl, l1, n1, rfl⟩
  go_wp2
  exact bodyPost_ret (v := .tuple #[.agg #[.int .i64 0, .string ⟨#[]⟩], .int .i64 11]) (by simp [results, Tryd.results18, go_sem]) rfl ⟨rfl, (by repeat (first | with_reducible exact Pushed.refl _ | with_reducible assumption | with_reducible refine Pushed.push ?_ _ | with_reducible refine Pushed.alloc ?_ _ | with_reducible refine Pushed.drewN ?_ _ | with_reducible refine Pushed.drew ?_))⟩
set_option maxRecDepth 20000 in
set_option maxHeartbeats 6400000 in
theorem rconv_e4 (m : Int) (c t : ByteArray) (n d mode : Int) (hc : c.size ≤ 1000000) (ht : t.size ≤ 1000000) (H1 : Hid (mchkR m c = 0)) (H : Hid (chkR c t n d = 0)) {e : Int} (he : (e != 0) = true) (SC : Hid (∀ w, Calls Tryd.prog 37 #[.agg #[.int .i64 m, .string c], .int .i64 n, .int .i64 d, .int .i64 mode] w fun x w' => x = .returned (.tuple #[.agg #[.int .i64 0, .string ⟨#[]⟩], .int .i64 e]) ∧ Below w.heap.size w w')) (w : World) : Calls Tryd.prog 18 #[.agg #[.int .i64 m, .string c], .agg #[.string c, .string t, .int .i64 n, .int .i64 d], .int .i64 mode] w fun x w' => x = .returned (.tuple #[.agg #[.int .i64 0, .string ⟨#[]⟩], .int .i64 e]) ∧ Below w.heap.size w w' := by
  have C1 := Lib.hid (fun w => rmchk_any m c hc H1 w)
  have C2 := Lib.hid (fun w => rchk_any c t n d hc ht H w)
  have hM0 : Blk (((w.alloc (.cells #[.int .i64 m, .string c] 33)).alloc (.cells #[.string c, .string t, .int .i64 n, .int .i64 d] 23)).alloc (.cells #[.int .i64 0, .string ⟨#[]⟩] 33)) (w.heap.size) 33 #[.int .i64 m, .string c] := ((Blk.new _ _ _).alloc _).alloc _
  have hR0 : Blk (((w.alloc (.cells #[.int .i64 m, .string c] 33)).alloc (.cells #[.string c, .string t, .int .i64 n, .int .i64 d] 23)).alloc (.cells #[.int .i64 0, .string ⟨#[]⟩] 33)) (w.heap.size + 1) 23 #[.string c, .string t, .int .i64 n, .int .i64 d] := by have h := (Blk.new (w.alloc (.cells #[.int .i64 m, .string c] 33)) 23 #[.string c, .string t, .int .i64 n, .int .i64 d]).alloc (.cells #[.int .i64 0, .string ⟨#[]⟩] 33); rw [World.size_alloc] at h; exact h
  have hA0 : Blk (((w.alloc (.cells #[.int .i64 m, .string c] 33)).alloc (.cells #[.string c, .string t, .int .i64 n, .int .i64 d] 23)).alloc (.cells #[.int .i64 0, .string ⟨#[]⟩] 33)) (w.heap.size + 2) 33 #[.int .i64 0, .string ⟨#[]⟩] := by have h := Blk.new ((w.alloc (.cells #[.int .i64 m, .string c] 33)).alloc (.cells #[.string c, .string t, .int .i64 n, .int .i64 d] 23)) 33 #[.int .i64 0, .string ⟨#[]⟩]; rw [World.size_alloc, World.size_alloc] at h; exact h
  have hB0 : Below w.heap.size w (((w.alloc (.cells #[.int .i64 m, .string c] 33)).alloc (.cells #[.string c, .string t, .int .i64 n, .int .i64 d] 23)).alloc (.cells #[.int .i64 0, .string ⟨#[]⟩] 33)) := bel_alloc (bel_alloc (bel_alloc (Below.refl _ _) _) _) _
  clear hc ht H1 H
  go_enter Tryd.func18, Tryd.ntmps18
  go_wp2_with fail
  with_reducible refine (C1.out _).mono ?_
  rintro z w1 ⟨rfl, h1⟩
  have HM1 := Lib.hid (hM0.below h1.below hM0.lt)
  have HR1 := Lib.hid (hR0.below h1.below hR0.lt)
  have HA1 := Lib.hid (hA0.below h1.below hA0.lt)
  have HB1 := Lib.hid (hB0.trans (h1.below.mono hB0.size))
  clear h1 hM0 hA0 hB0 hR0
  have q0 := HM1.out.cell 0
  have q1 := HM1.out.cell 1
  have ql := HM1.out.lt
  have r0 := HR1.out.cell 0
  have r1 := HR1.out.cell 1
  have r2 := HR1.out.cell 2
  have r3 := HR1.out.cell 3
  have rl := HR1.out.lt
  go_wp2_with fail
  with_reducible refine (C2.out _).mono ?_
  rintro z w2 ⟨rfl, h2⟩
  have HM2 := Lib.hid (HM1.out.below h2.below HM1.out.lt)
  have HR2 := Lib.hid (HR1.out.below h2.below HR1.out.lt)
  have HA2 := Lib.hid (HA1.out.below h2.below HA1.out.lt)
  have HB2 := Lib.hid (HB1.out.trans (h2.below.mono HB1.out.size))
  clear h2
  clear q0 q1 ql r0 r1 r2 r3 rl
  have q0 := HM2.out.cell 0
  have q1 := HM2.out.cell 1
  have ql := HM2.out.lt
  have r0 := HR2.out.cell 0
  have r1 := HR2.out.cell 1
  have r2 := HR2.out.cell 2
  have r3 := HR2.out.cell 3
  have rl := HR2.out.lt
  go_wp2_with fail
  with_reducible refine (SC.out _).mono ?_
  rintro z w3 ⟨rfl, h3⟩
  have HM3 := Lib.hid (HM2.out.below h3 HM2.out.lt)
  have HR3 := Lib.hid (HR2.out.below h3 HR2.out.lt)
  have HA3 := Lib.hid (HA2.out.below h3 HA2.out.lt)
  have HB3 := Lib.hid (HB2.out.trans (h3.mono HB2.out.size))
  clear h3
  clear q0 q1 ql r0 r1 r2 r3 rl C1 C2 SC
  have r0 := HR3.out.cell 0
  have r1 := HR3.out.cell 1
  have r2 := HR3.out.cell 2
  have r3 := HR3.out.cell 3
  have rl := HR3.out.lt
  have a0 := HA3.out.cell 0
  have a1 := HA3.out.cell 1
  have al := HA3.out.lt
  have af0 := HA3.out.frozen 0
  have af1 := HA3.out.frozen 1
  go_wp2
  have hF : Blk (((w3.setCell ⟨w.heap.size + 2, 0, none⟩ (.int .i64 0)).setCell ⟨w.heap.size + 2, 1, none⟩ (.string ⟨#[]⟩)).alloc (.cells #[.int .i64 0, .string ⟨#[]⟩] 33)) (w.heap.size + 2) 33 #[.int .i64 0, .string ⟨#[]⟩] := ((HA3.out.set_ 0 _).set_ 1 _).alloc _
  have f0 := hF.cell 0
  have f1 := hF.cell 1
  exact bodyPost_ret (v := .tuple #[.agg #[.int .i64 0, .string ⟨#[]⟩], .int .i64 e]) (by simp [results, Tryd.results18, go_sem, f0, f1]) rfl ⟨rfl, bel_alloc ((HB3.out.setCell (p := ⟨w.heap.size + 2, 0, none⟩) (Nat.le_add_right _ _) _).setCell (p := ⟨w.heap.size + 2, 1, none⟩) (Nat.le_add_right _ _) _) _⟩
set_option maxRecDepth 20000 in
set_option maxHeartbeats 6400000 in
theorem rconv_ok (m : Int) (c t : ByteArray) (n d mode : Int) (hc : c.size ≤ 1000000) (ht : t.size ≤ 1000000) (H1 : Hid (mchkR m c = 0)) (H : Hid (chkR c t n d = 0)) {y : Int} (SC : Hid (∀ w, Calls Tryd.prog 37 #[.agg #[.int .i64 m, .string c], .int .i64 n, .int .i64 d, .int .i64 mode] w fun x w' => x = .returned (.tuple #[.agg #[.int .i64 y, .string c], .int .i64 0]) ∧ Below w.heap.size w w')) (w : World) : Calls Tryd.prog 18 #[.agg #[.int .i64 m, .string c], .agg #[.string c, .string t, .int .i64 n, .int .i64 d], .int .i64 mode] w fun x w' => x = .returned (.tuple #[.agg #[.int .i64 y, .string t], .int .i64 0]) ∧ Below w.heap.size w w' := by
  have C1 := Lib.hid (fun w => rmchk_any m c hc H1 w)
  have C2 := Lib.hid (fun w => rchk_any c t n d hc ht H w)
  have hM0 : Blk (((w.alloc (.cells #[.int .i64 m, .string c] 33)).alloc (.cells #[.string c, .string t, .int .i64 n, .int .i64 d] 23)).alloc (.cells #[.int .i64 0, .string ⟨#[]⟩] 33)) (w.heap.size) 33 #[.int .i64 m, .string c] := ((Blk.new _ _ _).alloc _).alloc _
  have hR0 : Blk (((w.alloc (.cells #[.int .i64 m, .string c] 33)).alloc (.cells #[.string c, .string t, .int .i64 n, .int .i64 d] 23)).alloc (.cells #[.int .i64 0, .string ⟨#[]⟩] 33)) (w.heap.size + 1) 23 #[.string c, .string t, .int .i64 n, .int .i64 d] := by have h := (Blk.new (w.alloc (.cells #[.int .i64 m, .string c] 33)) 23 #[.string c, .string t, .int .i64 n, .int .i64 d]).alloc (.cells #[.int .i64 0, .string ⟨#[]⟩] 33); rw [World.size_alloc] at h; exact h
  have hA0 : Blk (((w.alloc (.cells #[.int .i64 m, .string c] 33)).alloc (.cells #[.string c, .string t, .int .i64 n, .int .i64 d] 23)).alloc (.cells #[.int .i64 0, .string ⟨#[]⟩] 33)) (w.heap.size + 2) 33 #[.int .i64 0, .string ⟨#[]⟩] := by have h := Blk.new ((w.alloc (.cells #[.int .i64 m, .string c] 33)).alloc (.cells #[.string c, .string t, .int .i64 n, .int .i64 d] 23)) 33 #[.int .i64 0, .string ⟨#[]⟩]; rw [World.size_alloc, World.size_alloc] at h; exact h
  have hB0 : Below w.heap.size w (((w.alloc (.cells #[.int .i64 m, .string c] 33)).alloc (.cells #[.string c, .string t, .int .i64 n, .int .i64 d] 23)).alloc (.cells #[.int .i64 0, .string ⟨#[]⟩] 33)) := bel_alloc (bel_alloc (bel_alloc (Below.refl _ _) _) _) _
  clear hc ht H1 H
  go_enter Tryd.func18, Tryd.ntmps18
  go_wp2_with fail
  with_reducible refine (C1.out _).mono ?_
  rintro z w1 ⟨rfl, h1⟩
  have HM1 := Lib.hid (hM0.below h1.below hM0.lt)
  have HR1 := Lib.hid (hR0.below h1.below hR0.lt)
  have HA1 := Lib.hid (hA0.below h1.below hA0.lt)
  have HB1 := Lib.hid (hB0.trans (h1.below.mono hB0.size))
  clear h1 hM0 hA0 hB0 hR0
  have q0 := HM1.out.cell 0
  have q1 := HM1.out.cell 1
  have ql := HM1.out.lt
  have r0 := HR1.out.cell 0
  have r1 := HR1.out.cell 1
  have r2 := HR1.out.cell 2
  have r3 := HR1.out.cell 3
  have rl := HR1.out.lt
  go_wp2_with fail
  with_reducible refine (C2.out _).mono ?_
  rintro z w2 ⟨rfl, h2⟩
  have HM2 := Lib.hid (HM1.out.below h2.below HM1.out.lt)
  have HR2 := Lib.hid (HR1.out.below h2.below HR1.out.lt)
  have HA2 := Lib.hid (HA1.out.below h2.below HA1.out.lt)
  have HB2 := Lib.hid (HB1.out.trans (h2.below.mono HB1.out.size))
  clear h2
  clear q0 q1 ql r0 r1 r2 r3 rl
  have q0 := HM2.out.cell 0
  have q1 := HM2.out.cell 1
  have ql := HM2.out.lt
  have r0 := HR2.out.cell 0
  have r1 := HR2.out.cell 1
  have r2 := HR2.out.cell 2
  have r3 := HR2.out.cell 3
  have rl := HR2.out.lt
  go_wp2_with fail
  with_reducible refine (SC.out _).mono ?_
  rintro z w3 ⟨rfl, h3⟩
  have HM3 := Lib.hid (HM2.out.below h3 HM2.out.lt)
  have HR3 := Lib.hid (HR2.out.below h3 HR2.out.lt)
  have HA3 := Lib.hid (HA2.out.below h3 HA2.out.lt)
  have HB3 := Lib.hid (HB2.out.trans (h3.mono HB2.out.size))
  clear h3
  clear q0 q1 ql r0 r1 r2 r3 rl C1 C2 SC
  have r0 := HR3.out.cell 0
  have r1 := HR3.out.cell 1
  have r2 := HR3.out.cell 2
  have r3 := HR3.out.cell 3
  have rl := HR3.out.lt
  have a0 := HA3.out.cell 0
  have a1 := HA3.out.cell 1
  have al := HA3.out.lt
  have af0 := HA3.out.frozen 0
  have af1 := HA3.out.frozen 1
  go_wp2
  have hF : Blk (((w3.setCell ⟨w.heap.size + 2, 0, none⟩ (.int .i64 y)).setCell ⟨w.heap.size + 2, 1, none⟩ (.string t)).alloc (.cells #[.int .i64 y, .string c] 33)) (w.heap.size + 2) 33 #[.int .i64 y, .string t] := ((HA3.out.set_ 0 _).set_ 1 _).alloc _
  have f0 := hF.cell 0
  have f1 := hF.cell 1
  exact bodyPost_ret (v := .tuple #[.agg #[.int .i64 y, .string t], .int .i64 0]) (by simp [results, Tryd.results18, go_sem, f0, f1]) rfl ⟨rfl, bel_alloc ((HB3.out.setCell (p := ⟨w.heap.size + 2, 0, none⟩) (Nat.le_add_right _ _) _).setCell (p := ⟨w.heap.size + 2, 1, none⟩) (Nat.le_add_right _ _) _) _⟩
end Go.Proofs.YtobnkfgikafanaaDoor
