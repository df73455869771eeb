/-
  CONTRACTS of wire: reading leaves every other block as it was.
-/
import Derived.Test.YtjemljhfopgmiaaDoorW27
namespace Go.Proofs.YtjemljhfopgmiaaDoor
open Go.RowKit
set_option linter.unusedVariables false
set_option linter.unusedSimpArgs false
/-- w' is w, but for the reader's block b, and for blocks from B on. -/
def Bes (b B : Nat) (w w' : World) : Prop := ∃ v o u, Below B w v ∧ w' = v.setCell ⟨b, o, none⟩ u
theorem Bes.below {b B C : Nat} {w w' : World} (h : Bes b B w w') (hb : C ≤ b) (hB : C ≤ B) : Below C w w' := by
  obtain ⟨v, o, u, h1, rfl⟩ := h
  exact (h1.mono hB).setCell (p := ⟨b, o, none⟩) hb _
theorem Bes.blk {b B : Nat} {w w' : World} (h : Bes b B w w') {g : Nat} {T : TypeId} {cs : Array Value} (hg : Blk w g T cs) (h1 : g < B) (h2 : g ≠ b) : Blk w' g T cs := by
  obtain ⟨v, o, u, hb, rfl⟩ := h
  exact (hg.below hb h1).far (p := ⟨b, o, none⟩) h2 _
theorem Bes.size {b B : Nat} {w w' : World} (h : Bes b B w w') : w.heap.size ≤ w'.heap.size := by
  obtain ⟨v, o, u, hb, rfl⟩ := h
  have : (v.setCell ⟨b, o, none⟩ u).heap.size = v.heap.size := by simp
  rw [this]
  exact hb.size
theorem Bes.after {b B : Nat} {w v w' : World} (h0 : Below B w v) (h : Bes b B v w') : Bes b B w w' := by
  obtain ⟨x, o, u, hb, rfl⟩ := h
  exact ⟨x, o, u, h0.trans hb, rfl⟩
set_option maxHeartbeats 1600000 in
theorem readb_num (b g h : Nat) (s : ByteArray) (k : Nat) (k1 : 1 ≤ k) (k2 : k ≤ 15) (hs : s.size ≤ 281474976710656) (B : Nat) (w : World) (hb : Blk w b 59 #[.string s, .int .i64 0]) (hg : Blk w g 3 #[.int .i64 (k : Int)]) (hh : Blk w h 2 #[.int .i64 0]) (bB : b < B) (Bh : B ≤ h) (BW : B ≤ w.heap.size) (gh : ¬ g = h) :
    Calls Tryd.prog 35 #[.pointer (some ⟨b, 0, none⟩), .func (Fn.func 36) #[] #[.pointer (some ⟨g, 0, none⟩), .pointer (some ⟨h, 0, none⟩)]] w fun e w' => ∃ v c, NumbP s k v c ∧ (∃ t, e = .returned t) ∧ Blk w' h 2 #[.int .i64 v] ∧ Blk w' b 59 #[.string (if c = 0 then s.extract k s.size else s), .int .i64 c] ∧ Bes b B w w' := by
  have b0 := hb.cell 0
  have b1 := hb.cell 1
  simp at b0 b1
  have C := Lib.hid (num1_any s k k1 k2 hs B g h w hg hh gh Bh BW)
  go_enter Tryd.func35, Tryd.ntmps35
  go_wp2_with fail
  refine C.out.mono ?_
  rintro e w1 ⟨v, c, hN, rfl, hh1, hw1⟩
  have hb2 := hb.below hw1 bB
  have c0 := hb2.cell 0
  have c1 := hb2.cell 1
  have f0 := hb2.frozen 0
  have f1 := hb2.frozen 1
  simp at c0 c1
  have HN := Lib.hid hN
  clear hN
  by_cases hc : c = 0
  · subst hc
    have hsl := fun w => sl_l s k (HN.out.fits rfl) (i := (k : Int)) rfl w
    go_wp2
    go_end0
    exact ⟨v, 0, HN.out, ⟨_, rfl⟩, hh1.far (by show h ≠ b; omega) _, by rw [if_pos rfl]; exact hb2.set_ 0 _, ⟨_, 0, _, hw1, rfl⟩⟩
  · have hcc : (c == 0) = false := by simpa using hc
    have hcc2 : (c != 0) = true := by simpa using hc
    have HC := Lib.hid hc
    go_wp2
    refine bodyPost_ret (results_none rfl _ _ _) rfl ?_
    exact ⟨v, c, HN.out, ⟨_, rfl⟩, hh1.far (p := ⟨b, 1, none⟩) (by show h ≠ b; omega) _, by rw [if_neg HC.out]; exact hb2.set_ 1 _, ⟨_, 1, _, hw1, rfl⟩⟩
set_option maxHeartbeats 1600000 in
/-- Num of a reader without an error. -/
theorem rdb_num (b : Nat) (s : ByteArray) (k : Nat) (k1 : 1 ≤ k) (k2 : k ≤ 15) (hs : s.size ≤ 281474976710656) (w : World) (hb : Blk w b 59 #[.string s, .int .i64 0]) :
    Calls Tryd.prog 19 #[.pointer (some ⟨b, 0, none⟩), .int .i64 (k : Int)] w fun e w' => ∃ v c, NumbP s k v c ∧ e = .returned (.int .i64 v) ∧ Blk w' b 59 #[.string (if c = 0 then s.extract k s.size else s), .int .i64 c] ∧ Bes b w.heap.size w w' := by
  have hlt := hb.lt
  have C := Lib.hid (readb_num b w.heap.size (w.heap.size + 1) s k k1 k2 hs w.heap.size ((w.alloc (.cells #[.int .i64 (k : Int)] 3)).alloc (.cells #[.int .i64 0] 2)) ((hb.alloc _).alloc _) ((Blk.new _ _ _).alloc _) (by have := Blk.new (w.alloc (.cells #[.int .i64 (k : Int)] 3)) 2 #[.int .i64 0]; simpa using this) hb.lt (by omega) (by simp; omega) (by omega))
  go_enter Tryd.func19, Tryd.ntmps19
  go_wp2_with fail
  refine C.out.mono ?_
  rintro e w1 ⟨v, c, hN, ⟨t, rfl⟩, hh1, hb1, hw1⟩
  have HN := Lib.hid hN
  clear hN
  have c0 := hh1.cell 0
  simp at c0
  go_wp2
  go_ret
  exact ⟨v, c, HN.out, rfl, hb1, hw1.after (((Below.refl _ w).alloc (Nat.le_refl _) _).alloc (by simp) _)⟩
set_option maxHeartbeats 1600000 in
set_option maxRecDepth 5000 in
/-- read of a reader without an error: what the function answers, n bytes and c; R is what the function left in the world besides, kept by writing to the reader's cells. -/
theorem readb_alpha (x y : Addr) (b B : Nat) (s : ByteArray) (R : Nat → Int → World → Prop) (hR : ∀ n c W o u, R n c W → R n c (W.setCell ⟨b, o, none⟩ u)) (hs : s.size ≤ 281474976710656) (w : World) (hb : Blk w b 59 #[.string s, .int .i64 0]) (bB : b < B)
    (C : Hid (Calls Tryd.prog 38 #[.string s, .pointer (some x), .pointer (some y)] w fun e w' => ∃ (n : Nat) (c : Int), R n c w' ∧ (c = 0 → n ≤ s.size) ∧ e = .returned (.tuple #[.int .i64 (n : Int), .int .i64 c]) ∧ Below B w w')) :
    Calls Tryd.prog 35 #[.pointer (some ⟨b, 0, none⟩), .func (Fn.func 38) #[] #[.pointer (some x), .pointer (some y)]] w fun e w' => ∃ (n : Nat) (c : Int), R n c w' ∧ (c = 0 → n ≤ s.size) ∧ (∃ t, e = .returned t) ∧ Blk w' b 59 #[.string (if c = 0 then s.extract n s.size else s), .int .i64 c] ∧ Bes b B w w' := by
  have b0 := hb.cell 0
  have b1 := hb.cell 1
  simp at b0 b1
  have HR := Lib.hid hR
  clear hR
  go_enter Tryd.func35, Tryd.ntmps35
  go_wp2_with fail
  refine C.out.mono ?_
  rintro e w1 ⟨n, c, hr, hn, rfl, hw1⟩
  have hb2 := hb.below hw1 bB
  have c0 := hb2.cell 0
  have c1 := hb2.cell 1
  have f0 := hb2.frozen 0
  have f1 := hb2.frozen 1
  simp at c0 c1
  have HN := Lib.hid hn
  have Hr := Lib.hid hr
  clear hn hr
  by_cases hc : c = 0
  · subst hc
    have hsl := fun w => sl_l s n (HN.out rfl) (i := (n : Int)) rfl w
    go_wp2
    go_end0
    exact ⟨n, 0, HR.out n 0 _ 0 _ Hr.out, fun _ => HN.out trivial, ⟨_, rfl⟩, by rw [if_pos rfl]; exact hb2.set_ 0 _, ⟨_, 0, _, hw1, rfl⟩⟩
  · have hcc : (c == 0) = false := by simpa using hc
    have hcc2 : (c != 0) = true := by simpa using hc
    have HC := Lib.hid hc
    go_wp2
    refine bodyPost_ret (results_none rfl _ _ _) rfl ?_
    exact ⟨n, c, HR.out n c _ 1 _ Hr.out, HN.out, ⟨_, rfl⟩, by rw [if_neg HC.out]; exact hb2.set_ 1 _, ⟨_, 1, _, hw1, rfl⟩⟩
set_option maxHeartbeats 1600000 in
set_option maxRecDepth 5000 in
/-- read of a reader without an error: what the function answers, n bytes and c; R is what the function left in the world besides, kept by writing to the reader's cells. -/
theorem readb_var (x y z : Addr) (b B : Nat) (s : ByteArray) (R : Nat → Int → World → Prop) (hR : ∀ n c W o u, R n c W → R n c (W.setCell ⟨b, o, none⟩ u)) (hs : s.size ≤ 281474976710656) (w : World) (hb : Blk w b 59 #[.string s, .int .i64 0]) (bB : b < B)
    (C : Hid (Calls Tryd.prog 40 #[.string s, .pointer (some x), .pointer (some y), .pointer (some z)] w fun e w' => ∃ (n : Nat) (c : Int), R n c w' ∧ (c = 0 → n ≤ s.size) ∧ e = .returned (.tuple #[.int .i64 (n : Int), .int .i64 c]) ∧ Below B w w')) :
    Calls Tryd.prog 35 #[.pointer (some ⟨b, 0, none⟩), .func (Fn.func 40) #[] #[.pointer (some x), .pointer (some y), .pointer (some z)]] w fun e w' => ∃ (n : Nat) (c : Int), R n c w' ∧ (c = 0 → n ≤ s.size) ∧ (∃ t, e = .returned t) ∧ Blk w' b 59 #[.string (if c = 0 then s.extract n s.size else s), .int .i64 c] ∧ Bes b B w w' := by
  have b0 := hb.cell 0
  have b1 := hb.cell 1
  simp at b0 b1
  have HR := Lib.hid hR
  clear hR
  go_enter Tryd.func35, Tryd.ntmps35
  go_wp2_with fail
  refine C.out.mono ?_
  rintro e w1 ⟨n, c, hr, hn, rfl, hw1⟩
  have hb2 := hb.below hw1 bB
  have c0 := hb2.cell 0
  have c1 := hb2.cell 1
  have f0 := hb2.frozen 0
  have f1 := hb2.frozen 1
  simp at c0 c1
  have HN := Lib.hid hn
  have Hr := Lib.hid hr
  clear hn hr
  by_cases hc : c = 0
  · subst hc
    have hsl := fun w => sl_l s n (HN.out rfl) (i := (n : Int)) rfl w
    go_wp2
    go_end0
    exact ⟨n, 0, HR.out n 0 _ 0 _ Hr.out, fun _ => HN.out trivial, ⟨_, rfl⟩, by rw [if_pos rfl]; exact hb2.set_ 0 _, ⟨_, 0, _, hw1, rfl⟩⟩
  · have hcc : (c == 0) = false := by simpa using hc
    have hcc2 : (c != 0) = true := by simpa using hc
    have HC := Lib.hid hc
    go_wp2
    refine bodyPost_ret (results_none rfl _ _ _) rfl ?_
    exact ⟨n, c, HR.out n c _ 1 _ Hr.out, HN.out, ⟨_, rfl⟩, by rw [if_neg HC.out]; exact hb2.set_ 1 _, ⟨_, 1, _, hw1, rfl⟩⟩
set_option maxHeartbeats 1600000 in
set_option maxRecDepth 4000 in
theorem rdb_var_2 (b : Nat) (s : ByteArray) (m : Int) (m0 : 0 ≤ m) (hs : s.size ≤ 281474976710656) (w : World) (hb : Blk w b 59 #[.string s, .int .i64 0]) :
    Calls Tryd.prog 21 #[.pointer (some ⟨b, 0, none⟩), .int .i64 2, .int .i64 m] w fun e w' => ∃ n c t, VarR s 2 m n c t ∧ e = .returned (.string t) ∧ Blk w' b 59 #[.string (if c = 0 then s.extract n s.size else s), .int .i64 c] ∧ Bes b w.heap.size w w' := by
  have hlt := hb.lt
  have E2 : (w.heap.size + 2) = ((w.alloc (.cells #[.int .i64 2] 3)).alloc (.cells #[.int .i64 m] 3)).heap.size := by simp
  have E1 : (w.heap.size + 1) = (w.alloc (.cells #[.int .i64 2] 3)).heap.size := by simp
  have N0 := ((Blk.new w 3 #[.int .i64 2]).alloc (.cells #[.int .i64 m] 3)).alloc (.cells #[.string ByteArray.empty] 9)
  have N1 := (Blk.new (w.alloc (.cells #[.int .i64 2] 3)) 3 #[.int .i64 m]).alloc (.cells #[.string ByteArray.empty] 9)
  have N2 := Blk.new ((w.alloc (.cells #[.int .i64 2] 3)).alloc (.cells #[.int .i64 m] 3)) 9 #[.string ByteArray.empty]
  rw [← E1] at N1
  rw [← E2] at N2
  have V := Lib.hid (var1_2 s m m0 hs w.heap.size w.heap.size (w.heap.size + 1) (w.heap.size + 2) _ N0 N1 N2 (by omega) (by omega) (by omega) (by simp; omega))
  have C := Lib.hid (readb_var ⟨w.heap.size, 0, none⟩ ⟨w.heap.size + 1, 0, none⟩ ⟨w.heap.size + 2, 0, none⟩ b w.heap.size s (fun n c W => ∃ t, VarR s 2 m n c t ∧ Blk W (w.heap.size + 2) 9 #[.string t]) (fun n c W o u h => by obtain ⟨t, h1, h2⟩ := h; exact ⟨t, h1, h2.far (p := ⟨b, o, none⟩) (by show w.heap.size + 2 ≠ b; omega) u⟩) hs _ (((hb.alloc _).alloc _).alloc _) hb.lt V)
  clear N0 N1 N2 V E1 E2
  go_enter Tryd.func21, Tryd.ntmps21
  go_wp2_with fail
  refine C.out.mono ?_
  rintro e w1 ⟨n, c, ⟨t, hV, hh1⟩, hn, ⟨q, rfl⟩, hb1, hw1⟩
  have HV := Lib.hid hV
  clear hV hn
  have c0 := hh1.cell 0
  simp at c0
  go_wp2
  go_ret
  exact ⟨n, c, t, HV.out, rfl, hb1, hw1.after ((((Below.refl _ w).alloc (Nat.le_refl _) _).alloc (by simp) _).alloc (by simp; omega) _)⟩
set_option maxHeartbeats 1600000 in
set_option maxRecDepth 4000 in
theorem rdb_var_3 (b : Nat) (s : ByteArray) (m : Int) (m0 : 0 ≤ m) (hs : s.size ≤ 281474976710656) (w : World) (hb : Blk w b 59 #[.string s, .int .i64 0]) :
    Calls Tryd.prog 21 #[.pointer (some ⟨b, 0, none⟩), .int .i64 3, .int .i64 m] w fun e w' => ∃ n c t, VarR s 3 m n c t ∧ e = .returned (.string t) ∧ Blk w' b 59 #[.string (if c = 0 then s.extract n s.size else s), .int .i64 c] ∧ Bes b w.heap.size w w' := by
  have hlt := hb.lt
  have E2 : (w.heap.size + 2) = ((w.alloc (.cells #[.int .i64 3] 3)).alloc (.cells #[.int .i64 m] 3)).heap.size := by simp
  have E1 : (w.heap.size + 1) = (w.alloc (.cells #[.int .i64 3] 3)).heap.size := by simp
  have N0 := ((Blk.new w 3 #[.int .i64 3]).alloc (.cells #[.int .i64 m] 3)).alloc (.cells #[.string ByteArray.empty] 9)
  have N1 := (Blk.new (w.alloc (.cells #[.int .i64 3] 3)) 3 #[.int .i64 m]).alloc (.cells #[.string ByteArray.empty] 9)
  have N2 := Blk.new ((w.alloc (.cells #[.int .i64 3] 3)).alloc (.cells #[.int .i64 m] 3)) 9 #[.string ByteArray.empty]
  rw [← E1] at N1
  rw [← E2] at N2
  have V := Lib.hid (var1_3 s m m0 hs w.heap.size w.heap.size (w.heap.size + 1) (w.heap.size + 2) _ N0 N1 N2 (by omega) (by omega) (by omega) (by simp; omega))
  have C := Lib.hid (readb_var ⟨w.heap.size, 0, none⟩ ⟨w.heap.size + 1, 0, none⟩ ⟨w.heap.size + 2, 0, none⟩ b w.heap.size s (fun n c W => ∃ t, VarR s 3 m n c t ∧ Blk W (w.heap.size + 2) 9 #[.string t]) (fun n c W o u h => by obtain ⟨t, h1, h2⟩ := h; exact ⟨t, h1, h2.far (p := ⟨b, o, none⟩) (by show w.heap.size + 2 ≠ b; omega) u⟩) hs _ (((hb.alloc _).alloc _).alloc _) hb.lt V)
  clear N0 N1 N2 V E1 E2
  go_enter Tryd.func21, Tryd.ntmps21
  go_wp2_with fail
  refine C.out.mono ?_
  rintro e w1 ⟨n, c, ⟨t, hV, hh1⟩, hn, ⟨q, rfl⟩, hb1, hw1⟩
  have HV := Lib.hid hV
  clear hV hn
  have c0 := hh1.cell 0
  simp at c0
  go_wp2
  go_ret
  exact ⟨n, c, t, HV.out, rfl, hb1, hw1.after ((((Below.refl _ w).alloc (Nat.le_refl _) _).alloc (by simp) _).alloc (by simp; omega) _)⟩
set_option maxHeartbeats 1600000 in
set_option maxRecDepth 4000 in
theorem rdb_alpha (b : Nat) (s : ByteArray) (d : Nat) (d1 : 1 ≤ d) (d2 : d ≤ 255) (hs : s.size ≤ 281474976710656) (w : World) (hb : Blk w b 59 #[.string s, .int .i64 0]) :
    Calls Tryd.prog 20 #[.pointer (some ⟨b, 0, none⟩), .int .i64 (d : Int)] w fun e w' => ∃ n c t, AlR s d n c t ∧ e = .returned (.string t) ∧ Blk w' b 59 #[.string (if c = 0 then s.extract n s.size else s), .int .i64 c] ∧ Bes b w.heap.size w w' := by
  have hlt := hb.lt
  have E1 : (w.heap.size + 1) = (w.alloc (.cells #[.int .i64 (d : Int)] 3)).heap.size := by simp
  have N0 := (Blk.new w 3 #[.int .i64 (d : Int)]).alloc (.cells #[.string ByteArray.empty] 9)
  have N1 := Blk.new (w.alloc (.cells #[.int .i64 (d : Int)] 3)) 9 #[.string ByteArray.empty]
  rw [← E1] at N1
  have V := Lib.hid (alpha1 s d d1 d2 hs w.heap.size w.heap.size (w.heap.size + 1) _ N0 N1 (by omega) (by omega) (by simp; omega))
  have C := Lib.hid (readb_alpha ⟨w.heap.size, 0, none⟩ ⟨w.heap.size + 1, 0, none⟩ b w.heap.size s (fun n c W => ∃ t, AlR s d n c t ∧ Blk W (w.heap.size + 1) 9 #[.string t]) (fun n c W o u h => by obtain ⟨t, h1, h2⟩ := h; exact ⟨t, h1, h2.far (p := ⟨b, o, none⟩) (by show w.heap.size + 1 ≠ b; omega) u⟩) hs _ ((hb.alloc _).alloc _) hb.lt V)
  clear N0 N1 V E1
  go_enter Tryd.func20, Tryd.ntmps20
  go_wp2_with fail
  refine C.out.mono ?_
  rintro e w1 ⟨n, c, ⟨t, hV, hh1⟩, hn, ⟨q, rfl⟩, hb1, hw1⟩
  have HV := Lib.hid hV
  clear hV hn
  have c0 := hh1.cell 0
  simp at c0
  go_wp2
  go_ret
  exact ⟨n, c, t, HV.out, rfl, hb1, hw1.after (((Below.refl _ w).alloc (Nat.le_refl _) _).alloc (by simp) _)⟩
end Go.Proofs.YtjemljhfopgmiaaDoor
