/-
  CONTRACTS of wire: Var of a reader.
-/
import Derived.Test.YtjemljhfopgmiaaGreatDoorZ14
namespace Go.Proofs.YtjemljhfopgmiaaGreatDoor
open Go.RowKit
set_option linter.unusedVariables false
set_option linter.unusedSimpArgs false
set_option maxHeartbeats 1600000 in
set_option maxRecDepth 4000 in
theorem rd_var_2 (b : Nat) (s : ByteArray) (m : Int) (m0 : 0 ≤ m) (hs : s.size ≤ 281474976710656) (B : Nat) (w : World) (hb : Blk w b 42 #[.string s, .int .i64 0]) (bB : B ≤ b) :
    Calls Tryz.prog 9 #[.pointer (some ⟨b, 0, none⟩), .int .i64 2, .int .i64 m] w fun e w' => ∃ n c t, VarR s 2 m n c t ∧ e = .returned (.string t) ∧ Blk w' b 42 #[.string (if c = 0 then s.extract n s.size else s), .int .i64 c] ∧ Below B w w' := by
  have hlt := hb.lt
  have E2 : (w.heap.size + 2) = ((w.alloc (.cells #[.int .i64 2] 3)).alloc (.cells #[.int .i64 m] 3)).heap.size := by simp
  have E1 : (w.heap.size + 1) = (w.alloc (.cells #[.int .i64 2] 3)).heap.size := by simp
  have N0 := ((Blk.new w 3 #[.int .i64 2]).alloc (.cells #[.int .i64 m] 3)).alloc (.cells #[.string ByteArray.empty] 9)
  have N1 := (Blk.new (w.alloc (.cells #[.int .i64 2] 3)) 3 #[.int .i64 m]).alloc (.cells #[.string ByteArray.empty] 9)
  have N2 := Blk.new ((w.alloc (.cells #[.int .i64 2] 3)).alloc (.cells #[.int .i64 m] 3)) 9 #[.string ByteArray.empty]
  rw [← E1] at N1
  rw [← E2] at N2
  have V := Lib.hid (var1_2 s m m0 hs (b + 1) w.heap.size (w.heap.size + 1) (w.heap.size + 2) _ N0 N1 N2 (by omega) (by omega) (by omega) (by simp; omega))
  have C := Lib.hid (read_var ⟨w.heap.size, 0, none⟩ ⟨w.heap.size + 1, 0, none⟩ ⟨w.heap.size + 2, 0, none⟩ b B s (fun n c W => ∃ t, VarR s 2 m n c t ∧ Blk W (w.heap.size + 2) 9 #[.string t]) (fun n c W o u h => by obtain ⟨t, h1, h2⟩ := h; exact ⟨t, h1, h2.far (p := ⟨b, o, none⟩) (by show w.heap.size + 2 ≠ b; omega) u⟩) hs _ (((hb.alloc _).alloc _).alloc _) bB V)
  clear N0 N1 N2 V E1 E2
  go_enter Tryz.func9, Tryz.ntmps9
  go_wp2_with fail
  refine C.out.mono ?_
  rintro e w1 ⟨n, c, ⟨t, hV, hh1⟩, hn, ⟨q, rfl⟩, hb1, hw1⟩
  have HV := Lib.hid hV
  clear hV hn
  have c0 := hh1.cell 0
  simp at c0
  go_wp2
  go_ret
  exact ⟨n, c, t, HV.out, rfl, hb1, ((((Below.refl B w).alloc (by omega) _).alloc (by simp; omega) _).alloc (by simp; omega) _).trans hw1⟩
set_option maxHeartbeats 1600000 in
set_option maxRecDepth 4000 in
theorem rd_var_3 (b : Nat) (s : ByteArray) (m : Int) (m0 : 0 ≤ m) (hs : s.size ≤ 281474976710656) (B : Nat) (w : World) (hb : Blk w b 42 #[.string s, .int .i64 0]) (bB : B ≤ b) :
    Calls Tryz.prog 9 #[.pointer (some ⟨b, 0, none⟩), .int .i64 3, .int .i64 m] w fun e w' => ∃ n c t, VarR s 3 m n c t ∧ e = .returned (.string t) ∧ Blk w' b 42 #[.string (if c = 0 then s.extract n s.size else s), .int .i64 c] ∧ Below B w w' := by
  have hlt := hb.lt
  have E2 : (w.heap.size + 2) = ((w.alloc (.cells #[.int .i64 3] 3)).alloc (.cells #[.int .i64 m] 3)).heap.size := by simp
  have E1 : (w.heap.size + 1) = (w.alloc (.cells #[.int .i64 3] 3)).heap.size := by simp
  have N0 := ((Blk.new w 3 #[.int .i64 3]).alloc (.cells #[.int .i64 m] 3)).alloc (.cells #[.string ByteArray.empty] 9)
  have N1 := (Blk.new (w.alloc (.cells #[.int .i64 3] 3)) 3 #[.int .i64 m]).alloc (.cells #[.string ByteArray.empty] 9)
  have N2 := Blk.new ((w.alloc (.cells #[.int .i64 3] 3)).alloc (.cells #[.int .i64 m] 3)) 9 #[.string ByteArray.empty]
  rw [← E1] at N1
  rw [← E2] at N2
  have V := Lib.hid (var1_3 s m m0 hs (b + 1) w.heap.size (w.heap.size + 1) (w.heap.size + 2) _ N0 N1 N2 (by omega) (by omega) (by omega) (by simp; omega))
  have C := Lib.hid (read_var ⟨w.heap.size, 0, none⟩ ⟨w.heap.size + 1, 0, none⟩ ⟨w.heap.size + 2, 0, none⟩ b B s (fun n c W => ∃ t, VarR s 3 m n c t ∧ Blk W (w.heap.size + 2) 9 #[.string t]) (fun n c W o u h => by obtain ⟨t, h1, h2⟩ := h; exact ⟨t, h1, h2.far (p := ⟨b, o, none⟩) (by show w.heap.size + 2 ≠ b; omega) u⟩) hs _ (((hb.alloc _).alloc _).alloc _) bB V)
  clear N0 N1 N2 V E1 E2
  go_enter Tryz.func9, Tryz.ntmps9
  go_wp2_with fail
  refine C.out.mono ?_
  rintro e w1 ⟨n, c, ⟨t, hV, hh1⟩, hn, ⟨q, rfl⟩, hb1, hw1⟩
  have HV := Lib.hid hV
  clear hV hn
  have c0 := hh1.cell 0
  simp at c0
  go_wp2
  go_ret
  exact ⟨n, c, t, HV.out, rfl, hb1, ((((Below.refl B w).alloc (by omega) _).alloc (by simp; omega) _).alloc (by simp; omega) _).trans hw1⟩
end Go.Proofs.YtjemljhfopgmiaaGreatDoor
