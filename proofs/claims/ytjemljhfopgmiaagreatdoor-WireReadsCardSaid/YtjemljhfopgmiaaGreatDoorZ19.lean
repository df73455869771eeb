/-
  CONTRACTS of wire: a text of a width from a reader: the function that takes it, and Alpha of a reader.
-/
import Derived.Test.YtjemljhfopgmiaaGreatDoorZ17
namespace Go.Proofs.YtjemljhfopgmiaaGreatDoor
open Go.RowKit
set_option linter.unusedVariables false
set_option linter.unusedSimpArgs false
/-- A text without the spaces at its end. -/
def trimS (s : ByteArray) : ByteArray := ⟨(Lib.trimRightB s.data.toList 32).toArray⟩
/-- What reading a text of a width takes: n bytes, the error c, the text t. -/
def AlR (s : ByteArray) (d : Nat) (n : Nat) (c : Int) (t : ByteArray) : Prop :=
  (s.size < d ∧ n = 0 ∧ c = 1 ∧ t = ByteArray.empty) ∨
  (d ≤ s.size ∧ ¬ Prs (s.extract 0 d) ∧ n = 0 ∧ c = 2 ∧ t = ByteArray.empty) ∨
  (d ≤ s.size ∧ Prs (s.extract 0 d) ∧ n = d ∧ c = 0 ∧ t = trimS (s.extract 0 d))
set_option maxHeartbeats 1600000 in
theorem alpha1 (s : ByteArray) (d : Nat) (d1 : 1 ≤ d) (d2 : d ≤ 255) (hs : s.size ≤ 281474976710656) (B g h : Nat) (w : World) (hg : Blk w g 3 #[.int .i64 (d : Int)]) (hh : Blk w h 9 #[.string ByteArray.empty]) (gh : ¬ g = h) (Bh : B ≤ h) (BW : B ≤ w.heap.size) :
    Calls Tryz.prog 28 #[.string s, .pointer (some ⟨g, 0, none⟩), .pointer (some ⟨h, 0, none⟩)] w fun e w' => ∃ (n : Nat) (c : Int), (∃ t, AlR s d n c t ∧ Blk w' h 9 #[.string t]) ∧ (c = 0 → n ≤ s.size) ∧ e = .returned (.tuple #[.int .i64 (n : Int), .int .i64 c]) ∧ Below B w w' := by
  have g0 := hg.cell 0
  simp at g0
  have z1 := hh.frozen 0
  have h1 := hh.cell 0
  simp at h1
  have gh1 : ¬ h = g := fun h => gh h.symm
  by_cases hlt : s.size < d
  · go_enter Tryz.func28, Tryz.ntmps28
    go_wp2
    go_ret2
    exact ⟨0, 1, ⟨_, .inl ⟨hlt, rfl, rfl, rfl⟩, hh⟩, fun h => absurd h (by decide), rfl, Below.refl _ _⟩
  have hz : (s.extract 0 d).size = d := by rw [size_extract' _ _ _ (by omega)]; omega
  have hsl := fun w => sl_h s d (by omega) (j := (d : Int)) rfl w
  have P := Lib.hid (fun w => pr_any (s.extract 0 d) (by omega) w)
  have TR := Lib.hid (fun w => Tryz.strings_TrimRight_one (s.extract 0 d) 32 (by decide) w (by omega))
  have TT : (⟨(Lib.trimRightB (s.extract 0 d).data.toList 32).toArray⟩ : ByteArray) = trimS (s.extract 0 d) := rfl
  rw [TT] at TR
  have HG : Hid (∀ n c t, AlR s d n c t ↔ ((s.size < d ∧ n = 0 ∧ c = 1 ∧ t = ByteArray.empty) ∨ (d ≤ s.size ∧ ¬ Prs (s.extract 0 d) ∧ n = 0 ∧ c = 2 ∧ t = ByteArray.empty) ∨ (d ≤ s.size ∧ Prs (s.extract 0 d) ∧ n = d ∧ c = 0 ∧ t = trimS (s.extract 0 d)))) := Lib.hid fun n c t => Iff.rfl
  clear TT
  generalize trimS (s.extract 0 d) = u at *
  generalize s.extract 0 d = q at *
  go_enter Tryz.func28, Tryz.ntmps28
  go_wp2_with fail
  go_at_call 29
  refine (P.out _).mono ?_
  rintro e w1 ⟨he, rfl⟩
  rcases he with ⟨hp, rfl⟩ | ⟨hp, rfl⟩
  · have HP := Lib.hid hp
    clear hp
    go_wp2_with fail
    go_at_call 30
    refine (TR.out _).mono ?_
    rintro e w1 ⟨rfl, rfl⟩
    go_wp2
    go_ret2
    exact ⟨d, 0, ⟨u, (HG.out _ _ _).2 (.inr (.inr ⟨by omega, HP.out, rfl, rfl, rfl⟩)), hh.set_ 0 _⟩, fun _ => by omega, rfl, (Below.refl _ _).setCell (p := ⟨h, 0, none⟩) Bh _⟩
  · have HP := Lib.hid hp
    clear hp
    go_wp2
    go_ret2
    exact ⟨0, 2, ⟨_, (HG.out _ _ _).2 (.inr (.inl ⟨by omega, HP.out, rfl, rfl, rfl⟩)), hh⟩, fun h => absurd h (by decide), rfl, Below.refl _ _⟩
set_option maxHeartbeats 1600000 in
set_option maxRecDepth 4000 in
theorem rd_alpha (b : Nat) (s : ByteArray) (d : Nat) (d1 : 1 ≤ d) (d2 : d ≤ 255) (hs : s.size ≤ 281474976710656) (B : Nat) (w : World) (hb : Blk w b 42 #[.string s, .int .i64 0]) (bB : B ≤ b) :
    Calls Tryz.prog 8 #[.pointer (some ⟨b, 0, none⟩), .int .i64 (d : Int)] w fun e w' => ∃ n c t, AlR s d n c t ∧ e = .returned (.string t) ∧ Blk w' b 42 #[.string (if c = 0 then s.extract n s.size else s), .int .i64 c] ∧ Below B w w' := by
  have hlt := hb.lt
  have E1 : (w.heap.size + 1) = (w.alloc (.cells #[.int .i64 (d : Int)] 3)).heap.size := by simp
  have N0 := (Blk.new w 3 #[.int .i64 (d : Int)]).alloc (.cells #[.string ByteArray.empty] 9)
  have N1 := Blk.new (w.alloc (.cells #[.int .i64 (d : Int)] 3)) 9 #[.string ByteArray.empty]
  rw [← E1] at N1
  have V := Lib.hid (alpha1 s d d1 d2 hs (b + 1) w.heap.size (w.heap.size + 1) _ N0 N1 (by omega) (by omega) (by simp; omega))
  have C := Lib.hid (read_alpha ⟨w.heap.size, 0, none⟩ ⟨w.heap.size + 1, 0, none⟩ b B s (fun n c W => ∃ t, AlR s d n c t ∧ Blk W (w.heap.size + 1) 9 #[.string t]) (fun n c W o u h => by obtain ⟨t, h1, h2⟩ := h; exact ⟨t, h1, h2.far (p := ⟨b, o, none⟩) (by show w.heap.size + 1 ≠ b; omega) u⟩) hs _ ((hb.alloc _).alloc _) bB V)
  clear N0 N1 V E1
  go_enter Tryz.func8, Tryz.ntmps8
  go_wp2_with fail
  refine C.out.mono ?_
  rintro e w1 ⟨n, c, ⟨t, hV, hh1⟩, hn, ⟨q, rfl⟩, hb1, hw1⟩
  have HV := Lib.hid hV
  clear hV hn
  have c0 := hh1.cell 0
  simp at c0
  go_wp2
  go_ret
  exact ⟨n, c, t, HV.out, rfl, hb1, (((Below.refl B w).alloc (by omega) _).alloc (by simp; omega) _).trans hw1⟩
end Go.Proofs.YtjemljhfopgmiaaGreatDoor
