/-
  CONTRACT of the examples of the chapter on bitmaps, which every statement of the layer checks.
-/
import Derived.Test.YtacdfhgamjinbaaDoorB4
namespace Go.Proofs.YtacdfhgamjinbaaDoor
open Go.RowKit
set_option linter.unusedVariables false
abbrev bHi : Nat := 4611686018427387904
abbrev bLo : Nat := 9223372036854775808
abbrev sC0 : ByteArray := ⟨#[99, 48, 48, 48, 48, 48, 48, 48, 48, 48, 48, 48, 48, 48, 48, 48, 56, 48, 48, 48, 48, 48, 48, 48, 48, 48, 48, 48, 48, 48, 48, 48]⟩
theorem aw_of : ofL [65, 2] 0 0 = some (bHi, bLo) := by decide +kernel
theorem aw_enc : encS bHi bLo = sC0 := by decide +kernel
theorem aw1 (w : World) : Calls Tryd.prog 21 #[.slice (some ⟨w.heap.size, 0, none⟩) 2 2] (w.alloc (.cells #[.int .i64 65, .int .i64 2] 3)) fun e w' => e = .returned (.tuple #[bmV bHi bLo, .int .i64 0]) ∧ Below (w.heap.size + 1) (w.alloc (.cells #[.int .i64 65, .int .i64 2] 3)) w' := by
  have hB : Blk (w.alloc (.cells #[.int .i64 65, .int .i64 2] 3)) w.heap.size 3 #[.int .i64 65, .int .i64 2] := Blk.new _ _ _
  have h0 := hB.cell 0
  have h1 := hB.cell 1
  have := of_any (some ⟨w.heap.size, 0, none⟩) 2 2 [65, 2] (w.alloc (.cells #[.int .i64 65, .int .i64 2] 3)) ⟨rfl, fun _ => ⟨_, rfl, by simp, fun j u hu => by
    match j, hu with
    | 0, hu => exact h0.trans (by simpa using hu)
    | 1, hu => exact h1.trans (by simpa using hu)
    | j + 2, hu => simp at hu⟩⟩ (by omega) (by omega) (Lib.hid aw_of)
  simpa [ofV] using this
theorem aw2 (w : World) (hT : Tab w) : Calls Tryd.prog 29 #[bmV bHi bLo] w fun e w' => e = .returned (.string sC0) ∧ Below w.heap.size w w' := by
  have := encode_any bHi bLo (by decide) (by decide) w hT
  rw [aw_enc] at this
  exact this
theorem aw3 (w : World) : Calls Tryd.prog 13 #[bmV bHi bLo, .int .i64 65] w fun e w' => e = .returned (.bool true) ∧ Below w.heap.size w w' := by
  have := has_in bHi bLo 65 (by decide) (by decide) (by decide) (by decide) w
  rw [decide_eq_true (by decide +kernel)] at this
  exact this
theorem aw4 (w : World) : Calls Tryd.prog 13 #[bmV bHi bLo, .int .i64 3] w fun e w' => e = .returned (.bool false) ∧ Below w.heap.size w w' := by
  have := has_in bHi bLo 3 (by decide) (by decide) (by decide) (by decide) w
  rw [decide_eq_false (by decide +kernel)] at this
  exact this
theorem awake_any (w : World) (hT : Tab w) :
    Calls Tryd.prog 20 #[] w fun e w' => e = .returned (.bool true) ∧ Below w.heap.size w w' := by
  have hz : ∀ w : World, (zeroValue 24).run Tryd.prog w = .ok (.agg #[.int .u64 0, .int .u64 0]) w := fun _ => by kernel_rfl
  have he : ∀ w : World, (Op.equalIn 10000 24 (.agg #[.int .u64 4611686018427387904, .int .u64 9223372036854775808]) (.agg #[.int .u64 4611686018427387904, .int .u64 9223372036854775808])).run Tryd.prog w = .ok true w := fun w => by rw [eq_arr]; simp
  have HT := Lib.hid hT
  have hT1 := hT.1
  clear hT
  go_enter Tryd.func20, Tryd.ntmps20
  go_wp2_with fail
  refine (aw1 w).mono ?_
  rintro e w1 ⟨rfl, hb1⟩
  have hl : w.heap.size < w1.heap.size := by have := hb1.size; simp at this; omega
  have HB1 := Lib.hid ((((Below.refl _ _).alloc (Nat.le_refl _) _).trans (hb1.mono (by omega))).alloc (Nat.le_of_lt hl) (.cells #[.int .u64 4611686018427387904, .int .u64 9223372036854775808] 24) : Below w.heap.size w (w1.alloc (.cells #[.int .u64 4611686018427387904, .int .u64 9223372036854775808] 24)))
  have HC : Hid (Blk (w1.alloc (.cells #[.int .u64 4611686018427387904, .int .u64 9223372036854775808] 24)) w1.heap.size 24 #[.int .u64 4611686018427387904, .int .u64 9223372036854775808]) := Lib.hid (Blk.new _ _ _)
  clear hb1
  go_wp2_with fail
  refine (aw2 _ (HT.out.below HB1.out hT1)).mono ?_
  rintro e w2 ⟨rfl, hb2⟩
  have HC2 := Lib.hid (HC.out.below hb2 HC.out.lt)
  have p0 := HC2.out.cell 0
  have p1 := HC2.out.cell 1
  have HB2 := Lib.hid (HB1.out.trans (hb2.mono HB1.out.size))
  clear hb2 HB1 HC
  go_wp2_with fail
  refine (aw3 _).mono ?_
  rintro e w3 ⟨rfl, hb3⟩
  have HC3 := Lib.hid (HC2.out.below hb3 HC2.out.lt)
  have r0 := HC3.out.cell 0
  have r1 := HC3.out.cell 1
  have HB3 := Lib.hid (HB2.out.trans (hb3.mono HB2.out.size))
  clear hb3 HB2 HC2 p0 p1
  go_wp2_with fail
  refine (aw4 _).mono ?_
  rintro e w4 ⟨rfl, hb4⟩
  have HB4 := Lib.hid (HB3.out.trans (hb4.mono HB3.out.size))
  clear hb4 HB3 HC3 r0 r1
  go_wp2
  go_ret
  exact ⟨rfl, HB4.out⟩
end Go.Proofs.YtacdfhgamjinbaaDoor
