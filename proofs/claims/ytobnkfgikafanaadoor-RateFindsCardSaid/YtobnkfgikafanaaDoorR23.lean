/-
  CONTRACTS of rates: direct, by the specification.
-/
import Derived.Test.YtobnkfgikafanaaDoorR22
namespace Go.Proofs.YtobnkfgikafanaaDoor
open Go.RowKit
set_option linter.unusedVariables false
set_option linter.unusedSimpArgs false
set_option maxRecDepth 20000 in
set_option maxHeartbeats 6400000 in
theorem rdirect_1 (S : Value) (a b f t : ByteArray) (n d : Int) (w : World) (SA : Hid (∀ w', Below w.heap.size w w' → Calls Tryd.prog 56 #[S, .string a, .string b] w' fun e w'' => e = .returned (.tuple #[.agg #[.string f, .string t, .int .i64 n, .int .i64 d], .bool true]) ∧ Below w'.heap.size w' w'')) :
    Calls Tryd.prog 41 #[S, .string a, .string b] w fun e w' => e = .returned (.tuple #[.agg #[.string f, .string t, .int .i64 n, .int .i64 d], .bool true]) ∧ Below w.heap.size w w' := by
  have hA0 : Blk (w.alloc (.cells #[.string ⟨#[]⟩, .string ⟨#[]⟩, .int .i64 0, .int .i64 0] 23)) w.heap.size 23 #[.string ⟨#[]⟩, .string ⟨#[]⟩, .int .i64 0, .int .i64 0] := Blk.new _ _ _
  have hB0 : Below w.heap.size w (w.alloc (.cells #[.string ⟨#[]⟩, .string ⟨#[]⟩, .int .i64 0, .int .i64 0] 23)) := bel_alloc (Below.refl _ _) _
  go_enter Tryd.func41, Tryd.ntmps41
  go_wp2_with fail
  with_reducible refine (SA.out _ hB0).mono ?_
  rintro z w1 ⟨rfl, h1⟩
  have HA1 := Lib.hid (hA0.below h1 hA0.lt)
  have HB1 := Lib.hid (hB0.trans (h1.mono hB0.size))
  clear h1
  have a0 := HA1.out.cell 0
  have a1 := HA1.out.cell 1
  have a2 := HA1.out.cell 2
  have a3 := HA1.out.cell 3
  have af0 := HA1.out.frozen 0
  have af1 := HA1.out.frozen 1
  have af2 := HA1.out.frozen 2
  have af3 := HA1.out.frozen 3
  have al := HA1.out.lt
  clear hA0 hB0 SA
  go_wp2
  have hF : Blk (((((w1.setCell ⟨w.heap.size, 0, none⟩ (.string f)).setCell ⟨w.heap.size, 1, none⟩ (.string t)).setCell ⟨w.heap.size, 2, none⟩ (.int .i64 n)).setCell ⟨w.heap.size, 3, none⟩ (.int .i64 d)).alloc (.cells #[.string f, .string t, .int .i64 n, .int .i64 d] 23)) (w.heap.size) 23 #[.string f, .string t, .int .i64 n, .int .i64 d] := (((((HA1.out.set_ 0 _).set_ 1 _).set_ 2 _).set_ 3 _).alloc _)
  have f0 := hF.cell 0
  have f1 := hF.cell 1
  have f2 := hF.cell 2
  have f3 := hF.cell 3
  exact bodyPost_ret (v := .tuple #[.agg #[.string f, .string t, .int .i64 n, .int .i64 d], .bool true]) (by simp [results, Tryd.results41, go_sem, f0, f1, f2, f3]) rfl ⟨rfl, (bel_alloc ((((HB1.out.setCell (Nat.le_refl _) _).setCell (Nat.le_refl _) _).setCell (Nat.le_refl _) _).setCell (Nat.le_refl _) _) _)⟩
set_option maxRecDepth 20000 in
set_option maxHeartbeats 6400000 in
theorem rdirect_2 (S : Value) (a b : ByteArray) (w : World) (SA : Hid (∀ w', Below w.heap.size w w' → Calls Tryd.prog 56 #[S, .string a, .string b] w' fun e w'' => e = .returned (.tuple #[.agg #[.string ⟨#[]⟩, .string ⟨#[]⟩, .int .i64 0, .int .i64 0], .bool false]) ∧ Below w'.heap.size w' w'')) (SB : Hid (∀ w', Below w.heap.size w w' → Calls Tryd.prog 56 #[S, .string b, .string a] w' fun e w'' => e = .returned (.tuple #[.agg #[.string ⟨#[]⟩, .string ⟨#[]⟩, .int .i64 0, .int .i64 0], .bool false]) ∧ Below w'.heap.size w' w'')) :
    Calls Tryd.prog 41 #[S, .string a, .string b] w fun e w' => e = .returned (.tuple #[.agg #[.string ⟨#[]⟩, .string ⟨#[]⟩, .int .i64 0, .int .i64 0], .bool false]) ∧ Below w.heap.size w w' := by
  have hA0 : Blk (w.alloc (.cells #[.string ⟨#[]⟩, .string ⟨#[]⟩, .int .i64 0, .int .i64 0] 23)) w.heap.size 23 #[.string ⟨#[]⟩, .string ⟨#[]⟩, .int .i64 0, .int .i64 0] := Blk.new _ _ _
  have hB0 : Below w.heap.size w (w.alloc (.cells #[.string ⟨#[]⟩, .string ⟨#[]⟩, .int .i64 0, .int .i64 0] 23)) := bel_alloc (Below.refl _ _) _
  go_enter Tryd.func41, Tryd.ntmps41
  go_wp2_with fail
  with_reducible refine (SA.out _ hB0).mono ?_
  rintro z w1 ⟨rfl, h1⟩
  have HA1 := Lib.hid (hA0.below h1 hA0.lt)
  have HB1 := Lib.hid (hB0.trans (h1.mono hB0.size))
  clear h1
  go_wp2_with fail
  with_reducible refine (SB.out _ (bel_alloc HB1.out (.cells #[.string ⟨#[]⟩, .string ⟨#[]⟩, .int .i64 0, .int .i64 0] 23))).mono ?_
  rintro z w2 ⟨rfl, h2⟩
  have HA2 := Lib.hid ((HA1.out.alloc (.cells #[.string ⟨#[]⟩, .string ⟨#[]⟩, .int .i64 0, .int .i64 0] 23)).below h2 (HA1.out.alloc (.cells #[.string ⟨#[]⟩, .string ⟨#[]⟩, .int .i64 0, .int .i64 0] 23)).lt)
  have HB2 := Lib.hid ((bel_alloc HB1.out (.cells #[.string ⟨#[]⟩, .string ⟨#[]⟩, .int .i64 0, .int .i64 0] 23)).trans (h2.mono (bel_alloc HB1.out (.cells #[.string ⟨#[]⟩, .string ⟨#[]⟩, .int .i64 0, .int .i64 0] 23)).size))
  clear h2
  have a0 := HA2.out.cell 0
  have a1 := HA2.out.cell 1
  have a2 := HA2.out.cell 2
  have a3 := HA2.out.cell 3
  have af0 := HA2.out.frozen 0
  have af1 := HA2.out.frozen 1
  have af2 := HA2.out.frozen 2
  have af3 := HA2.out.frozen 3
  have al := HA2.out.lt
  clear hA0 hB0 SA SB
  go_wp2
  have hF : Blk (((((w2.setCell ⟨w.heap.size, 0, none⟩ (.string ⟨#[]⟩)).setCell ⟨w.heap.size, 1, none⟩ (.string ⟨#[]⟩)).setCell ⟨w.heap.size, 2, none⟩ (.int .i64 0)).setCell ⟨w.heap.size, 3, none⟩ (.int .i64 0)).alloc (.cells #[.string ⟨#[]⟩, .string ⟨#[]⟩, .int .i64 0, .int .i64 0] 23)) (w.heap.size) 23 #[.string ⟨#[]⟩, .string ⟨#[]⟩, .int .i64 0, .int .i64 0] := (((((HA2.out.set_ 0 _).set_ 1 _).set_ 2 _).set_ 3 _).alloc _)
  have f0 := hF.cell 0
  have f1 := hF.cell 1
  have f2 := hF.cell 2
  have f3 := hF.cell 3
  exact bodyPost_ret (v := .tuple #[.agg #[.string ⟨#[]⟩, .string ⟨#[]⟩, .int .i64 0, .int .i64 0], .bool false]) (by simp [results, Tryd.results41, go_sem, f0, f1, f2, f3]) rfl ⟨rfl, (bel_alloc ((((HB2.out.setCell (Nat.le_refl _) _).setCell (Nat.le_refl _) _).setCell (Nat.le_refl _) _).setCell (Nat.le_refl _) _) _)⟩
set_option maxRecDepth 20000 in
set_option maxHeartbeats 6400000 in
theorem rdirect_3 (S : Value) (a b f t g u : ByteArray) (n d k m c : Int) (w : World) (SA : Hid (∀ w', Below w.heap.size w w' → Calls Tryd.prog 56 #[S, .string a, .string b] w' fun e w'' => e = .returned (.tuple #[.agg #[.string ⟨#[]⟩, .string ⟨#[]⟩, .int .i64 0, .int .i64 0], .bool false]) ∧ Below w'.heap.size w' w'')) (SB : Hid (∀ w', Below w.heap.size w w' → Calls Tryd.prog 56 #[S, .string b, .string a] w' fun e w'' => e = .returned (.tuple #[.agg #[.string f, .string t, .int .i64 n, .int .i64 d], .bool true]) ∧ Below w'.heap.size w' w'')) (IV : Hid (∀ w', Calls Tryd.prog 20 #[.agg #[.string f, .string t, .int .i64 n, .int .i64 d]] w' fun e w'' => e = .returned (.tuple #[.agg #[.string g, .string u, .int .i64 k, .int .i64 m], .int .i64 c]) ∧ Pushed w' w'')) :
    Calls Tryd.prog 41 #[S, .string a, .string b] w fun e w' => e = .returned (.tuple #[.agg #[.string g, .string u, .int .i64 k, .int .i64 m], .bool true]) ∧ Below w.heap.size w w' := by
  have hA0 : Blk (w.alloc (.cells #[.string ⟨#[]⟩, .string ⟨#[]⟩, .int .i64 0, .int .i64 0] 23)) w.heap.size 23 #[.string ⟨#[]⟩, .string ⟨#[]⟩, .int .i64 0, .int .i64 0] := Blk.new _ _ _
  have hB0 : Below w.heap.size w (w.alloc (.cells #[.string ⟨#[]⟩, .string ⟨#[]⟩, .int .i64 0, .int .i64 0] 23)) := bel_alloc (Below.refl _ _) _
  go_enter Tryd.func41, Tryd.ntmps41
  go_wp2_with fail
  with_reducible refine (SA.out _ hB0).mono ?_
  rintro z w1 ⟨rfl, h1⟩
  have HA1 := Lib.hid (hA0.below h1 hA0.lt)
  have HB1 := Lib.hid (hB0.trans (h1.mono hB0.size))
  clear h1
  go_wp2_with fail
  with_reducible refine (SB.out _ (bel_alloc HB1.out (.cells #[.string ⟨#[]⟩, .string ⟨#[]⟩, .int .i64 0, .int .i64 0] 23))).mono ?_
  rintro z w2 ⟨rfl, h2⟩
  have HA2 := Lib.hid ((HA1.out.alloc (.cells #[.string ⟨#[]⟩, .string ⟨#[]⟩, .int .i64 0, .int .i64 0] 23)).below h2 (HA1.out.alloc (.cells #[.string ⟨#[]⟩, .string ⟨#[]⟩, .int .i64 0, .int .i64 0] 23)).lt)
  have HB2 := Lib.hid ((bel_alloc HB1.out (.cells #[.string ⟨#[]⟩, .string ⟨#[]⟩, .int .i64 0, .int .i64 0] 23)).trans (h2.mono (bel_alloc HB1.out (.cells #[.string ⟨#[]⟩, .string ⟨#[]⟩, .int .i64 0, .int .i64 0] 23)).size))
  clear h2
  go_wp2_with fail
  with_reducible refine (IV.out _).mono ?_
  rintro z w3 ⟨rfl, h3⟩
  have HA3 := Lib.hid ((HA2.out.alloc (.cells #[.string f, .string t, .int .i64 n, .int .i64 d] 23)).below h3.below (HA2.out.alloc (.cells #[.string f, .string t, .int .i64 n, .int .i64 d] 23)).lt)
  have HB3 := Lib.hid ((bel_alloc HB2.out (.cells #[.string f, .string t, .int .i64 n, .int .i64 d] 23)).trans (h3.below.mono (bel_alloc HB2.out (.cells #[.string f, .string t, .int .i64 n, .int .i64 d] 23)).size))
  clear h3
  have a0 := HA3.out.cell 0
  have a1 := HA3.out.cell 1
  have a2 := HA3.out.cell 2
  have a3 := HA3.out.cell 3
  have af0 := HA3.out.frozen 0
  have af1 := HA3.out.frozen 1
  have af2 := HA3.out.frozen 2
  have af3 := HA3.out.frozen 3
  have al := HA3.out.lt
  clear hA0 hB0 SA SB IV
  go_wp2
  have hF : Blk (((((w3.setCell ⟨w.heap.size, 0, none⟩ (.string g)).setCell ⟨w.heap.size, 1, none⟩ (.string u)).setCell ⟨w.heap.size, 2, none⟩ (.int .i64 k)).setCell ⟨w.heap.size, 3, none⟩ (.int .i64 m)).alloc (.cells #[.string g, .string u, .int .i64 k, .int .i64 m] 23)) (w.heap.size) 23 #[.string g, .string u, .int .i64 k, .int .i64 m] := (((((HA3.out.set_ 0 _).set_ 1 _).set_ 2 _).set_ 3 _).alloc _)
  have f0 := hF.cell 0
  have f1 := hF.cell 1
  have f2 := hF.cell 2
  have f3 := hF.cell 3
  exact bodyPost_ret (v := .tuple #[.agg #[.string g, .string u, .int .i64 k, .int .i64 m], .bool true]) (by simp [results, Tryd.results41, go_sem, f0, f1, f2, f3]) rfl ⟨rfl, (bel_alloc ((((HB3.out.setCell (Nat.le_refl _) _).setCell (Nat.le_refl _) _).setCell (Nat.le_refl _) _).setCell (Nat.le_refl _) _) _)⟩
end Go.Proofs.YtobnkfgikafanaaDoor
