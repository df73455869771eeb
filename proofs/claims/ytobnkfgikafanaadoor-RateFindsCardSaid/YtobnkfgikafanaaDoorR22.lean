/-
  CONTRACTS of rates: direct.
-/
import Derived.Test.YtobnkfgikafanaaDoorR21
namespace Go.Proofs.YtobnkfgikafanaaDoor
open Go.RowKit
set_option linter.unusedVariables false
set_option linter.unusedSimpArgs false
set_option maxRecDepth 20000 in
set_option maxHeartbeats 6400000 in
theorem direct_1 (S : Value) (a b f t : ByteArray) (n d : Int) (w : World) (hf : f.size ≠ 0) (SA : Hid (∀ w', Below w.heap.size w w' → Calls Tryd.prog 55 #[S, .agg #[.string a, .string b]] w' fun e w'' => e = .returned (.agg #[.string f, .string t, .int .i64 n, .int .i64 d]) ∧ Below w'.heap.size w' w'')) :
    Calls Tryd.prog 40 #[S, .agg #[.string a, .string b]] w fun e w' => e = .returned (.agg #[.string f, .string t, .int .i64 n, .int .i64 d]) ∧ Below w.heap.size w w' := by
  have e0 := str_eq0 hf
  have hA0 : Blk ((w.alloc (.cells #[.string a, .string b] 60)).alloc (.cells #[.string ⟨#[]⟩, .string ⟨#[]⟩, .int .i64 0, .int .i64 0] 23)) (w.heap.size + 1) 23 #[.string ⟨#[]⟩, .string ⟨#[]⟩, .int .i64 0, .int .i64 0] := by
    have h := Blk.new (w.alloc (.cells #[.string a, .string b] 60)) 23 #[.string ⟨#[]⟩, .string ⟨#[]⟩, .int .i64 0, .int .i64 0]
    rw [World.size_alloc] at h
    exact h
  have hp0 : Blk ((w.alloc (.cells #[.string a, .string b] 60)).alloc (.cells #[.string ⟨#[]⟩, .string ⟨#[]⟩, .int .i64 0, .int .i64 0] 23)) w.heap.size 60 #[.string a, .string b] := (Blk.new _ _ _).alloc _
  have hB0 : Below w.heap.size w ((w.alloc (.cells #[.string a, .string b] 60)).alloc (.cells #[.string ⟨#[]⟩, .string ⟨#[]⟩, .int .i64 0, .int .i64 0] 23)) := bel_alloc (bel_alloc (Below.refl _ _) _) _
  go_enter Tryd.func40, Tryd.ntmps40
  go_wp2_with fail
  with_reducible refine (SA.out _ hB0).mono ?_
  rintro z w1 ⟨rfl, h1⟩
  have hA1 := hA0.below h1 hA0.lt
  have HA1 := Lib.hid hA1
  have HB1 := Lib.hid (hB0.trans (h1.mono hB0.size))
  have a0 := hA1.cell 0
  have a1 := hA1.cell 1
  have a2 := hA1.cell 2
  have a3 := hA1.cell 3
  have af0 := hA1.frozen 0
  have af1 := hA1.frozen 1
  have af2 := hA1.frozen 2
  have af3 := hA1.frozen 3
  have al := hA1.lt
  clear hA0 hp0 hB0 h1 SA hA1
  go_wp2
  have hF : Blk (((((w1.setCell ⟨w.heap.size + 1, 0, none⟩ (.string f)).setCell ⟨w.heap.size + 1, 1, none⟩ (.string t)).setCell ⟨w.heap.size + 1, 2, none⟩ (.int .i64 n)).setCell ⟨w.heap.size + 1, 3, none⟩ (.int .i64 d)).alloc (.cells #[.string f, .string t, .int .i64 n, .int .i64 d] 23)) (w.heap.size + 1) 23 #[.string f, .string t, .int .i64 n, .int .i64 d] := (((((HA1.out.set_ 0 _).set_ 1 _).set_ 2 _).set_ 3 _).alloc _)
  have f0 := hF.cell 0
  have f1 := hF.cell 1
  have f2 := hF.cell 2
  have f3 := hF.cell 3
  exact bodyPost_ret (v := .agg #[.string f, .string t, .int .i64 n, .int .i64 d]) (by simp [results, Tryd.results40, go_sem, f0, f1, f2, f3]) rfl ⟨rfl, (bel_alloc ((((HB1.out.setCell (by simp) _).setCell (by simp) _).setCell (by simp) _).setCell (by simp) _) _)⟩
set_option maxRecDepth 20000 in
set_option maxHeartbeats 6400000 in
theorem direct_0 (S : Value) (a b f t g u : ByteArray) (n d k m c : Int) (w : World) (SA : Hid (∀ w', Below w.heap.size w w' → Calls Tryd.prog 55 #[S, .agg #[.string a, .string b]] w' fun e w'' => e = .returned (.agg #[.string ⟨#[]⟩, .string ⟨#[]⟩, .int .i64 0, .int .i64 0]) ∧ Below w'.heap.size w' w'')) (SB : Hid (∀ w', Below w.heap.size w w' → Calls Tryd.prog 55 #[S, .agg #[.string b, .string a]] w' fun e w'' => e = .returned (.agg #[.string f, .string t, .int .i64 n, .int .i64 d]) ∧ Below w'.heap.size w' w'')) (IV : Hid (∀ w', Calls Tryd.prog 19 #[.agg #[.string f, .string t, .int .i64 n, .int .i64 d]] w' fun e w'' => e = .returned (.tuple #[.agg #[.string g, .string u, .int .i64 k, .int .i64 m], .int .i64 c]) ∧ Pushed w' w'')) :
    Calls Tryd.prog 40 #[S, .agg #[.string a, .string b]] w fun e w' => e = .returned (.agg #[.string g, .string u, .int .i64 k, .int .i64 m]) ∧ Below w.heap.size w w' := by
  have hA0 : Blk ((w.alloc (.cells #[.string a, .string b] 60)).alloc (.cells #[.string ⟨#[]⟩, .string ⟨#[]⟩, .int .i64 0, .int .i64 0] 23)) (w.heap.size + 1) 23 #[.string ⟨#[]⟩, .string ⟨#[]⟩, .int .i64 0, .int .i64 0] := by
    have h := Blk.new (w.alloc (.cells #[.string a, .string b] 60)) 23 #[.string ⟨#[]⟩, .string ⟨#[]⟩, .int .i64 0, .int .i64 0]
    rw [World.size_alloc] at h
    exact h
  have hp0 : Blk ((w.alloc (.cells #[.string a, .string b] 60)).alloc (.cells #[.string ⟨#[]⟩, .string ⟨#[]⟩, .int .i64 0, .int .i64 0] 23)) w.heap.size 60 #[.string a, .string b] := (Blk.new _ _ _).alloc _
  have hB0 : Below w.heap.size w ((w.alloc (.cells #[.string a, .string b] 60)).alloc (.cells #[.string ⟨#[]⟩, .string ⟨#[]⟩, .int .i64 0, .int .i64 0] 23)) := bel_alloc (bel_alloc (Below.refl _ _) _) _
  go_enter Tryd.func40, Tryd.ntmps40
  go_wp2_with fail
  with_reducible refine (SA.out _ hB0).mono ?_
  rintro z w1 ⟨rfl, h1⟩
  have hA1 := hA0.below h1 hA0.lt
  have hp1 := hp0.below h1 hp0.lt
  have hB1 := hB0.trans (h1.mono hB0.size)
  have q0 := hp1.cell 0
  have q1 := hp1.cell 1
  have ql := hp1.lt
  have HB1 := Lib.hid hB1
  have HA1 := Lib.hid hA1
  clear hA0 hp0 hB0 h1 SA hp1 hA1 hB1
  go_wp2_with fail
  with_reducible refine (SB.out _ (bel_alloc HB1.out _)).mono ?_
  rintro z w2 ⟨rfl, h2⟩
  go_wp2_with fail
  with_reducible refine (IV.out _).mono ?_
  rintro z w3 ⟨rfl, h3⟩
  have hB2 := (bel_alloc HB1.out (.cells #[.string ⟨#[]⟩, .string ⟨#[]⟩, .int .i64 0, .int .i64 0] 23)).trans (h2.mono (bel_alloc HB1.out _).size)
  have HB3 := Lib.hid (hB2.trans (h3.below.mono hB2.size))
  have hA2 := (HA1.out.alloc (.cells #[.string ⟨#[]⟩, .string ⟨#[]⟩, .int .i64 0, .int .i64 0] 23)).below h2 (HA1.out.alloc _).lt
  have HA3 := Lib.hid (hA2.below h3.below hA2.lt)
  have hr2 := (Blk.new w1 23 #[.string ⟨#[]⟩, .string ⟨#[]⟩, .int .i64 0, .int .i64 0]).below h2 (by simp)
  have hr3 := hr2.below h3.below hr2.lt
  have r0 := hr3.cell 0
  have r1 := hr3.cell 1
  have r2 := hr3.cell 2
  have r3 := hr3.cell 3
  have rf0 := hr3.frozen 0
  have rf1 := hr3.frozen 1
  have rf2 := hr3.frozen 2
  have rf3 := hr3.frozen 3
  have a0 := HA3.out.cell 0
  have a1 := HA3.out.cell 1
  have a2 := HA3.out.cell 2
  have a3 := HA3.out.cell 3
  have af0 := HA3.out.frozen 0
  have af1 := HA3.out.frozen 1
  have af2 := HA3.out.frozen 2
  have af3 := HA3.out.frozen 3
  have al := HA3.out.lt
  have rl := hr3.lt
  have xl := HA1.out.lt
  have HR3 := Lib.hid hr3
  clear q0 q1 ql h2 h3 hB2 hA2 hr2 hr3 SB IV
  have ne : w.heap.size + 1 ≠ w1.heap.size := Nat.ne_of_lt HA1.out.lt
  have HW := Lib.hid HB1.out.size
  go_wp2
  have hF : Blk ((((((((w3.setCell ⟨w1.heap.size, 0, none⟩ (.string g)).setCell ⟨w1.heap.size, 1, none⟩ (.string u)).setCell ⟨w1.heap.size, 2, none⟩ (.int .i64 k)).setCell ⟨w1.heap.size, 3, none⟩ (.int .i64 m)).setCell ⟨w.heap.size + 1, 0, none⟩ (.string g)).setCell ⟨w.heap.size + 1, 1, none⟩ (.string u)).setCell ⟨w.heap.size + 1, 2, none⟩ (.int .i64 k)).setCell ⟨w.heap.size + 1, 3, none⟩ (.int .i64 m)) (w.heap.size + 1) 23 #[.string g, .string u, .int .i64 k, .int .i64 m] := ((((((((HA3.out.far (p := ⟨w1.heap.size, 0, none⟩) ne _).far (p := ⟨w1.heap.size, 1, none⟩) ne _).far (p := ⟨w1.heap.size, 2, none⟩) ne _).far (p := ⟨w1.heap.size, 3, none⟩) ne _).set_ 0 _).set_ 1 _).set_ 2 _).set_ 3 _)
  have f0 := hF.cell 0
  have f1 := hF.cell 1
  have f2 := hF.cell 2
  have f3 := hF.cell 3
  exact bodyPost_ret (v := .agg #[.string g, .string u, .int .i64 k, .int .i64 m]) (by simp [results, Tryd.results40, go_sem, f0, f1, f2, f3]) rfl ⟨rfl, ((((((((HB3.out.setCell (p := ⟨w1.heap.size, 0, none⟩) HW.out _).setCell (p := ⟨w1.heap.size, 1, none⟩) HW.out _).setCell (p := ⟨w1.heap.size, 2, none⟩) HW.out _).setCell (p := ⟨w1.heap.size, 3, none⟩) HW.out _).setCell (by simp) _).setCell (by simp) _).setCell (by simp) _).setCell (by simp) _)⟩
end Go.Proofs.YtobnkfgikafanaaDoor
