/-
  CONTRACTS of rates: the first stated one, by the program.
-/
import Derived.Test.YtobnkfgikafanaaDoorR20
namespace Go.Proofs.YtobnkfgikafanaaDoor
open Go.RowKit
set_option linter.unusedVariables false
set_option linter.unusedSimpArgs false
set_option maxRecDepth 20000 in
set_option maxHeartbeats 6400000 in
theorem stated_any (A : Option Addr) (n c : Nat) (L : List RR) (w : World) (hS : Rts w w.heap.size A n L) (hn : n ≤ 1000) (hc : n ≤ c) (hL : okL L) (a b : ByteArray) (ha : a.size ≤ 1000) (hb : b.size ≤ 1000) {r : RR} (H : Hid (firstR a b L = r)) :
    Calls Tryd.prog 55 #[.slice A n c, .agg #[.string a, .string b]] w fun e w' => e = .returned (.agg #[.string r.f, .string r.t, .int .i64 r.n, .int .i64 r.d]) ∧ Below w.heap.size w w' := by
  have HS := Lib.hid hS
  have HL := Lib.hid hL
  clear hS hL
  go_enter Tryd.func55, Tryd.ntmps55
  go_wp2_with fail
  go_loopw [9] (fun i wr => ∃ k : Nat, k ≤ n ∧ i = .int .i64 (k : Int) ∧ (∀ j x, j < k → L[j]? = some x → ¬ hitR a b x) ∧ Blk wr (w.heap.size + 1) 23 #[.string ⟨#[]⟩, .string ⟨#[]⟩, .int .i64 0, .int .i64 0] ∧ Below w.heap.size w wr ∧ Blk wr w.heap.size 60 #[.string a, .string b]) (fun i _ => n - (intOf i).toNat)
  case atStart => exact ⟨0, Nat.zero_le _, rfl, fun j x hj => absurd hj (by omega), (by have h := Blk.new (w.alloc (.cells #[.string a, .string b] 60)) 23 #[.string ⟨#[]⟩, .string ⟨#[]⟩, .int .i64 0, .int .i64 0]; rw [World.size_alloc] at h; exact h), ((Below.refl _ _).alloc (Nat.le_refl _) _).alloc (by simp) _, (Blk.new _ _ _).alloc _⟩
  case round =>
    obtain ⟨k, hk, rfl, hno, hA, hB, hA0⟩ := hrel
    have HN := Lib.hid hno
    have HA := Lib.hid hA
    have HB := Lib.hid hB
    have HA0 := Lib.hid hA0
    clear hno hA0
    by_cases hlt : k < n
    · obtain ⟨ad, x, p, rfl, hx, hp, hpb, c0, c1, c2, c3⟩ := Rts.at (Rts.below HS.out hB) hlt
      have HX := Lib.hid hx
      have hpl : p.block < wr.heap.size := Nat.lt_of_lt_of_le hpb hB.size
      have HPL := Lib.hid hpl
      have hsz := HL.out _ (rr_mem hx)
      clear hA hB hx
      have q0 := HA0.out.cell 0
      have q1 := HA0.out.cell 1
      have ql := HA0.out.lt
      by_cases h0 : x.f = a
      case neg =>
        have e0 := str_ne h0
        go_wp2
        go_round
        case rel => exact ⟨k + 1, by omega, by go_num, no_snoc HN.out HX.out (fun h => h0 h.1), HA.out.alloc _, bel_alloc HB.out _, HA0.out.alloc _⟩
        case measure => simp [intOf]; omega
      by_cases h1 : x.t = b
      case neg =>
        have e1 := str_ne h1
        go_wp2
        go_round
        case rel => exact ⟨k + 1, by omega, by go_num, no_snoc HN.out HX.out (fun h => h1 h.2.1), HA.out.alloc _, bel_alloc HB.out _, HA0.out.alloc _⟩
        case measure => simp [intOf]; omega
      by_cases h2 : chkR x.f x.t x.n x.d = 0
      case neg =>
        have CK := Lib.hid (fun w => chk_any a b x.n x.d (by omega) (by omega) (Lib.hid (show chkR a b x.n x.d = chkR x.f x.t x.n x.d by rw [h0, h1])) w)
        have g2 : ¬ hitR a b x := fun h => h2 h.2.2
        have e2 : (chkR x.f x.t x.n x.d == 0) = false := by simp [h2]
        generalize chkR x.f x.t x.n x.d = e at *
        go_wp2_with fail
        with_reducible refine (CK.out _).mono ?_
        rintro z w1 ⟨rfl, hP⟩
        have HA1 := Lib.hid ((HA.out.alloc _).below hP.below (HA.out.alloc _).lt)
        have HA01 := Lib.hid ((HA0.out.alloc _).below hP.below (HA0.out.alloc _).lt)
        have HB1 := Lib.hid ((bel_alloc HB.out _).trans (hP.below.mono (bel_alloc HB.out _).size))
        clear hP c0 c1 c2 c3 q0 q1 ql
        go_wp2
        go_round
        case rel => exact ⟨k + 1, by omega, by go_num, no_snoc HN.out HX.out g2, HA1.out, HB1.out, HA01.out⟩
        case measure => simp [intOf]; omega
      have CK := Lib.hid (fun w => chk_any a b x.n x.d (by omega) (by omega) (Lib.hid (show chkR a b x.n x.d = 0 by rw [← h0, ← h1]; exact h2)) w)
      obtain rfl : r = x := by rw [← H.out, firstR, first_hit HX.out ⟨h0, h1, h2⟩ HN.out]; rfl
      go_wp2_with fail
      with_reducible refine (CK.out _).mono ?_
      rintro z w1 ⟨rfl, hP⟩
      have HA1 := Lib.hid ((HA.out.alloc _).below hP.below (HA.out.alloc _).lt)
      have HB1 := Lib.hid ((bel_alloc HB.out _).trans (hP.below.mono (bel_alloc HB.out _).size))
      have hX1 := (Blk.new wr 23 #[.string a, .string b, .int .i64 r.n, .int .i64 r.d]).below hP.below (by simp)
      have x0 := hX1.cell 0
      have x1 := hX1.cell 1
      have x2 := hX1.cell 2
      have x3 := hX1.cell 3
      have xl := hX1.lt
      have a0 := HA1.out.cell 0
      have a1 := HA1.out.cell 1
      have a2 := HA1.out.cell 2
      have a3 := HA1.out.cell 3
      have af0 := HA1.out.frozen 0
      have af1 := HA1.out.frozen 1
      have af2 := HA1.out.frozen 2
      have af3 := HA1.out.frozen 3
      have al := HA1.out.lt
      clear hP c0 c1 c2 c3 q0 q1 ql hX1
      go_wp2
      have hF : Blk ((((w1.setCell ⟨w.heap.size + 1, 0, none⟩ (.string a)).setCell ⟨w.heap.size + 1, 1, none⟩ (.string b)).setCell ⟨w.heap.size + 1, 2, none⟩ (.int .i64 r.n)).setCell ⟨w.heap.size + 1, 3, none⟩ (.int .i64 r.d)) (w.heap.size + 1) 23 #[.string a, .string b, .int .i64 r.n, .int .i64 r.d] := ((((HA1.out.set_ 0 _).set_ 1 _).set_ 2 _).set_ 3 _)
      have f0 := hF.cell 0
      have f1 := hF.cell 1
      have f2 := hF.cell 2
      have f3 := hF.cell 3
      exact bodyPost_ret (v := .agg #[.string a, .string b, .int .i64 r.n, .int .i64 r.d]) (by simp [results, Tryd.results55, go_sem, f0, f1, f2, f3]) rfl ⟨(by rw [h0, h1]), ((((HB1.out.setCell (by simp) _).setCell (by simp) _).setCell (by simp) _).setCell (by simp) _)⟩
    · obtain rfl : k = n := by omega
      have hno : (L.find? fun r => decide (hitR a b r)) = none := first_none (by rw [HS.out.1]; exact HN.out)
      obtain rfl : r = zeroR := by rw [← H.out, firstR, hno]; rfl
      have a0 := HA.out.cell 0
      have a1 := HA.out.cell 1
      have a2 := HA.out.cell 2
      have a3 := HA.out.cell 3
      have af0 := HA.out.frozen 0
      have af1 := HA.out.frozen 1
      have af2 := HA.out.frozen 2
      have af3 := HA.out.frozen 3
      have al := HA.out.lt
      clear hA hB hno
      go_wp2
      have hF : Blk ((((wr.setCell ⟨w.heap.size + 1, 0, none⟩ (.string ⟨#[]⟩)).setCell ⟨w.heap.size + 1, 1, none⟩ (.string ⟨#[]⟩)).setCell ⟨w.heap.size + 1, 2, none⟩ (.int .i64 0)).setCell ⟨w.heap.size + 1, 3, none⟩ (.int .i64 0)) (w.heap.size + 1) 23 #[.string ⟨#[]⟩, .string ⟨#[]⟩, .int .i64 0, .int .i64 0] := ((((HA.out.set_ 0 _).set_ 1 _).set_ 2 _).set_ 3 _)
      have f0 := hF.cell 0
      have f1 := hF.cell 1
      have f2 := hF.cell 2
      have f3 := hF.cell 3
      exact bodyPost_ret (v := .agg #[.string ⟨#[]⟩, .string ⟨#[]⟩, .int .i64 0, .int .i64 0]) (by simp [results, Tryd.results55, go_sem, f0, f1, f2, f3]) rfl ⟨rfl, ((((HB.out.setCell (by simp) _).setCell (by simp) _).setCell (by simp) _).setCell (by simp) _)⟩
end Go.Proofs.YtobnkfgikafanaaDoor
