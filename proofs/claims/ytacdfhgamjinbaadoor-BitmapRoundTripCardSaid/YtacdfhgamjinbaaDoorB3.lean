/-
  CONTRACTS of bitmaps: the specification's Of, for every slice of numbers.
-/
import Derived.Test.YtacdfhgamjinbaaDoorB2
import Derived.StillTailTactics
import Derived.Deep.RegionWith
namespace Go.Proofs.YtacdfhgamjinbaaDoor
open Go.RowKit
set_option linter.unusedVariables false
def bitN (m : Nat) : Nat := 2 ^ (63 - (m - 1) % 64)
theorem bitN_lo (m : Nat) (h2 : 2 ≤ m) (h : m ≤ 64) : bitN m = hiN m := by
  rw [bitN, hiN, if_pos h, show 63 - (m - 1) % 64 = 64 - m by omega]
theorem bitN_hi (m : Nat) (h : ¬ m ≤ 64) (h3 : m ≤ 128) : bitN m = loN m := by
  rw [bitN, loN, if_neg h, show 63 - (m - 1) % 64 = 128 - m by omega]
theorem lo_0 (m : Nat) (h : m ≤ 64) : loN m = 0 := by rw [loN, if_pos h]
theorem hi_0 (m : Nat) (h : ¬ m ≤ 64) : hiN m = 0 := by rw [hiN, if_neg h]
theorem quo_lo (m : Nat) (h1 : 1 ≤ m) (h : m ≤ 64) : IntKind.i64.wrap ((IntKind.i64.wrap ((m : Int) - 1)).tdiv 64) = 0 := by
  have : ∀ k : Fin 65, 1 ≤ k.val → IntKind.i64.wrap ((IntKind.i64.wrap ((k.val : Int) - 1)).tdiv 64) = 0 := by decide +kernel
  exact this ⟨m, by omega⟩ h1
theorem quo_hi (m : Nat) (h1 : ¬ m ≤ 64) (h : m ≤ 128) : IntKind.i64.wrap ((IntKind.i64.wrap ((m : Int) - 1)).tdiv 64) = 1 := by
  have : ∀ k : Fin 129, ¬ k.val ≤ 64 → IntKind.i64.wrap ((IntKind.i64.wrap ((k.val : Int) - 1)).tdiv 64) = 1 := by decide +kernel
  exact this ⟨m, by omega⟩ h1
theorem rbit_any (m : Nat) (h1 : 1 ≤ m) (h3 : m ≤ 128) (w : World) :
    Calls Tryd.prog 33 #[.int .i64 (m : Int)] w fun e w' => e = .returned (.int .u64 (bitN m : Int)) ∧ w = w' := by
  have HW : Hid (IntKind.u64.wrap (2 ^ (63 - (m - 1) % 64)) = ((bitN m : Nat) : Int)) := Lib.hid (pow_w _ (by omega))
  have hr : (63 - ((m : Int) - 1) % 64).toNat = 63 - (m - 1) % 64 := by omega
  go_enter Tryd.func33, Tryd.ntmps33
  go_wp2
  go_ret
  exact ⟨ret_val HW.out, rfl⟩
theorem rbit_still (m : Nat) (h1 : 1 ≤ m) (h3 : m ≤ 128) (w : World) :
    Calls Tryd.prog 33 #[.int .i64 (m : Int)] w fun e w' => e = .returned (.int .u64 (bitN m : Int)) ∧ w' = w :=
  (rbit_any m h1 h3 w).mono fun _ _ h => ⟨h.1, h.2.symm⟩
theorem OfI.drew {w wr : World} {a b : Nat} (h : OfI w wr a b) : OfI w wr.drew a b := ⟨h.res, h.cur, h.below.drew, h.ha, h.hb⟩
theorem OfI.step0 {w wr : World} {a b a' : Nat} (h : OfI w wr a b) (ha : a' < 9223372036854775808) : OfI w (wr.setCell ⟨w.heap.size + 1, 0, none⟩ (.int .u64 (a' : Int))) a' b :=
  ⟨h.res.far (by simp) _, h.cur.set_ 0 _, h.below.setCell (by simp) _, ha, h.hb⟩
theorem OfI.step1 {w wr : World} {a b b' : Nat} (h : OfI w wr a b) (hb : b' < 18446744073709551616) : OfI w (wr.setCell ⟨w.heap.size + 1, 1, none⟩ (.int .u64 (b' : Int))) a b' :=
  ⟨h.res.far (by simp) _, h.cur.set_ 1 _, h.below.setCell (by simp) _, h.ha, hb⟩
theorem rof_any (A : Option Addr) (n c : Nat) (zs : List Int) (w : World) (hS : Ints w w.heap.size A n zs) (hn : n ≤ 300) (hc : n ≤ c) {r : Option (Nat × Nat)} (HR : Hid (ofL zs 0 0 = r)) :
    Calls Tryd.prog 22 #[.slice A n c] w fun e w' => e = .returned (ofV r) ∧ Below w.heap.size w w' := by
  have hz : ∀ w : World, (zeroValue 24).run Tryd.prog w = .ok (.agg #[.int .u64 0, .int .u64 0]) w := fun _ => by kernel_rfl
  have HS := Lib.hid hS
  clear hS
  go_enter Tryd.func22, Tryd.ntmps22
  go_wp2_with fail
  go_loopw [5] (fun i wr => ∃ (k a b : Nat), k ≤ n ∧ i = .int .i64 k ∧ ofL (zs.drop k) a b = r ∧ OfI w wr a b) (fun i _ => n - (intOf i).toNat)
  case atStart => exact ⟨0, 0, 0, Nat.zero_le _, rfl, HR.out, (Blk.newAt rfl).alloc _, Blk.newAt (by first | omega | (simp; done) | (simp; omega)), ((Below.refl _ _).alloc (Nat.le_refl _) _).alloc (by first | omega | (simp; done) | (simp; omega)) _, by decide, by decide⟩
  case round =>
    obtain ⟨k, a, b, hk, rfl, hr, hI⟩ := hrel
    have HK := Lib.hid hr
    have HI := Lib.hid hI
    have b0 := hI.cur.cell 0
    have b1 := hI.cur.cell 1
    have b2 := hI.cur.frozen 0
    have b3 := hI.cur.frozen 1
    have hR := hI.res
    have r0 := hR.cell 0
    have r1 := hR.cell 1
    have r2 := hR.frozen 0
    have r3 := hR.frozen 1
    have HRb := Lib.hid hR
    have hl := hI.cur.lt
    clear hr hI hR
    by_cases hlt : k < n
    · obtain ⟨ad, z, rfl, hb, hs, hcell⟩ := Ints.at (Reads.below HS.out HI.out.below) hlt
      have HG := Lib.hid hs
      clear hs
      by_cases hq : z < 2
      · have HN := Lib.hid (ofL_bad HK.out HG.out (.inl hq))
        go_wp2
        have hF : Blk ((wr.setCell ⟨w.heap.size, 0, none⟩ (.int .u64 0)).setCell ⟨w.heap.size, 1, none⟩ (.int .u64 0)) w.heap.size 24 #[.int .u64 0, .int .u64 0] := (HRb.out.set_ 0 _).set_ 1 _
        have f0 := hF.cell 0
        have f1 := hF.cell 1
        exact bodyPost_ret (v := ofV none) (by simp [results, Tryd.results22, go_sem, f0, f1, ofV]) rfl ⟨by rw [HN.out], (HI.out.below.setCell (by first | omega | (simp; done) | (simp; omega)) _).setCell (by first | omega | (simp; done) | (simp; omega)) _⟩
      by_cases hq2 : 128 < z
      · have HN := Lib.hid (ofL_bad HK.out HG.out (.inr hq2))
        go_wp2
        have hF : Blk ((wr.setCell ⟨w.heap.size, 0, none⟩ (.int .u64 0)).setCell ⟨w.heap.size, 1, none⟩ (.int .u64 0)) w.heap.size 24 #[.int .u64 0, .int .u64 0] := (HRb.out.set_ 0 _).set_ 1 _
        have f0 := hF.cell 0
        have f1 := hF.cell 1
        exact bodyPost_ret (v := ofV none) (by simp [results, Tryd.results22, go_sem, f0, f1, ofV]) rfl ⟨by rw [HN.out], (HI.out.below.setCell (by first | omega | (simp; done) | (simp; omega)) _).setCell (by first | omega | (simp; done) | (simp; omega)) _⟩
      obtain ⟨m, rfl⟩ : ∃ m : Nat, z = m := ⟨z.toNat, by omega⟩
      have h2 : 2 ≤ m := by omega
      have h3 : m ≤ 128 := by omega
      clear hq hq2
      have HN := Lib.hid (ofL_good HK.out HG.out h2 h3)
      have HX := Lib.hid (or63 HI.out.ha (hi_lt m h2))
      have HBit := fun w => rbit_any m (by omega) h3 w
      have g2 : ¬ (m : Int) < 2 := by omega
      have g3 : ¬ 128 < (m : Int) := by omega
      by_cases h4 : m ≤ 64
      · have hm : m ≤ 64 := h4
        have hq0 := quo_lo m (by omega) h4
        have hw : ((bitN m : Nat) : Int) = ((hiN m : Nat) : Int) := by rw [bitN_lo m h2 h4]
        have ho := or_val a (hiN m) (Nat.lt_trans HI.out.ha (by decide)) (Nat.lt_trans (hi_lt m h2) (by decide))
        have HL := Lib.hid (lo_0 m h4)
        go_wp2_with fail
        go_still_tail 15, (by kernel_rfl)
        still_call (rbit_still m (by omega) h3 _)
        repeat still_step
        refine wpStill_nil ?_
        have HD := HI.out.drew
        clear b0 b1 b2 b3 r0 r1 r2 r3 HRb hcell
        change wpList _ _ _ _ _ wr.drew
        generalize wr.drew = w2 at *
        have b0 := HD.cur.cell 0
        have b1 := HD.cur.cell 1
        have b2 := HD.cur.frozen 0
        have b3 := HD.cur.frozen 1
        have HD := Lib.hid HD
        go_wp2
        exact ⟨⟨k + 1, _, _, by omega, y5 k, by have := HN.out; rw [HL.out, Nat.or_zero] at this; exact this, HD.out.step0 HX.out⟩, by simp [intOf]; omega⟩
      · have hm : ¬ m ≤ 64 := h4
        have hq0 := quo_hi m h4 h3
        have hw : ((bitN m : Nat) : Int) = ((loN m : Nat) : Int) := by rw [bitN_hi m h4 h3]
        have ho := or_val b (loN m) HI.out.hb (lo_lt m)
        have HL := Lib.hid (hi_0 m h4)
        go_wp2_with fail
        go_still_tail 15, (by kernel_rfl)
        still_call (rbit_still m (by omega) h3 _)
        repeat still_step
        refine wpStill_nil ?_
        have HD := HI.out.drew
        clear b0 b1 b2 b3 r0 r1 r2 r3 HRb hcell
        change wpList _ _ _ _ _ wr.drew
        generalize wr.drew = w2 at *
        have b0 := HD.cur.cell 0
        have b1 := HD.cur.cell 1
        have b2 := HD.cur.frozen 0
        have b3 := HD.cur.frozen 1
        have HD := Lib.hid HD
        go_wp2
        exact ⟨⟨k + 1, _, _, by omega, y5 k, by have := HN.out; rw [HL.out, Nat.or_zero] at this; exact this, HD.out.step1 (or64 HD.out.hb (lo_lt m))⟩, by simp [intOf]; omega⟩
    · have HN := Lib.hid (ofL_end HK.out HS.out.len hlt)
      go_wp2
      have hF : Blk ((wr.setCell ⟨w.heap.size, 0, none⟩ (.int .u64 (a : Int))).setCell ⟨w.heap.size, 1, none⟩ (.int .u64 (b : Int))) w.heap.size 24 #[.int .u64 (a : Int), .int .u64 (b : Int)] := (HRb.out.set_ 0 _).set_ 1 _
      have f0 := hF.cell 0
      have f1 := hF.cell 1
      exact bodyPost_ret (v := ofV (some (a, b))) (by simp [results, Tryd.results22, go_sem, f0, f1, ofV]) rfl ⟨by rw [HN.out], (HI.out.below.setCell (by first | omega | (simp; done) | (simp; omega)) _).setCell (by first | omega | (simp; done) | (simp; omega)) _⟩
end Go.Proofs.YtacdfhgamjinbaaDoor
