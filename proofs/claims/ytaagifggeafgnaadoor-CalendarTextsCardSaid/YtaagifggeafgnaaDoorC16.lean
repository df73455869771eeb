/-
  CONTRACTS of dates: the specification's Parse.
-/
import Derived.Test.YtaagifggeafgnaaDoorC15
import Derived.StillTailTactics
import Derived.Deep.RegionHeld3
namespace Go.Proofs.YtaagifggeafgnaaDoor
open Go.RowKit
set_option linter.unusedVariables false
set_option linter.unusedSimpArgs false
def Blk (w : World) (g : Nat) (t : TypeId) (cs : Array Value) : Prop := w.heap[g]? = some (.cells cs t (0, 0))

section
variable {w w' : World} {g : Nat} {t : TypeId} {cs : Array Value}
theorem Blk.lt (h : Blk w g t cs) : g < w.heap.size := by
  rcases Nat.lt_or_ge g w.heap.size with hlt | hge
  · exact hlt
  · unfold Blk at h; rw [Array.getElem?_eq_none hge] at h; cases h
theorem Blk.cell (h : Blk w g t cs) (i : Nat) : w.cell? ⟨g, i, none⟩ = cs[i]? := cell_of_row w g i cs t (0, 0) h
theorem Blk.frozen (h : Blk w g t cs) (i : Nat) : w.frozen? ⟨g, i, none⟩ = false := by
  unfold Blk at h
  simp [World.frozen?, h]
theorem Blk.new (w : World) (t : TypeId) (cs : Array Value) : Blk (w.alloc (.cells cs t)) w.heap.size t cs := heap_alloc_new w _
theorem Blk.drew (h : Blk w g t cs) : Blk w.drew g t cs := h
theorem Blk.drewN (h : Blk w g t cs) (n : Nat) : Blk (w.drewN n) g t cs := h
theorem Blk.alloc (h : Blk w g t cs) (o : Obj) : Blk (w.alloc o) g t cs := (Below.heap_alloc w o g h.lt).trans h
theorem Blk.set_ (h : Blk w g t cs) (i : Nat) (u : Value) : Blk (w.setCell ⟨g, i, none⟩ u) g t (cs.setIfInBounds i u) := by
  unfold Blk at h ⊢
  simp [World.setCell, Array.getElem?_modify, h]
theorem Blk.far (h : Blk w g t cs) {p : Addr} (hp : g ≠ p.block) (u : Value) : Blk (w.setCell p u) g t cs := (Below.heap_setCell w p u g hp).trans h
theorem Blk.below {B : Nat} (h : Blk w g t cs) (hb : Below B w w') (hg : g < B) : Blk w' g t cs := (hb.block g hg).trans h
theorem Blk.grown {row : Option Nat} (h : Blk w g t cs) (hb : w.grownBy w' row) (hg : some g ≠ row) : Blk w' g t cs := (hb.block g h.lt hg).trans h
end
def good (s : ByteArray) (j : Nat) : Prop := if j = 4 ∨ j = 7 then byt s j = 45 else dgAt s j
theorem isT_of {s : ByteArray} (hs : s.size = 10) (h : ∀ j, j < 10 → good s j) : IsT s := by
  refine ⟨hs, ?_, ?_, fun k hk => ?_⟩
  · have := h 4 (by omega); unfold good at this; simpa using this
  · have := h 7 (by omega); unfold good at this; simpa using this
  · obtain ⟨h1, h2, h3⟩ := hk
    have := h k h1
    unfold good at this
    rw [if_neg (by omega)] at this
    exact this
def pt (i : Nat) : Nat := if i ≤ 4 then 0 else if i ≤ 7 then 1 else 2
structure RP (s : ByteArray) (w wr : World) (i : Nat) : Prop where
  blk : Blk wr w.heap.size 3 #[.int .i64 (nv s 0 (min i 4)), .int .i64 (nv s 5 (min (i - 5) 2)), .int .i64 (nv s 8 (min (i - 8) 2))]
  below : Below w.heap.size w wr
  ok : ∀ j, j < i → good s j
theorem RP.snoc {s : ByteArray} {i : Nat} (h : ∀ j, j < i → good s j) (hg : good s i) : ∀ j, j < i + 1 → good s j := fun j hj => by
  rcases Nat.lt_or_ge j i with h1 | h1
  · exact h j h1
  · obtain rfl : j = i := by omega
    exact hg
theorem rparse_short (s : ByteArray) (h : s.size < 10) (w : World) : Calls Tryd.prog 25 #[.string s] w fun e w' => e = .returned (.tuple #[.int .i64 0, .int .i64 1]) ∧ w = w' := by
  go_enter Tryd.func25, Tryd.ntmps25
  go_wp2
  go_ret2
  exact ⟨rfl, rfl⟩
theorem rparse_long (s : ByteArray) (h : 10 < s.size) (hs : s.size ≤ 1000) (w : World) : Calls Tryd.prog 25 #[.string s] w fun e w' => e = .returned (.tuple #[.int .i64 0, .int .i64 3]) ∧ w = w' := by
  have g : ¬ (s.size : Int) < 10 := by omega
  go_enter Tryd.func25, Tryd.ntmps25
  go_wp2
  go_ret2
  exact ⟨rfl, rfl⟩
set_option maxHeartbeats 3200000 in
theorem rparse_of (s : ByteArray) (h : IsT s) {a e : Int} (w : World) (hO : ∀ w', Calls Tryd.prog 10 #[.int .i64 (pY s), .int .i64 (pM s), .int .i64 (pD s)] w' fun x w'' => x = .returned (.tuple #[.int .i64 a, .int .i64 e]) ∧ Below w'.heap.size w' w'') : Calls Tryd.prog 25 #[.string s] w fun x w' => x = .returned (.tuple #[.int .i64 a, .int .i64 e]) ∧ Below w.heap.size w w' := by
  have hs := h.size
  have g : ¬ (s.size : Int) < 10 := by omega
  have g2 : ¬ 10 < (s.size : Int) := by omega
  have HT := Lib.hid h
  have HO := Lib.hid hO
  clear h hO
  go_enter Tryd.func25, Tryd.ntmps25
  go_wp2_with fail
  go_loopw [5, 6] (fun p i wr => ∃ k : Nat, k ≤ 10 ∧ i = .int .i64 (k : Int) ∧ p = .int .i64 ((pt k : Nat) : Int) ∧ RP s w wr k) (fun _ i _ => 10 - (intOf i).toNat)
  case atStart => exact ⟨0, by decide, rfl, rfl, Blk.new _ _ _, (Below.refl _ _).alloc (Nat.le_refl _) _, fun j hj => absurd hj (by omega)⟩
  case round =>
    obtain ⟨k, hk, rfl, rfl, hR⟩ := hrel
    have HB := Lib.hid hR.below
    have HG := Lib.hid hR.ok
    have hK := hR.blk
    have hl := hK.lt
    by_cases hk0 : k = 0
    case pos =>
      subst hk0
      have hix := fun w => ix_at s 0 (by omega) (i := 0) rfl w
      have hpt : ((pt 0 : Nat) : Int) = 0 := rfl
      have HK := Lib.hid hK
      have HS : Hid (nv s 0 (0 + 1) = nv s 0 0 * 10 + (byt s 0 - 48)) := Lib.hid rfl
      have hbd : 0 ≤ nv s 0 0 ∧ nv s 0 0 < 10 ^ 0 := nv_bd (fun j hj => by have := HG.out (0 + j) (by omega); unfold good at this; rw [if_neg (by omega)] at this; exact this)
      have hb1 : nv s 0 0 ≤ 1000 := by have := hbd.2; omega
      have hb0 := hbd.1
      clear hbd hK hR
      generalize hc : byt s 0 = c at *
      replace HK : Hid (Blk wr w.heap.size 3 #[.int .i64 (nv s 0 0), .int .i64 (nv s 5 0), .int .i64 (nv s 8 0)]) := Lib.hid HK.out
      generalize nv s 0 0 = v at *
      obtain ⟨d0, d1⟩ : 48 ≤ c ∧ c ≤ 57 := by have := HT.out.dg 0 ⟨by decide, by decide, by decide⟩; unfold dgAt at this; rw [hc] at this; exact this
      have HG2 := Lib.hid (RP.snoc HG.out (by unfold good dgAt; rw [if_neg (by decide), hc]; exact ⟨d0, d1⟩))
      clear hc
      go_wp2_with fail
      have q : wr.cell? ⟨w.heap.size, 0, none⟩ = some (.int .i64 v) := HK.out.cell 0
      go_still_tail 14, (by kernel_rfl)
      change wpList _ _ _ _ _ wr.drew
      have HK2 : Hid (Blk wr.drew w.heap.size 3 _) := Lib.hid HK.out.drew
      have HB2 : Hid (Below w.heap.size w wr.drew) := Lib.hid HB.out.drew
      have hl2 : w.heap.size < wr.drew.heap.size := hl
      clear q HB HK hl
      generalize wr.drew = w2 at *
      have q := HK2.out.frozen 0
      have q2 : w2.cell? ⟨w.heap.size, 0, none⟩ = some (.int .i64 v) := HK2.out.cell 0
      go_wp2
      go_round
      case rel => exact ⟨1, by decide, rfl, rfl, by rw [← HS.out] ; exact HK2.out.set_ 0 _, HB2.out.setCell (Nat.le_refl _) _, HG2.out⟩
      case measure => simp [intOf]
    by_cases hk1 : k = 1
    case pos =>
      subst hk1
      have hix := fun w => ix_at s 1 (by omega) (i := 1) rfl w
      have hpt : ((pt 1 : Nat) : Int) = 0 := rfl
      have HK := Lib.hid hK
      have HS : Hid (nv s 0 (1 + 1) = nv s 0 1 * 10 + (byt s 1 - 48)) := Lib.hid rfl
      have hbd : 0 ≤ nv s 0 1 ∧ nv s 0 1 < 10 ^ 1 := nv_bd (fun j hj => by have := HG.out (0 + j) (by omega); unfold good at this; rw [if_neg (by omega)] at this; exact this)
      have hb1 : nv s 0 1 ≤ 1000 := by have := hbd.2; omega
      have hb0 := hbd.1
      clear hbd hK hR
      generalize hc : byt s 1 = c at *
      replace HK : Hid (Blk wr w.heap.size 3 #[.int .i64 (nv s 0 1), .int .i64 (nv s 5 0), .int .i64 (nv s 8 0)]) := Lib.hid HK.out
      generalize nv s 0 1 = v at *
      obtain ⟨d0, d1⟩ : 48 ≤ c ∧ c ≤ 57 := by have := HT.out.dg 1 ⟨by decide, by decide, by decide⟩; unfold dgAt at this; rw [hc] at this; exact this
      have HG2 := Lib.hid (RP.snoc HG.out (by unfold good dgAt; rw [if_neg (by decide), hc]; exact ⟨d0, d1⟩))
      clear hc
      go_wp2_with fail
      have q : wr.cell? ⟨w.heap.size, 0, none⟩ = some (.int .i64 v) := HK.out.cell 0
      go_still_tail 14, (by kernel_rfl)
      change wpList _ _ _ _ _ wr.drew
      have HK2 : Hid (Blk wr.drew w.heap.size 3 _) := Lib.hid HK.out.drew
      have HB2 : Hid (Below w.heap.size w wr.drew) := Lib.hid HB.out.drew
      have hl2 : w.heap.size < wr.drew.heap.size := hl
      clear q HB HK hl
      generalize wr.drew = w2 at *
      have q := HK2.out.frozen 0
      have q2 : w2.cell? ⟨w.heap.size, 0, none⟩ = some (.int .i64 v) := HK2.out.cell 0
      go_wp2
      go_round
      case rel => exact ⟨2, by decide, rfl, rfl, by rw [← HS.out] ; exact HK2.out.set_ 0 _, HB2.out.setCell (Nat.le_refl _) _, HG2.out⟩
      case measure => simp [intOf]
    by_cases hk2 : k = 2
    case pos =>
      subst hk2
      have hix := fun w => ix_at s 2 (by omega) (i := 2) rfl w
      have hpt : ((pt 2 : Nat) : Int) = 0 := rfl
      have HK := Lib.hid hK
      have HS : Hid (nv s 0 (2 + 1) = nv s 0 2 * 10 + (byt s 2 - 48)) := Lib.hid rfl
      have hbd : 0 ≤ nv s 0 2 ∧ nv s 0 2 < 10 ^ 2 := nv_bd (fun j hj => by have := HG.out (0 + j) (by omega); unfold good at this; rw [if_neg (by omega)] at this; exact this)
      have hb1 : nv s 0 2 ≤ 1000 := by have := hbd.2; omega
      have hb0 := hbd.1
      clear hbd hK hR
      generalize hc : byt s 2 = c at *
      replace HK : Hid (Blk wr w.heap.size 3 #[.int .i64 (nv s 0 2), .int .i64 (nv s 5 0), .int .i64 (nv s 8 0)]) := Lib.hid HK.out
      generalize nv s 0 2 = v at *
      obtain ⟨d0, d1⟩ : 48 ≤ c ∧ c ≤ 57 := by have := HT.out.dg 2 ⟨by decide, by decide, by decide⟩; unfold dgAt at this; rw [hc] at this; exact this
      have HG2 := Lib.hid (RP.snoc HG.out (by unfold good dgAt; rw [if_neg (by decide), hc]; exact ⟨d0, d1⟩))
      clear hc
      go_wp2_with fail
      have q : wr.cell? ⟨w.heap.size, 0, none⟩ = some (.int .i64 v) := HK.out.cell 0
      go_still_tail 14, (by kernel_rfl)
      change wpList _ _ _ _ _ wr.drew
      have HK2 : Hid (Blk wr.drew w.heap.size 3 _) := Lib.hid HK.out.drew
      have HB2 : Hid (Below w.heap.size w wr.drew) := Lib.hid HB.out.drew
      have hl2 : w.heap.size < wr.drew.heap.size := hl
      clear q HB HK hl
      generalize wr.drew = w2 at *
      have q := HK2.out.frozen 0
      have q2 : w2.cell? ⟨w.heap.size, 0, none⟩ = some (.int .i64 v) := HK2.out.cell 0
      go_wp2
      go_round
      case rel => exact ⟨3, by decide, rfl, rfl, by rw [← HS.out] ; exact HK2.out.set_ 0 _, HB2.out.setCell (Nat.le_refl _) _, HG2.out⟩
      case measure => simp [intOf]
    by_cases hk3 : k = 3
    case pos =>
      subst hk3
      have hix := fun w => ix_at s 3 (by omega) (i := 3) rfl w
      have hpt : ((pt 3 : Nat) : Int) = 0 := rfl
      have HK := Lib.hid hK
      have HS : Hid (nv s 0 (3 + 1) = nv s 0 3 * 10 + (byt s 3 - 48)) := Lib.hid rfl
      have hbd : 0 ≤ nv s 0 3 ∧ nv s 0 3 < 10 ^ 3 := nv_bd (fun j hj => by have := HG.out (0 + j) (by omega); unfold good at this; rw [if_neg (by omega)] at this; exact this)
      have hb1 : nv s 0 3 ≤ 1000 := by have := hbd.2; omega
      have hb0 := hbd.1
      clear hbd hK hR
      generalize hc : byt s 3 = c at *
      replace HK : Hid (Blk wr w.heap.size 3 #[.int .i64 (nv s 0 3), .int .i64 (nv s 5 0), .int .i64 (nv s 8 0)]) := Lib.hid HK.out
      generalize nv s 0 3 = v at *
      obtain ⟨d0, d1⟩ : 48 ≤ c ∧ c ≤ 57 := by have := HT.out.dg 3 ⟨by decide, by decide, by decide⟩; unfold dgAt at this; rw [hc] at this; exact this
      have HG2 := Lib.hid (RP.snoc HG.out (by unfold good dgAt; rw [if_neg (by decide), hc]; exact ⟨d0, d1⟩))
      clear hc
      go_wp2_with fail
      have q : wr.cell? ⟨w.heap.size, 0, none⟩ = some (.int .i64 v) := HK.out.cell 0
      go_still_tail 14, (by kernel_rfl)
      change wpList _ _ _ _ _ wr.drew
      have HK2 : Hid (Blk wr.drew w.heap.size 3 _) := Lib.hid HK.out.drew
      have HB2 : Hid (Below w.heap.size w wr.drew) := Lib.hid HB.out.drew
      have hl2 : w.heap.size < wr.drew.heap.size := hl
      clear q HB HK hl
      generalize wr.drew = w2 at *
      have q := HK2.out.frozen 0
      have q2 : w2.cell? ⟨w.heap.size, 0, none⟩ = some (.int .i64 v) := HK2.out.cell 0
      go_wp2
      go_round
      case rel => exact ⟨4, by decide, rfl, rfl, by rw [← HS.out] ; exact HK2.out.set_ 0 _, HB2.out.setCell (Nat.le_refl _) _, HG2.out⟩
      case measure => simp [intOf]
    by_cases hk4 : k = 4
    case pos =>
      subst hk4
      have hix := fun w => ix_at s 4 (by omega) (i := 4) rfl w
      have hpt : ((pt 4 : Nat) : Int) = 0 := rfl
      have HK := Lib.hid hK
      clear hK hR
      generalize hc : byt s 4 = c at *
      by_cases hg : c = 45
      · have HG2 := Lib.hid (RP.snoc HG.out (by unfold good; simpa using (hc.trans hg)))
        have e1 : (c != 45) = false := by simp [hg]
        clear hg hc
        go_wp2
        go_round
        case rel => exact ⟨5, by decide, rfl, rfl, HK.out, HB.out, HG2.out⟩
        case measure => simp [intOf]
      · exact absurd (hc.symm.trans (HT.out.b4)) hg
    by_cases hk5 : k = 5
    case pos =>
      subst hk5
      have hix := fun w => ix_at s 5 (by omega) (i := 5) rfl w
      have hpt : ((pt 5 : Nat) : Int) = 1 := rfl
      have HK := Lib.hid hK
      have HS : Hid (nv s 5 (0 + 1) = nv s 5 0 * 10 + (byt s 5 - 48)) := Lib.hid rfl
      have hbd : 0 ≤ nv s 5 0 ∧ nv s 5 0 < 10 ^ 0 := nv_bd (fun j hj => by have := HG.out (5 + j) (by omega); unfold good at this; rw [if_neg (by omega)] at this; exact this)
      have hb1 : nv s 5 0 ≤ 1000 := by have := hbd.2; omega
      have hb0 := hbd.1
      clear hbd hK hR
      generalize hc : byt s 5 = c at *
      replace HK : Hid (Blk wr w.heap.size 3 #[.int .i64 (nv s 0 4), .int .i64 (nv s 5 0), .int .i64 (nv s 8 0)]) := Lib.hid HK.out
      generalize nv s 5 0 = v at *
      obtain ⟨d0, d1⟩ : 48 ≤ c ∧ c ≤ 57 := by have := HT.out.dg 5 ⟨by decide, by decide, by decide⟩; unfold dgAt at this; rw [hc] at this; exact this
      have HG2 := Lib.hid (RP.snoc HG.out (by unfold good dgAt; rw [if_neg (by decide), hc]; exact ⟨d0, d1⟩))
      clear hc
      go_wp2_with fail
      have q : wr.cell? ⟨w.heap.size, 1, none⟩ = some (.int .i64 v) := HK.out.cell 1
      go_still_tail 14, (by kernel_rfl)
      change wpList _ _ _ _ _ wr.drew
      have HK2 : Hid (Blk wr.drew w.heap.size 3 _) := Lib.hid HK.out.drew
      have HB2 : Hid (Below w.heap.size w wr.drew) := Lib.hid HB.out.drew
      have hl2 : w.heap.size < wr.drew.heap.size := hl
      clear q HB HK hl
      generalize wr.drew = w2 at *
      have q := HK2.out.frozen 1
      have q2 : w2.cell? ⟨w.heap.size, 1, none⟩ = some (.int .i64 v) := HK2.out.cell 1
      go_wp2
      go_round
      case rel => exact ⟨6, by decide, rfl, rfl, by rw [← HS.out] ; exact HK2.out.set_ 1 _, HB2.out.setCell (Nat.le_refl _) _, HG2.out⟩
      case measure => simp [intOf]
    by_cases hk6 : k = 6
    case pos =>
      subst hk6
      have hix := fun w => ix_at s 6 (by omega) (i := 6) rfl w
      have hpt : ((pt 6 : Nat) : Int) = 1 := rfl
      have HK := Lib.hid hK
      have HS : Hid (nv s 5 (1 + 1) = nv s 5 1 * 10 + (byt s 6 - 48)) := Lib.hid rfl
      have hbd : 0 ≤ nv s 5 1 ∧ nv s 5 1 < 10 ^ 1 := nv_bd (fun j hj => by have := HG.out (5 + j) (by omega); unfold good at this; rw [if_neg (by omega)] at this; exact this)
      have hb1 : nv s 5 1 ≤ 1000 := by have := hbd.2; omega
      have hb0 := hbd.1
      clear hbd hK hR
      generalize hc : byt s 6 = c at *
      replace HK : Hid (Blk wr w.heap.size 3 #[.int .i64 (nv s 0 4), .int .i64 (nv s 5 1), .int .i64 (nv s 8 0)]) := Lib.hid HK.out
      generalize nv s 5 1 = v at *
      obtain ⟨d0, d1⟩ : 48 ≤ c ∧ c ≤ 57 := by have := HT.out.dg 6 ⟨by decide, by decide, by decide⟩; unfold dgAt at this; rw [hc] at this; exact this
      have HG2 := Lib.hid (RP.snoc HG.out (by unfold good dgAt; rw [if_neg (by decide), hc]; exact ⟨d0, d1⟩))
      clear hc
      go_wp2_with fail
      have q : wr.cell? ⟨w.heap.size, 1, none⟩ = some (.int .i64 v) := HK.out.cell 1
      go_still_tail 14, (by kernel_rfl)
      change wpList _ _ _ _ _ wr.drew
      have HK2 : Hid (Blk wr.drew w.heap.size 3 _) := Lib.hid HK.out.drew
      have HB2 : Hid (Below w.heap.size w wr.drew) := Lib.hid HB.out.drew
      have hl2 : w.heap.size < wr.drew.heap.size := hl
      clear q HB HK hl
      generalize wr.drew = w2 at *
      have q := HK2.out.frozen 1
      have q2 : w2.cell? ⟨w.heap.size, 1, none⟩ = some (.int .i64 v) := HK2.out.cell 1
      go_wp2
      go_round
      case rel => exact ⟨7, by decide, rfl, rfl, by rw [← HS.out] ; exact HK2.out.set_ 1 _, HB2.out.setCell (Nat.le_refl _) _, HG2.out⟩
      case measure => simp [intOf]
    by_cases hk7 : k = 7
    case pos =>
      subst hk7
      have hix := fun w => ix_at s 7 (by omega) (i := 7) rfl w
      have hpt : ((pt 7 : Nat) : Int) = 1 := rfl
      have HK := Lib.hid hK
      clear hK hR
      generalize hc : byt s 7 = c at *
      by_cases hg : c = 45
      · have HG2 := Lib.hid (RP.snoc HG.out (by unfold good; simpa using (hc.trans hg)))
        have e1 : (c != 45) = false := by simp [hg]
        clear hg hc
        go_wp2
        go_round
        case rel => exact ⟨8, by decide, rfl, rfl, HK.out, HB.out, HG2.out⟩
        case measure => simp [intOf]
      · exact absurd (hc.symm.trans (HT.out.b7)) hg
    by_cases hk8 : k = 8
    case pos =>
      subst hk8
      have hix := fun w => ix_at s 8 (by omega) (i := 8) rfl w
      have hpt : ((pt 8 : Nat) : Int) = 2 := rfl
      have HK := Lib.hid hK
      have HS : Hid (nv s 8 (0 + 1) = nv s 8 0 * 10 + (byt s 8 - 48)) := Lib.hid rfl
      have hbd : 0 ≤ nv s 8 0 ∧ nv s 8 0 < 10 ^ 0 := nv_bd (fun j hj => by have := HG.out (8 + j) (by omega); unfold good at this; rw [if_neg (by omega)] at this; exact this)
      have hb1 : nv s 8 0 ≤ 1000 := by have := hbd.2; omega
      have hb0 := hbd.1
      clear hbd hK hR
      generalize hc : byt s 8 = c at *
      replace HK : Hid (Blk wr w.heap.size 3 #[.int .i64 (nv s 0 4), .int .i64 (nv s 5 2), .int .i64 (nv s 8 0)]) := Lib.hid HK.out
      generalize nv s 8 0 = v at *
      obtain ⟨d0, d1⟩ : 48 ≤ c ∧ c ≤ 57 := by have := HT.out.dg 8 ⟨by decide, by decide, by decide⟩; unfold dgAt at this; rw [hc] at this; exact this
      have HG2 := Lib.hid (RP.snoc HG.out (by unfold good dgAt; rw [if_neg (by decide), hc]; exact ⟨d0, d1⟩))
      clear hc
      go_wp2_with fail
      have q : wr.cell? ⟨w.heap.size, 2, none⟩ = some (.int .i64 v) := HK.out.cell 2
      go_still_tail 14, (by kernel_rfl)
      change wpList _ _ _ _ _ wr.drew
      have HK2 : Hid (Blk wr.drew w.heap.size 3 _) := Lib.hid HK.out.drew
      have HB2 : Hid (Below w.heap.size w wr.drew) := Lib.hid HB.out.drew
      have hl2 : w.heap.size < wr.drew.heap.size := hl
      clear q HB HK hl
      generalize wr.drew = w2 at *
      have q := HK2.out.frozen 2
      have q2 : w2.cell? ⟨w.heap.size, 2, none⟩ = some (.int .i64 v) := HK2.out.cell 2
      go_wp2
      go_round
      case rel => exact ⟨9, by decide, rfl, rfl, by rw [← HS.out] ; exact HK2.out.set_ 2 _, HB2.out.setCell (Nat.le_refl _) _, HG2.out⟩
      case measure => simp [intOf]
    by_cases hk9 : k = 9
    case pos =>
      subst hk9
      have hix := fun w => ix_at s 9 (by omega) (i := 9) rfl w
      have hpt : ((pt 9 : Nat) : Int) = 2 := rfl
      have HK := Lib.hid hK
      have HS : Hid (nv s 8 (1 + 1) = nv s 8 1 * 10 + (byt s 9 - 48)) := Lib.hid rfl
      have hbd : 0 ≤ nv s 8 1 ∧ nv s 8 1 < 10 ^ 1 := nv_bd (fun j hj => by have := HG.out (8 + j) (by omega); unfold good at this; rw [if_neg (by omega)] at this; exact this)
      have hb1 : nv s 8 1 ≤ 1000 := by have := hbd.2; omega
      have hb0 := hbd.1
      clear hbd hK hR
      generalize hc : byt s 9 = c at *
      replace HK : Hid (Blk wr w.heap.size 3 #[.int .i64 (nv s 0 4), .int .i64 (nv s 5 2), .int .i64 (nv s 8 1)]) := Lib.hid HK.out
      generalize nv s 8 1 = v at *
      obtain ⟨d0, d1⟩ : 48 ≤ c ∧ c ≤ 57 := by have := HT.out.dg 9 ⟨by decide, by decide, by decide⟩; unfold dgAt at this; rw [hc] at this; exact this
      have HG2 := Lib.hid (RP.snoc HG.out (by unfold good dgAt; rw [if_neg (by decide), hc]; exact ⟨d0, d1⟩))
      clear hc
      go_wp2_with fail
      have q : wr.cell? ⟨w.heap.size, 2, none⟩ = some (.int .i64 v) := HK.out.cell 2
      go_still_tail 14, (by kernel_rfl)
      change wpList _ _ _ _ _ wr.drew
      have HK2 : Hid (Blk wr.drew w.heap.size 3 _) := Lib.hid HK.out.drew
      have HB2 : Hid (Below w.heap.size w wr.drew) := Lib.hid HB.out.drew
      have hl2 : w.heap.size < wr.drew.heap.size := hl
      clear q HB HK hl
      generalize wr.drew = w2 at *
      have q := HK2.out.frozen 2
      have q2 : w2.cell? ⟨w.heap.size, 2, none⟩ = some (.int .i64 v) := HK2.out.cell 2
      go_wp2
      go_round
      case rel => exact ⟨10, by decide, rfl, rfl, by rw [← HS.out] ; exact HK2.out.set_ 2 _, HB2.out.setCell (Nat.le_refl _) _, HG2.out⟩
      case measure => simp [intOf]
    obtain rfl : k = 10 := by omega
    have p0 : wr.cell? ⟨w.heap.size, 0, none⟩ = some (.int .i64 (nv s 0 4)) := hK.cell 0
    have p1 : wr.cell? ⟨w.heap.size, 1, none⟩ = some (.int .i64 (nv s 5 2)) := hK.cell 1
    have p2 : wr.cell? ⟨w.heap.size, 2, none⟩ = some (.int .i64 (nv s 8 2)) := hK.cell 2
    simp only [pY, pM, pD] at HO
    have KS : Hid (∀ w', Below wr.heap.size wr w' → Below wr.heap.size wr w' ∧ w'.cell? ⟨w.heap.size, 0, none⟩ = some (.int .i64 (nv s 0 4)) ∧ w'.cell? ⟨w.heap.size, 1, none⟩ = some (.int .i64 (nv s 5 2)) ∧ w'.cell? ⟨w.heap.size, 2, none⟩ = some (.int .i64 (nv s 8 2))) :=
      Lib.hid fun w' hw => ⟨hw, (hK.below hw hl).cell 0, (hK.below hw hl).cell 1, (hK.below hw hl).cell 2⟩
    have HOd : Hid (∀ w', Below wr.heap.size wr w' → Calls Tryd.prog 10 #[.int .i64 (nv s 0 4), .int .i64 (nv s 5 2), .int .i64 (nv s 8 2)] w' fun x w'' => x = .returned (.tuple #[.int .i64 a, .int .i64 e]) ∧ Below wr.heap.size wr w'') := Lib.hid fun w' hb => (HO.out w').mono fun x w'' h => ⟨h.1, hb.trans (h.2.mono hb.size)⟩
    clear hK hR p0 p1 p2
    generalize nv s 0 4 = y at *
    generalize nv s 5 2 = m at *
    generalize nv s 8 2 = d at *
    go_wp2_with fail
    go_region_held3 (fun w' => Below wr.heap.size wr w' ∧ w'.cell? ⟨w.heap.size, 0, none⟩ = some (.int .i64 y) ∧ w'.cell? ⟨w.heap.size, 1, none⟩ = some (.int .i64 m) ∧ w'.cell? ⟨w.heap.size, 2, none⟩ = some (.int .i64 d)) (exact KS.out _ (by repeat (first | with_reducible exact Below.refl _ _ | with_reducible assumption | with_reducible refine Below.drew ?_ | with_reducible refine bel_alloc ?_ _ | with_reducible refine bel_drewN ?_ _))) ((go_at_call 10; with_reducible refine (HOd.out _ (by repeat (first | with_reducible exact Below.refl _ _ | with_reducible assumption | with_reducible refine Below.drew ?_ | with_reducible refine bel_alloc ?_ _ | with_reducible refine bel_drewN ?_ _))).mono ?_; rintro e w2 ⟨rfl, hbX⟩))
    all_goals go_wp2
    all_goals go_ret2
    all_goals exact ⟨rfl, HB.out.trans (hbX.mono HB.out.size)⟩
set_option maxHeartbeats 3200000 in
theorem rparse_bad (s : ByteArray) (hs : s.size = 10) (hn : ¬ IsT s) (w : World) : Calls Tryd.prog 25 #[.string s] w fun e w' => e = .returned (.tuple #[.int .i64 0, .int .i64 2]) ∧ Below w.heap.size w w' := by
  have g : ¬ (s.size : Int) < 10 := by omega
  have g2 : ¬ 10 < (s.size : Int) := by omega
  have HN := Lib.hid hn
  clear hn
  go_enter Tryd.func25, Tryd.ntmps25
  go_wp2_with fail
  go_loopw [5, 6] (fun p i wr => ∃ k : Nat, k ≤ 10 ∧ i = .int .i64 (k : Int) ∧ p = .int .i64 ((pt k : Nat) : Int) ∧ RP s w wr k) (fun _ i _ => 10 - (intOf i).toNat)
  case atStart => exact ⟨0, by decide, rfl, rfl, Blk.new _ _ _, (Below.refl _ _).alloc (Nat.le_refl _) _, fun j hj => absurd hj (by omega)⟩
  case round =>
    obtain ⟨k, hk, rfl, rfl, hR⟩ := hrel
    have HB := Lib.hid hR.below
    have HG := Lib.hid hR.ok
    have hK := hR.blk
    have hl := hK.lt
    by_cases hk0 : k = 0
    case pos =>
      subst hk0
      have hix := fun w => ix_at s 0 (by omega) (i := 0) rfl w
      have hpt : ((pt 0 : Nat) : Int) = 0 := rfl
      have HK := Lib.hid hK
      have HS : Hid (nv s 0 (0 + 1) = nv s 0 0 * 10 + (byt s 0 - 48)) := Lib.hid rfl
      have hbd : 0 ≤ nv s 0 0 ∧ nv s 0 0 < 10 ^ 0 := nv_bd (fun j hj => by have := HG.out (0 + j) (by omega); unfold good at this; rw [if_neg (by omega)] at this; exact this)
      have hb1 : nv s 0 0 ≤ 1000 := by have := hbd.2; omega
      have hb0 := hbd.1
      clear hbd hK hR
      generalize hc : byt s 0 = c at *
      replace HK : Hid (Blk wr w.heap.size 3 #[.int .i64 (nv s 0 0), .int .i64 (nv s 5 0), .int .i64 (nv s 8 0)]) := Lib.hid HK.out
      generalize nv s 0 0 = v at *
      by_cases d0 : 48 ≤ c
      case neg =>
        clear hc
        go_wp2
        go_ret2
        exact ⟨rfl, HB.out⟩
      by_cases d1 : c ≤ 57
      case neg =>
        clear hc
        go_wp2
        go_ret2
        exact ⟨rfl, HB.out⟩
      case pos =>
        have HG2 := Lib.hid (RP.snoc HG.out (by unfold good dgAt; rw [if_neg (by decide), hc]; exact ⟨d0, d1⟩))
        clear hc
        go_wp2_with fail
        have q : wr.cell? ⟨w.heap.size, 0, none⟩ = some (.int .i64 v) := HK.out.cell 0
        go_still_tail 14, (by kernel_rfl)
        change wpList _ _ _ _ _ wr.drew
        have HK2 : Hid (Blk wr.drew w.heap.size 3 _) := Lib.hid HK.out.drew
        have HB2 : Hid (Below w.heap.size w wr.drew) := Lib.hid HB.out.drew
        have hl2 : w.heap.size < wr.drew.heap.size := hl
        clear q HB HK hl
        generalize wr.drew = w2 at *
        have q := HK2.out.frozen 0
        have q2 : w2.cell? ⟨w.heap.size, 0, none⟩ = some (.int .i64 v) := HK2.out.cell 0
        go_wp2
        go_round
        case rel => exact ⟨1, by decide, rfl, rfl, by rw [← HS.out] ; exact HK2.out.set_ 0 _, HB2.out.setCell (Nat.le_refl _) _, HG2.out⟩
        case measure => simp [intOf]
    by_cases hk1 : k = 1
    case pos =>
      subst hk1
      have hix := fun w => ix_at s 1 (by omega) (i := 1) rfl w
      have hpt : ((pt 1 : Nat) : Int) = 0 := rfl
      have HK := Lib.hid hK
      have HS : Hid (nv s 0 (1 + 1) = nv s 0 1 * 10 + (byt s 1 - 48)) := Lib.hid rfl
      have hbd : 0 ≤ nv s 0 1 ∧ nv s 0 1 < 10 ^ 1 := nv_bd (fun j hj => by have := HG.out (0 + j) (by omega); unfold good at this; rw [if_neg (by omega)] at this; exact this)
      have hb1 : nv s 0 1 ≤ 1000 := by have := hbd.2; omega
      have hb0 := hbd.1
      clear hbd hK hR
      generalize hc : byt s 1 = c at *
      replace HK : Hid (Blk wr w.heap.size 3 #[.int .i64 (nv s 0 1), .int .i64 (nv s 5 0), .int .i64 (nv s 8 0)]) := Lib.hid HK.out
      generalize nv s 0 1 = v at *
      by_cases d0 : 48 ≤ c
      case neg =>
        clear hc
        go_wp2
        go_ret2
        exact ⟨rfl, HB.out⟩
      by_cases d1 : c ≤ 57
      case neg =>
        clear hc
        go_wp2
        go_ret2
        exact ⟨rfl, HB.out⟩
      case pos =>
        have HG2 := Lib.hid (RP.snoc HG.out (by unfold good dgAt; rw [if_neg (by decide), hc]; exact ⟨d0, d1⟩))
        clear hc
        go_wp2_with fail
        have q : wr.cell? ⟨w.heap.size, 0, none⟩ = some (.int .i64 v) := HK.out.cell 0
        go_still_tail 14, (by kernel_rfl)
        change wpList _ _ _ _ _ wr.drew
        have HK2 : Hid (Blk wr.drew w.heap.size 3 _) := Lib.hid HK.out.drew
        have HB2 : Hid (Below w.heap.size w wr.drew) := Lib.hid HB.out.drew
        have hl2 : w.heap.size < wr.drew.heap.size := hl
        clear q HB HK hl
        generalize wr.drew = w2 at *
        have q := HK2.out.frozen 0
        have q2 : w2.cell? ⟨w.heap.size, 0, none⟩ = some (.int .i64 v) := HK2.out.cell 0
        go_wp2
        go_round
        case rel => exact ⟨2, by decide, rfl, rfl, by rw [← HS.out] ; exact HK2.out.set_ 0 _, HB2.out.setCell (Nat.le_refl _) _, HG2.out⟩
        case measure => simp [intOf]
    by_cases hk2 : k = 2
    case pos =>
      subst hk2
      have hix := fun w => ix_at s 2 (by omega) (i := 2) rfl w
      have hpt : ((pt 2 : Nat) : Int) = 0 := rfl
      have HK := Lib.hid hK
      have HS : Hid (nv s 0 (2 + 1) = nv s 0 2 * 10 + (byt s 2 - 48)) := Lib.hid rfl
      have hbd : 0 ≤ nv s 0 2 ∧ nv s 0 2 < 10 ^ 2 := nv_bd (fun j hj => by have := HG.out (0 + j) (by omega); unfold good at this; rw [if_neg (by omega)] at this; exact this)
      have hb1 : nv s 0 2 ≤ 1000 := by have := hbd.2; omega
      have hb0 := hbd.1
      clear hbd hK hR
      generalize hc : byt s 2 = c at *
      replace HK : Hid (Blk wr w.heap.size 3 #[.int .i64 (nv s 0 2), .int .i64 (nv s 5 0), .int .i64 (nv s 8 0)]) := Lib.hid HK.out
      generalize nv s 0 2 = v at *
      by_cases d0 : 48 ≤ c
      case neg =>
        clear hc
        go_wp2
        go_ret2
        exact ⟨rfl, HB.out⟩
      by_cases d1 : c ≤ 57
      case neg =>
        clear hc
        go_wp2
        go_ret2
        exact ⟨rfl, HB.out⟩
      case pos =>
        have HG2 := Lib.hid (RP.snoc HG.out (by unfold good dgAt; rw [if_neg (by decide), hc]; exact ⟨d0, d1⟩))
        clear hc
        go_wp2_with fail
        have q : wr.cell? ⟨w.heap.size, 0, none⟩ = some (.int .i64 v) := HK.out.cell 0
        go_still_tail 14, (by kernel_rfl)
        change wpList _ _ _ _ _ wr.drew
        have HK2 : Hid (Blk wr.drew w.heap.size 3 _) := Lib.hid HK.out.drew
        have HB2 : Hid (Below w.heap.size w wr.drew) := Lib.hid HB.out.drew
        have hl2 : w.heap.size < wr.drew.heap.size := hl
        clear q HB HK hl
        generalize wr.drew = w2 at *
        have q := HK2.out.frozen 0
        have q2 : w2.cell? ⟨w.heap.size, 0, none⟩ = some (.int .i64 v) := HK2.out.cell 0
        go_wp2
        go_round
        case rel => exact ⟨3, by decide, rfl, rfl, by rw [← HS.out] ; exact HK2.out.set_ 0 _, HB2.out.setCell (Nat.le_refl _) _, HG2.out⟩
        case measure => simp [intOf]
    by_cases hk3 : k = 3
    case pos =>
      subst hk3
      have hix := fun w => ix_at s 3 (by omega) (i := 3) rfl w
      have hpt : ((pt 3 : Nat) : Int) = 0 := rfl
      have HK := Lib.hid hK
      have HS : Hid (nv s 0 (3 + 1) = nv s 0 3 * 10 + (byt s 3 - 48)) := Lib.hid rfl
      have hbd : 0 ≤ nv s 0 3 ∧ nv s 0 3 < 10 ^ 3 := nv_bd (fun j hj => by have := HG.out (0 + j) (by omega); unfold good at this; rw [if_neg (by omega)] at this; exact this)
      have hb1 : nv s 0 3 ≤ 1000 := by have := hbd.2; omega
      have hb0 := hbd.1
      clear hbd hK hR
      generalize hc : byt s 3 = c at *
      replace HK : Hid (Blk wr w.heap.size 3 #[.int .i64 (nv s 0 3), .int .i64 (nv s 5 0), .int .i64 (nv s 8 0)]) := Lib.hid HK.out
      generalize nv s 0 3 = v at *
      by_cases d0 : 48 ≤ c
      case neg =>
        clear hc
        go_wp2
        go_ret2
        exact ⟨rfl, HB.out⟩
      by_cases d1 : c ≤ 57
      case neg =>
        clear hc
        go_wp2
        go_ret2
        exact ⟨rfl, HB.out⟩
      case pos =>
        have HG2 := Lib.hid (RP.snoc HG.out (by unfold good dgAt; rw [if_neg (by decide), hc]; exact ⟨d0, d1⟩))
        clear hc
        go_wp2_with fail
        have q : wr.cell? ⟨w.heap.size, 0, none⟩ = some (.int .i64 v) := HK.out.cell 0
        go_still_tail 14, (by kernel_rfl)
        change wpList _ _ _ _ _ wr.drew
        have HK2 : Hid (Blk wr.drew w.heap.size 3 _) := Lib.hid HK.out.drew
        have HB2 : Hid (Below w.heap.size w wr.drew) := Lib.hid HB.out.drew
        have hl2 : w.heap.size < wr.drew.heap.size := hl
        clear q HB HK hl
        generalize wr.drew = w2 at *
        have q := HK2.out.frozen 0
        have q2 : w2.cell? ⟨w.heap.size, 0, none⟩ = some (.int .i64 v) := HK2.out.cell 0
        go_wp2
        go_round
        case rel => exact ⟨4, by decide, rfl, rfl, by rw [← HS.out] ; exact HK2.out.set_ 0 _, HB2.out.setCell (Nat.le_refl _) _, HG2.out⟩
        case measure => simp [intOf]
    by_cases hk4 : k = 4
    case pos =>
      subst hk4
      have hix := fun w => ix_at s 4 (by omega) (i := 4) rfl w
      have hpt : ((pt 4 : Nat) : Int) = 0 := rfl
      have HK := Lib.hid hK
      clear hK hR
      generalize hc : byt s 4 = c at *
      by_cases hg : c = 45
      · have HG2 := Lib.hid (RP.snoc HG.out (by unfold good; simpa using (hc.trans hg)))
        have e1 : (c != 45) = false := by simp [hg]
        clear hg hc
        go_wp2
        go_round
        case rel => exact ⟨5, by decide, rfl, rfl, HK.out, HB.out, HG2.out⟩
        case measure => simp [intOf]
      · have e1 : (c != 45) = true := by simp [hg]
        clear hg hc
        go_wp2
        go_ret2
        exact ⟨rfl, HB.out⟩
    by_cases hk5 : k = 5
    case pos =>
      subst hk5
      have hix := fun w => ix_at s 5 (by omega) (i := 5) rfl w
      have hpt : ((pt 5 : Nat) : Int) = 1 := rfl
      have HK := Lib.hid hK
      have HS : Hid (nv s 5 (0 + 1) = nv s 5 0 * 10 + (byt s 5 - 48)) := Lib.hid rfl
      have hbd : 0 ≤ nv s 5 0 ∧ nv s 5 0 < 10 ^ 0 := nv_bd (fun j hj => by have := HG.out (5 + j) (by omega); unfold good at this; rw [if_neg (by omega)] at this; exact this)
      have hb1 : nv s 5 0 ≤ 1000 := by have := hbd.2; omega
      have hb0 := hbd.1
      clear hbd hK hR
      generalize hc : byt s 5 = c at *
      replace HK : Hid (Blk wr w.heap.size 3 #[.int .i64 (nv s 0 4), .int .i64 (nv s 5 0), .int .i64 (nv s 8 0)]) := Lib.hid HK.out
      generalize nv s 5 0 = v at *
      by_cases d0 : 48 ≤ c
      case neg =>
        clear hc
        go_wp2
        go_ret2
        exact ⟨rfl, HB.out⟩
      by_cases d1 : c ≤ 57
      case neg =>
        clear hc
        go_wp2
        go_ret2
        exact ⟨rfl, HB.out⟩
      case pos =>
        have HG2 := Lib.hid (RP.snoc HG.out (by unfold good dgAt; rw [if_neg (by decide), hc]; exact ⟨d0, d1⟩))
        clear hc
        go_wp2_with fail
        have q : wr.cell? ⟨w.heap.size, 1, none⟩ = some (.int .i64 v) := HK.out.cell 1
        go_still_tail 14, (by kernel_rfl)
        change wpList _ _ _ _ _ wr.drew
        have HK2 : Hid (Blk wr.drew w.heap.size 3 _) := Lib.hid HK.out.drew
        have HB2 : Hid (Below w.heap.size w wr.drew) := Lib.hid HB.out.drew
        have hl2 : w.heap.size < wr.drew.heap.size := hl
        clear q HB HK hl
        generalize wr.drew = w2 at *
        have q := HK2.out.frozen 1
        have q2 : w2.cell? ⟨w.heap.size, 1, none⟩ = some (.int .i64 v) := HK2.out.cell 1
        go_wp2
        go_round
        case rel => exact ⟨6, by decide, rfl, rfl, by rw [← HS.out] ; exact HK2.out.set_ 1 _, HB2.out.setCell (Nat.le_refl _) _, HG2.out⟩
        case measure => simp [intOf]
    by_cases hk6 : k = 6
    case pos =>
      subst hk6
      have hix := fun w => ix_at s 6 (by omega) (i := 6) rfl w
      have hpt : ((pt 6 : Nat) : Int) = 1 := rfl
      have HK := Lib.hid hK
      have HS : Hid (nv s 5 (1 + 1) = nv s 5 1 * 10 + (byt s 6 - 48)) := Lib.hid rfl
      have hbd : 0 ≤ nv s 5 1 ∧ nv s 5 1 < 10 ^ 1 := nv_bd (fun j hj => by have := HG.out (5 + j) (by omega); unfold good at this; rw [if_neg (by omega)] at this; exact this)
      have hb1 : nv s 5 1 ≤ 1000 := by have := hbd.2; omega
      have hb0 := hbd.1
      clear hbd hK hR
      generalize hc : byt s 6 = c at *
      replace HK : Hid (Blk wr w.heap.size 3 #[.int .i64 (nv s 0 4), .int .i64 (nv s 5 1), .int .i64 (nv s 8 0)]) := Lib.hid HK.out
      generalize nv s 5 1 = v at *
      by_cases d0 : 48 ≤ c
      case neg =>
        clear hc
        go_wp2
        go_ret2
        exact ⟨rfl, HB.out⟩
      by_cases d1 : c ≤ 57
      case neg =>
        clear hc
        go_wp2
        go_ret2
        exact ⟨rfl, HB.out⟩
      case pos =>
        have HG2 := Lib.hid (RP.snoc HG.out (by unfold good dgAt; rw [if_neg (by decide), hc]; exact ⟨d0, d1⟩))
        clear hc
        go_wp2_with fail
        have q : wr.cell? ⟨w.heap.size, 1, none⟩ = some (.int .i64 v) := HK.out.cell 1
        go_still_tail 14, (by kernel_rfl)
        change wpList _ _ _ _ _ wr.drew
        have HK2 : Hid (Blk wr.drew w.heap.size 3 _) := Lib.hid HK.out.drew
        have HB2 : Hid (Below w.heap.size w wr.drew) := Lib.hid HB.out.drew
        have hl2 : w.heap.size < wr.drew.heap.size := hl
        clear q HB HK hl
        generalize wr.drew = w2 at *
        have q := HK2.out.frozen 1
        have q2 : w2.cell? ⟨w.heap.size, 1, none⟩ = some (.int .i64 v) := HK2.out.cell 1
        go_wp2
        go_round
        case rel => exact ⟨7, by decide, rfl, rfl, by rw [← HS.out] ; exact HK2.out.set_ 1 _, HB2.out.setCell (Nat.le_refl _) _, HG2.out⟩
        case measure => simp [intOf]
    by_cases hk7 : k = 7
    case pos =>
      subst hk7
      have hix := fun w => ix_at s 7 (by omega) (i := 7) rfl w
      have hpt : ((pt 7 : Nat) : Int) = 1 := rfl
      have HK := Lib.hid hK
      clear hK hR
      generalize hc : byt s 7 = c at *
      by_cases hg : c = 45
      · have HG2 := Lib.hid (RP.snoc HG.out (by unfold good; simpa using (hc.trans hg)))
        have e1 : (c != 45) = false := by simp [hg]
        clear hg hc
        go_wp2
        go_round
        case rel => exact ⟨8, by decide, rfl, rfl, HK.out, HB.out, HG2.out⟩
        case measure => simp [intOf]
      · have e1 : (c != 45) = true := by simp [hg]
        clear hg hc
        go_wp2
        go_ret2
        exact ⟨rfl, HB.out⟩
    by_cases hk8 : k = 8
    case pos =>
      subst hk8
      have hix := fun w => ix_at s 8 (by omega) (i := 8) rfl w
      have hpt : ((pt 8 : Nat) : Int) = 2 := rfl
      have HK := Lib.hid hK
      have HS : Hid (nv s 8 (0 + 1) = nv s 8 0 * 10 + (byt s 8 - 48)) := Lib.hid rfl
      have hbd : 0 ≤ nv s 8 0 ∧ nv s 8 0 < 10 ^ 0 := nv_bd (fun j hj => by have := HG.out (8 + j) (by omega); unfold good at this; rw [if_neg (by omega)] at this; exact this)
      have hb1 : nv s 8 0 ≤ 1000 := by have := hbd.2; omega
      have hb0 := hbd.1
      clear hbd hK hR
      generalize hc : byt s 8 = c at *
      replace HK : Hid (Blk wr w.heap.size 3 #[.int .i64 (nv s 0 4), .int .i64 (nv s 5 2), .int .i64 (nv s 8 0)]) := Lib.hid HK.out
      generalize nv s 8 0 = v at *
      by_cases d0 : 48 ≤ c
      case neg =>
        clear hc
        go_wp2
        go_ret2
        exact ⟨rfl, HB.out⟩
      by_cases d1 : c ≤ 57
      case neg =>
        clear hc
        go_wp2
        go_ret2
        exact ⟨rfl, HB.out⟩
      case pos =>
        have HG2 := Lib.hid (RP.snoc HG.out (by unfold good dgAt; rw [if_neg (by decide), hc]; exact ⟨d0, d1⟩))
        clear hc
        go_wp2_with fail
        have q : wr.cell? ⟨w.heap.size, 2, none⟩ = some (.int .i64 v) := HK.out.cell 2
        go_still_tail 14, (by kernel_rfl)
        change wpList _ _ _ _ _ wr.drew
        have HK2 : Hid (Blk wr.drew w.heap.size 3 _) := Lib.hid HK.out.drew
        have HB2 : Hid (Below w.heap.size w wr.drew) := Lib.hid HB.out.drew
        have hl2 : w.heap.size < wr.drew.heap.size := hl
        clear q HB HK hl
        generalize wr.drew = w2 at *
        have q := HK2.out.frozen 2
        have q2 : w2.cell? ⟨w.heap.size, 2, none⟩ = some (.int .i64 v) := HK2.out.cell 2
        go_wp2
        go_round
        case rel => exact ⟨9, by decide, rfl, rfl, by rw [← HS.out] ; exact HK2.out.set_ 2 _, HB2.out.setCell (Nat.le_refl _) _, HG2.out⟩
        case measure => simp [intOf]
    by_cases hk9 : k = 9
    case pos =>
      subst hk9
      have hix := fun w => ix_at s 9 (by omega) (i := 9) rfl w
      have hpt : ((pt 9 : Nat) : Int) = 2 := rfl
      have HK := Lib.hid hK
      have HS : Hid (nv s 8 (1 + 1) = nv s 8 1 * 10 + (byt s 9 - 48)) := Lib.hid rfl
      have hbd : 0 ≤ nv s 8 1 ∧ nv s 8 1 < 10 ^ 1 := nv_bd (fun j hj => by have := HG.out (8 + j) (by omega); unfold good at this; rw [if_neg (by omega)] at this; exact this)
      have hb1 : nv s 8 1 ≤ 1000 := by have := hbd.2; omega
      have hb0 := hbd.1
      clear hbd hK hR
      generalize hc : byt s 9 = c at *
      replace HK : Hid (Blk wr w.heap.size 3 #[.int .i64 (nv s 0 4), .int .i64 (nv s 5 2), .int .i64 (nv s 8 1)]) := Lib.hid HK.out
      generalize nv s 8 1 = v at *
      by_cases d0 : 48 ≤ c
      case neg =>
        clear hc
        go_wp2
        go_ret2
        exact ⟨rfl, HB.out⟩
      by_cases d1 : c ≤ 57
      case neg =>
        clear hc
        go_wp2
        go_ret2
        exact ⟨rfl, HB.out⟩
      case pos =>
        have HG2 := Lib.hid (RP.snoc HG.out (by unfold good dgAt; rw [if_neg (by decide), hc]; exact ⟨d0, d1⟩))
        clear hc
        go_wp2_with fail
        have q : wr.cell? ⟨w.heap.size, 2, none⟩ = some (.int .i64 v) := HK.out.cell 2
        go_still_tail 14, (by kernel_rfl)
        change wpList _ _ _ _ _ wr.drew
        have HK2 : Hid (Blk wr.drew w.heap.size 3 _) := Lib.hid HK.out.drew
        have HB2 : Hid (Below w.heap.size w wr.drew) := Lib.hid HB.out.drew
        have hl2 : w.heap.size < wr.drew.heap.size := hl
        clear q HB HK hl
        generalize wr.drew = w2 at *
        have q := HK2.out.frozen 2
        have q2 : w2.cell? ⟨w.heap.size, 2, none⟩ = some (.int .i64 v) := HK2.out.cell 2
        go_wp2
        go_round
        case rel => exact ⟨10, by decide, rfl, rfl, by rw [← HS.out] ; exact HK2.out.set_ 2 _, HB2.out.setCell (Nat.le_refl _) _, HG2.out⟩
        case measure => simp [intOf]
    obtain rfl : k = 10 := by omega
    exact absurd (isT_of hs HG.out) HN.out
end Go.Proofs.YtaagifggeafgnaaDoor
