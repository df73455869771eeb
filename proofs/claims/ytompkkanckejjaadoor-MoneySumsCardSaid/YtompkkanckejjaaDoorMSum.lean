/-
  CONTRACTS of amounts: lists of amounts, sums: the program's and the specification's.
-/
import Derived.Test.YtompkkanckejjaaDoorM7
import Derived.StillTailTactics
import Derived.Deep.RegionWith

namespace Go.Proofs.YtompkkanckejjaaDoor
open Go.RowKit
set_option linter.unusedVariables false
set_option linter.unusedSimpArgs false
theorem Blk.push {w : World} {g : Nat} {t : TypeId} {cs : Array Value} (h : Blk w g t cs) (l : List Obj) : Blk (push w l) g t cs := h.below ((Pushed.refl w).push l).below h.lt
theorem bel_push {w w' : World} (h : Below w.heap.size w w') (l : List Obj) : Below w.heap.size w (push w' l) := h.trans (((Pushed.refl w').push l).below.mono h.size)
structure MR where
  m : Int
  c : ByteArray
theorem ad_block (a : Addr) (n : Nat) : (a.add n).block = a.block := by unfold Addr.add; split <;> rfl
/-- A slice holds these amounts. -/
def Mts (w : World) (B : Nat) (A : Option Addr) (n : Nat) (L : List MR) : Prop :=
  L.length = n ∧ (0 < n → ∃ ad, A = some ad ∧ ad.block < B ∧ ∀ k r, L[k]? = some r → w.cell? (ad.add (k * 2)) = some (.int .i64 r.m) ∧ w.cell? ((ad.add (k * 2)).add 1) = some (.string r.c))
theorem Mts.below {w w' : World} {B n : Nat} {A : Option Addr} {L : List MR} (h : Mts w B A n L) (hb : Below B w w') : Mts w' B A n L :=
  ⟨h.1, fun hn => by
    obtain ⟨ad, e, hbl, hc⟩ := h.2 hn
    refine ⟨ad, e, hbl, fun k r hr => ?_⟩
    obtain ⟨c0, c1⟩ := hc k r hr
    refine ⟨?_, ?_⟩ <;> (rw [hb.cell (by simp only [ad_block]; exact hbl)]; assumption)⟩
theorem Mts.at {w : World} {B n : Nat} {A : Option Addr} {L : List MR} (h : Mts w B A n L) {k : Nat} (hk : k < n) :
    ∃ ad r p, A = some ad ∧ L[k]? = some r ∧ ad.add (k * 2) = p ∧ p.block < B ∧ w.cell? p = some (.int .i64 r.m) ∧ w.cell? ⟨p.block, p.off + 1, none⟩ = some (.string r.c) := by
  obtain ⟨ad, e, hb, hc⟩ := h.2 (by omega)
  have hl : k < L.length := by have := h.1; omega
  obtain ⟨c0, c1⟩ := hc k L[k] (List.getElem?_eq_getElem hl)
  exact ⟨ad, L[k], _, e, List.getElem?_eq_getElem hl, rfl, by rw [ad_block]; exact hb, c0, c1⟩
def okM (L : List MR) : Prop := ∀ r ∈ L, r.c.size ≤ 9223372036854775807
/-- The sum of amounts onto one, or the first error. -/
def sumG (c : ByteArray) : Int → List MR → Int × ByteArray × Int
  | acc, [] => (acc, c, 0)
  | acc, r :: l => if pairR acc c r.m r.c = 0 then (if -4503599627370496 ≤ acc + r.m ∧ acc + r.m ≤ 4503599627370496 then sumG c (acc + r.m) l else (0, ⟨#[]⟩, 4)) else (0, ⟨#[]⟩, pairR acc c r.m r.c)
theorem drop_at {L : List MR} {k : Nat} {r : MR} (h : L[k]? = some r) : L.drop k = r :: L.drop (k + 1) := by
  have hl : k < L.length := by
    rcases Nat.lt_or_ge k L.length with hl | hl
    · exact hl
    · rw [List.getElem?_eq_none hl] at h; cases h
  rw [List.drop_eq_getElem_cons hl]
  rw [List.getElem?_eq_getElem hl] at h
  cases h
  rfl
theorem pair_ok {a : Int} {c : ByteArray} {b : Int} {d : ByteArray} (h : pairR a c b d = 0) : curP c ∧ -4503599627370496 ≤ a ∧ a ≤ 4503599627370496 ∧ -4503599627370496 ≤ b ∧ b ≤ 4503599627370496 := by
  unfold pairR at h
  split at h
  · rename_i h1
    split at h
    · rename_i h2
      obtain ⟨x, y, z⟩ := mchk_curP h1
      obtain ⟨x', y', z'⟩ := mchk_curP h2
      exact ⟨x, y, z, y', z'⟩
    · rename_i h2; exact absurd h h2
  · rename_i h1; exact absurd h h1
def sumR (c : ByteArray) (L : List MR) : Int × ByteArray × Int := if curP c then sumG c 0 L else (0, ⟨#[]⟩, 11)
theorem mchk0 {c : ByteArray} (h : curP c) : mchkR 0 c = 0 := mchk_fit h (by omega)
theorem mchk0n {c : ByteArray} (h : ¬ curP c) : mchkR 0 c = 11 := by rw [mchkR, if_neg h]
set_option maxRecDepth 20000 in
set_option maxHeartbeats 12800000 in
theorem sum_any (c : ByteArray) (hc : c.size ≤ 9223372036854775807) (A : Option Addr) (n cap : Nat) (L : List MR) (w : World) (hS : Mts w w.heap.size A n L) (hn : n ≤ 1000) (hcap : n ≤ cap) (hL : okM L) {y : Int} {u : ByteArray} {e : Int} (H : Hid (sumR c L = (y, u, e))) :
    Calls Tryd.prog 25 #[.string c, .slice A n cap] w fun x w' => x = .returned (.tuple #[.agg #[.int .i64 y, .string u], .int .i64 e]) ∧ Below w.heap.size w w' := by
  have HS := Lib.hid hS
  have HL := Lib.hid hL
  clear hL
  have hR0 : Blk ((w.alloc (.cells #[.int .i64 0, .string ⟨#[]⟩] 23)).alloc (.cells #[.int .i64 0, .string c] 23)) w.heap.size 23 #[.int .i64 0, .string ⟨#[]⟩] := (Blk.new _ _ _).alloc _
  have hS0 : Blk ((w.alloc (.cells #[.int .i64 0, .string ⟨#[]⟩] 23)).alloc (.cells #[.int .i64 0, .string c] 23)) (w.heap.size + 1) 23 #[.int .i64 0, .string c] := by
    have h := Blk.new (w.alloc (.cells #[.int .i64 0, .string ⟨#[]⟩] 23)) 23 #[.int .i64 0, .string c]
    rw [World.size_alloc] at h
    exact h
  have hB0 : Below w.heap.size w ((w.alloc (.cells #[.int .i64 0, .string ⟨#[]⟩] 23)).alloc (.cells #[.int .i64 0, .string c] 23)) := bel_alloc (bel_alloc (Below.refl _ _) _) _
  by_cases hcur : curP c
  case neg =>
    obtain ⟨rfl, rfl, rfl⟩ : 0 = y ∧ (⟨#[]⟩ : ByteArray) = u ∧ 11 = e := by
      have := H.out
      rw [sumR, if_neg hcur] at this
      simpa using this
    have CK := Lib.hid (fun w => mchk_any 0 c hc (Lib.hid (mchk0n hcur)) w)
    clear H hcur hc hS
    go_enter Tryd.func25, Tryd.ntmps25
    go_wp2_with fail
    with_reducible refine (CK.out _).mono ?_
    rintro z w1 ⟨rfl, l1, n1, rfl⟩
    go_wp2
    exact bodyPost_ret (v := .tuple #[.agg #[.int .i64 0, .string ⟨#[]⟩], .int .i64 11]) (by simp [results, Tryd.results25, go_sem]) rfl ⟨rfl, Pushed.below (by repeat (first | with_reducible exact Pushed.refl _ | with_reducible assumption | with_reducible refine Pushed.push ?_ _ | with_reducible refine Pushed.alloc ?_ _ | with_reducible refine Pushed.drewN ?_ _ | with_reducible refine Pushed.drew ?_))⟩
  have HG : Hid (sumG c 0 L = (y, u, e)) := Lib.hid (by rw [← H.out, sumR, if_pos hcur])
  have CK := Lib.hid (fun w => mchk_any 0 c hc (Lib.hid (mchk0 hcur)) w)
  clear H hcur
  have HC := Lib.hid hc
  clear hc hS
  go_enter Tryd.func25, Tryd.ntmps25
  go_wp2_with fail
  with_reducible refine (CK.out _).mono ?_
  rintro z w1 ⟨rfl, h1⟩
  have HR1 := Lib.hid (hR0.below h1.below hR0.lt)
  have HS1 := Lib.hid (hS0.below h1.below hS0.lt)
  have HB1 := Lib.hid (hB0.trans (h1.below.mono hB0.size))
  clear hR0 hS0 hB0 h1
  go_wp2
  go_loopw [22] (fun i wr => ∃ (k : Nat) (acc : Int), k ≤ n ∧ i = .int .i64 (k : Int) ∧ Hid (sumG c acc (L.drop k) = (y, u, e)) ∧ Blk wr w.heap.size 23 #[.int .i64 0, .string ⟨#[]⟩] ∧ Blk wr (w.heap.size + 1) 23 #[.int .i64 acc, .string c] ∧ Below w.heap.size w wr) (fun i _ => n - (intOf i).toNat)
  case atStart => exact ⟨0, 0, Nat.zero_le _, rfl, HG, HR1.out, HS1.out, HB1.out⟩
  case round =>
    clear HG HR1 HS1 HB1 CK
    obtain ⟨k, acc, hk, rfl, HG, hR, hSm, hB⟩ := hrel
    have HR := Lib.hid hR
    have HSm := Lib.hid hSm
    have HB := Lib.hid hB
    by_cases hlt : k < n
    case neg =>
      obtain rfl : k = n := by omega
      obtain ⟨rfl, rfl, rfl⟩ : acc = y ∧ c = u ∧ 0 = e := by
        have := HG.out
        rw [List.drop_eq_nil_of_le (by rw [HS.out.1]; exact Nat.le_refl _)] at this
        simpa [sumG] using this
      have a0 := hSm.cell 0
      have a1 := hSm.cell 1
      have al := hSm.lt
      have r0 := hR.cell 0
      have r1 := hR.cell 1
      have rf0 := hR.frozen 0
      have rf1 := hR.frozen 1
      have rl := hR.lt
      clear hR hSm hB HG
      go_wp2
      have hF : Blk ((wr.setCell ⟨w.heap.size, 0, none⟩ (.int .i64 acc)).setCell ⟨w.heap.size, 1, none⟩ (.string c)) w.heap.size 23 #[.int .i64 acc, .string c] := (HR.out.set_ 0 _).set_ 1 _
      have f0 := hF.cell 0
      have f1 := hF.cell 1
      exact bodyPost_ret (v := .tuple #[.agg #[.int .i64 acc, .string c], .int .i64 0]) (by simp [results, Tryd.results25, go_sem, f0, f1]) rfl ⟨rfl, (HB.out.setCell (Nat.le_refl _) _).setCell (Nat.le_refl _) _⟩
    obtain ⟨ad, x, p, rfl, hx, hp, hpb, c0, c1⟩ := Mts.at (Mts.below HS.out hB) hlt
    have HX := Lib.hid hx
    have hpl : p.block < wr.heap.size := Nat.lt_of_lt_of_le hpb hB.size
    have hpn0 : ¬ p.block = wr.heap.size := by omega
    have HXC := Lib.hid (HL.out _ (List.mem_of_getElem? hx))
    have a0 := hSm.cell 0
    have a1 := hSm.cell 1
    have al := hSm.lt
    have HG2 : Hid (sumG c acc (x :: L.drop (k + 1)) = (y, u, e)) := Lib.hid (by rw [← drop_at HX.out]; exact HG.out)
    clear hR hSm hB HG hx
    by_cases g0 : pairR acc c x.m x.c = 0
    case neg =>
      obtain ⟨rfl, rfl, he⟩ : 0 = y ∧ (⟨#[]⟩ : ByteArray) = u ∧ pairR acc c x.m x.c = e := by
        have := HG2.out
        rw [sumG, if_neg g0] at this
        simpa using this
      have AD0 := Lib.hid (fun w => add_e acc c x.m x.c HC.out HXC.out (Lib.hid he) (ne_b (he ▸ g0)) w)
      have g1 := ne_b (he ▸ g0)
      clear HG2 g0 he
      go_wp2_with fail
      with_reducible refine (AD0.out _).mono ?_
      rintro z w2 ⟨rfl, h2⟩
      have hb2 : Below wr.heap.size wr w2 := (bel_alloc (Below.refl _ _) _).trans (h2.below.mono (by simp))
      have HR2 := Lib.hid (HR.out.below hb2 HR.out.lt)
      have HS2 := Lib.hid (HSm.out.below hb2 HSm.out.lt)
      have HB2 := Lib.hid (HB.out.trans (hb2.mono HB.out.size))
      clear h2 hb2 a0 a1 al c0 c1 hpl hpn0
      have r0 := HR2.out.cell 0
      have r1 := HR2.out.cell 1
      have rf0 := HR2.out.frozen 0
      have rf1 := HR2.out.frozen 1
      have rl := HR2.out.lt
      have rl2 : ¬ w.heap.size = w2.heap.size := by omega
      go_wp2
      have hF : Blk ((w2.setCell ⟨w.heap.size, 0, none⟩ (.int .i64 0)).setCell ⟨w.heap.size, 1, none⟩ (.string ⟨#[]⟩)) w.heap.size 23 #[.int .i64 0, .string ⟨#[]⟩] := (HR2.out.set_ 0 _).set_ 1 _
      have hG := hF.alloc (.cells #[.int .i64 0, .string ⟨#[]⟩] 23)
      have f0 := hG.cell 0
      have f1 := hG.cell 1
      exact bodyPost_ret (v := .tuple #[.agg #[.int .i64 0, .string ⟨#[]⟩], .int .i64 e]) (by simp [results, Tryd.results25, go_sem, f0, f1]) rfl ⟨rfl, bel_alloc ((HB2.out.setCell (Nat.le_refl _) _).setCell (Nat.le_refl _) _) _⟩
    have G0 := Lib.hid g0
    have hb := pair_ok g0
    clear g0
    by_cases gs : -4503599627370496 ≤ acc + x.m ∧ acc + x.m ≤ 4503599627370496
    case neg =>
      obtain ⟨rfl, rfl, rfl⟩ : 0 = y ∧ (⟨#[]⟩ : ByteArray) = u ∧ 4 = e := by
        have := HG2.out
        rw [sumG, if_pos G0.out, if_neg gs] at this
        simpa using this
      have AD0 := Lib.hid (fun w => add_big acc c x.m x.c HC.out HXC.out hb G0 gs w)
      clear HG2 gs hb
      go_wp2_with fail
      with_reducible refine (AD0.out _).mono ?_
      rintro z w2 ⟨rfl, h2⟩
      have hb2 : Below wr.heap.size wr w2 := (bel_alloc (Below.refl _ _) _).trans (h2.below.mono (by simp))
      have HR2 := Lib.hid (HR.out.below hb2 HR.out.lt)
      have HS2 := Lib.hid (HSm.out.below hb2 HSm.out.lt)
      have HB2 := Lib.hid (HB.out.trans (hb2.mono HB.out.size))
      clear h2 hb2 a0 a1 al c0 c1 hpl hpn0
      have r0 := HR2.out.cell 0
      have r1 := HR2.out.cell 1
      have rf0 := HR2.out.frozen 0
      have rf1 := HR2.out.frozen 1
      have rl := HR2.out.lt
      have rl2 : ¬ w.heap.size = w2.heap.size := by omega
      go_wp2
      have hF : Blk ((w2.setCell ⟨w.heap.size, 0, none⟩ (.int .i64 0)).setCell ⟨w.heap.size, 1, none⟩ (.string ⟨#[]⟩)) w.heap.size 23 #[.int .i64 0, .string ⟨#[]⟩] := (HR2.out.set_ 0 _).set_ 1 _
      have hG := hF.alloc (.cells #[.int .i64 0, .string ⟨#[]⟩] 23)
      have f0 := hG.cell 0
      have f1 := hG.cell 1
      exact bodyPost_ret (v := .tuple #[.agg #[.int .i64 0, .string ⟨#[]⟩], .int .i64 4]) (by simp [results, Tryd.results25, go_sem, f0, f1]) rfl ⟨rfl, bel_alloc ((HB2.out.setCell (Nat.le_refl _) _).setCell (Nat.le_refl _) _) _⟩
    · have AD0 := Lib.hid (fun w => add_ok acc c x.m x.c HC.out HXC.out hb G0 gs w)
      have HG3 : Hid (sumG c (acc + x.m) (L.drop (k + 1)) = (y, u, e)) := Lib.hid (by rw [← HG2.out, sumG, if_pos G0.out, if_pos gs])
      clear HG2 gs hb
      go_wp2_with fail
      with_reducible refine (AD0.out _).mono ?_
      rintro z w2 ⟨rfl, h2⟩
      have hb2 : Below wr.heap.size wr w2 := (bel_alloc (Below.refl _ _) _).trans (h2.below.mono (by simp))
      have HR2 := Lib.hid (HR.out.below hb2 HR.out.lt)
      have HS2 := Lib.hid (HSm.out.below hb2 HSm.out.lt)
      have HB2 := Lib.hid (HB.out.trans (hb2.mono HB.out.size))
      clear h2 hb2 a0 a1 al c0 c1 hpl hpn0
      have s0 := HS2.out.cell 0
      have s1 := HS2.out.cell 1
      have sf0 := HS2.out.frozen 0
      have sf1 := HS2.out.frozen 1
      have sl := HS2.out.lt
      have sl2 : ¬ w.heap.size + 1 = w2.heap.size := by omega
      go_wp2
      go_roundw
      case rel =>
        refine ⟨k + 1, acc + x.m, by omega, by go_num, HG3, ?_, ?_, ?_⟩
        · exact ((HR2.out.far (by simp) _).far (by simp) _).alloc _
        · exact ((HS2.out.set_ 0 _).set_ 1 _).alloc _
        · exact bel_alloc ((HB2.out.setCell (by simp) _).setCell (by simp) _) _
      case measure => simp [intOf]; omega
set_option maxRecDepth 20000 in
set_option maxHeartbeats 12800000 in
theorem rsum_any (c : ByteArray) (hc : c.size ≤ 9223372036854775807) (A : Option Addr) (n cap : Nat) (L : List MR) (w : World) (hS : Mts w w.heap.size A n L) (hn : n ≤ 1000) (hcap : n ≤ cap) (hL : okM L) {y : Int} {u : ByteArray} {e : Int} (H : Hid (sumR c L = (y, u, e))) :
    Calls Tryd.prog 26 #[.string c, .slice A n cap] w fun x w' => x = .returned (.tuple #[.agg #[.int .i64 y, .string u], .int .i64 e]) ∧ Below w.heap.size w w' := by
  have HS := Lib.hid hS
  have HL := Lib.hid hL
  clear hL
  have hR0 : Blk ((w.alloc (.cells #[.int .i64 0, .string ⟨#[]⟩] 23)).alloc (.cells #[.int .i64 0, .string c] 23)) w.heap.size 23 #[.int .i64 0, .string ⟨#[]⟩] := (Blk.new _ _ _).alloc _
  have hS0 : Blk ((w.alloc (.cells #[.int .i64 0, .string ⟨#[]⟩] 23)).alloc (.cells #[.int .i64 0, .string c] 23)) (w.heap.size + 1) 23 #[.int .i64 0, .string c] := by
    have h := Blk.new (w.alloc (.cells #[.int .i64 0, .string ⟨#[]⟩] 23)) 23 #[.int .i64 0, .string c]
    rw [World.size_alloc] at h
    exact h
  have hB0 : Below w.heap.size w ((w.alloc (.cells #[.int .i64 0, .string ⟨#[]⟩] 23)).alloc (.cells #[.int .i64 0, .string c] 23)) := bel_alloc (bel_alloc (Below.refl _ _) _) _
  by_cases hcur : curP c
  case neg =>
    obtain ⟨rfl, rfl, rfl⟩ : 0 = y ∧ (⟨#[]⟩ : ByteArray) = u ∧ 11 = e := by
      have := H.out
      rw [sumR, if_neg hcur] at this
      simpa using this
    have CK := Lib.hid (fun w => iscur_no c hc hcur w)
    clear H hcur hc hS
    go_enter Tryd.func26, Tryd.ntmps26
    go_wp2_with fail
    with_reducible refine (CK.out _).mono ?_
    rintro z w1 ⟨rfl, rfl⟩
    go_wp2
    exact bodyPost_ret (v := .tuple #[.agg #[.int .i64 0, .string ⟨#[]⟩], .int .i64 11]) (by simp [results, Tryd.results26, go_sem]) rfl ⟨rfl, (by repeat (first | with_reducible exact Below.refl _ _ | with_reducible assumption | with_reducible refine Below.drew ?_ | with_reducible refine bel_alloc ?_ _ | with_reducible refine bel_drewN ?_ _))⟩
  have HG : Hid (sumG c 0 L = (y, u, e)) := Lib.hid (by rw [← H.out, sumR, if_pos hcur])
  have CK := Lib.hid (fun w => iscur_yes c hcur w)
  clear H hcur
  have HC := Lib.hid hc
  clear hc hS
  go_enter Tryd.func26, Tryd.ntmps26
  go_wp2_with fail
  with_reducible refine (CK.out _).mono ?_
  rintro z w1 ⟨rfl, rfl⟩
  have HR1 := Lib.hid hR0
  have HS1 := Lib.hid hS0
  have HB1 := Lib.hid hB0
  clear hR0 hS0 hB0
  go_wp2
  go_loopw [7] (fun i wr => ∃ (k : Nat) (acc : Int), k ≤ n ∧ i = .int .i64 (k : Int) ∧ Hid (sumG c acc (L.drop k) = (y, u, e)) ∧ Blk wr w.heap.size 23 #[.int .i64 0, .string ⟨#[]⟩] ∧ Blk wr (w.heap.size + 1) 23 #[.int .i64 acc, .string c] ∧ Below w.heap.size w wr) (fun i _ => n - (intOf i).toNat)
  case atStart => exact ⟨0, 0, Nat.zero_le _, rfl, HG, HR1.out, HS1.out, HB1.out⟩
  case round =>
    clear HG HR1 HS1 HB1 CK
    obtain ⟨k, acc, hk, rfl, HG, hR, hSm, hB⟩ := hrel
    have HR := Lib.hid hR
    have HSm := Lib.hid hSm
    have HB := Lib.hid hB
    by_cases hlt : k < n
    case neg =>
      obtain rfl : k = n := by omega
      obtain ⟨rfl, rfl, rfl⟩ : acc = y ∧ c = u ∧ 0 = e := by
        have := HG.out
        rw [List.drop_eq_nil_of_le (by rw [HS.out.1]; exact Nat.le_refl _)] at this
        simpa [sumG] using this
      have a0 := hSm.cell 0
      have a1 := hSm.cell 1
      have al := hSm.lt
      have r0 := hR.cell 0
      have r1 := hR.cell 1
      have rf0 := hR.frozen 0
      have rf1 := hR.frozen 1
      have rl := hR.lt
      clear hR hSm hB HG
      go_wp2
      have hF : Blk ((wr.setCell ⟨w.heap.size, 0, none⟩ (.int .i64 acc)).setCell ⟨w.heap.size, 1, none⟩ (.string c)) w.heap.size 23 #[.int .i64 acc, .string c] := (HR.out.set_ 0 _).set_ 1 _
      have f0 := hF.cell 0
      have f1 := hF.cell 1
      exact bodyPost_ret (v := .tuple #[.agg #[.int .i64 acc, .string c], .int .i64 0]) (by simp [results, Tryd.results26, go_sem, f0, f1]) rfl ⟨rfl, (HB.out.setCell (Nat.le_refl _) _).setCell (Nat.le_refl _) _⟩
    obtain ⟨ad, x, p, rfl, hx, hp, hpb, c0, c1⟩ := Mts.at (Mts.below HS.out hB) hlt
    have HX := Lib.hid hx
    have hpl : p.block < wr.heap.size := Nat.lt_of_lt_of_le hpb hB.size
    have hpn0 : ¬ p.block = wr.heap.size := by omega
    have HXC := Lib.hid (HL.out _ (List.mem_of_getElem? hx))
    have a0 := hSm.cell 0
    have a1 := hSm.cell 1
    have al := hSm.lt
    have HG2 : Hid (sumG c acc (x :: L.drop (k + 1)) = (y, u, e)) := Lib.hid (by rw [← drop_at HX.out]; exact HG.out)
    clear hR hSm hB HG hx
    by_cases g0 : pairR acc c x.m x.c = 0
    case neg =>
      obtain ⟨rfl, rfl, he⟩ : 0 = y ∧ (⟨#[]⟩ : ByteArray) = u ∧ pairR acc c x.m x.c = e := by
        have := HG2.out
        rw [sumG, if_neg g0] at this
        simpa using this
      have AD0 := Lib.hid (fun w => radd_e acc c x.m x.c HC.out HXC.out (Lib.hid he) (ne_b (he ▸ g0)) w)
      have g1 := ne_b (he ▸ g0)
      clear HG2 g0 he
      have r0 := HR.out.cell 0
      have r1 := HR.out.cell 1
      have rf0 := HR.out.frozen 0
      have rf1 := HR.out.frozen 1
      have rl := HR.out.lt
      have sf0 := HSm.out.frozen 0
      have sf1 := HSm.out.frozen 1
      have y1 : ∀ x : Nat, w.heap.size < wr.heap.size + x := by intros; omega
      have y2 : ∀ x : Nat, w.heap.size + 1 < wr.heap.size + x := by intros; omega
      have y3 : w.heap.size < wr.heap.size + 1 := by omega
      have y4 : w.heap.size + 1 < wr.heap.size + 1 := by omega
      have y5 : ¬ w.heap.size = wr.heap.size := by omega
      have y6 : ¬ w.heap.size + 1 = wr.heap.size := by omega
      have y7 : ∀ x : Nat, ¬ w.heap.size = wr.heap.size + x := by intros; omega
      have y8 : ∀ x : Nat, ¬ w.heap.size + 1 = wr.heap.size + x := by intros; omega
      have y9 : ∀ x : Nat, w.heap.size < wr.heap.size + 1 + x := by intros; omega
      have ya : ∀ x : Nat, w.heap.size + 1 < wr.heap.size + 1 + x := by intros; omega
      have yb : ∀ x : Nat, wr.heap.size < wr.heap.size + 1 + x := by intros; omega
      go_wp2
      go_region_with (((with_reducible refine (AD0.out _).mono ?_); rintro z w2 ⟨rfl, l2, n2, rfl⟩))
      all_goals go_wp2
      all_goals (
        have hF : Blk ((wr.setCell ⟨w.heap.size, 0, none⟩ (.int .i64 0)).setCell ⟨w.heap.size, 1, none⟩ (.string ⟨#[]⟩)) w.heap.size 23 #[.int .i64 0, .string ⟨#[]⟩] := (HR.out.set_ 0 _).set_ 1 _
        have f0 := hF.cell 0
        have f1 := hF.cell 1
        exact bodyPost_ret (v := .tuple #[.agg #[.int .i64 0, .string ⟨#[]⟩], .int .i64 e]) (by simp [results, Tryd.results26, go_sem, f0, f1, y1, y3, y9, rl]) rfl ⟨rfl, (by repeat (first | exact (HB.out.setCell (Nat.le_refl _) _).setCell (Nat.le_refl _) _ | exact (HB.out.setCell (by simp) _).setCell (by simp) _ | with_reducible refine Below.drew ?_ | with_reducible refine bel_alloc ?_ _ | with_reducible refine bel_drewN ?_ _ | with_reducible refine bel_push ?_ _))⟩)
    have G0 := Lib.hid g0
    have hb := pair_ok g0
    clear g0
    by_cases gs : -4503599627370496 ≤ acc + x.m ∧ acc + x.m ≤ 4503599627370496
    case neg =>
      obtain ⟨rfl, rfl, rfl⟩ : 0 = y ∧ (⟨#[]⟩ : ByteArray) = u ∧ 4 = e := by
        have := HG2.out
        rw [sumG, if_pos G0.out, if_neg gs] at this
        simpa using this
      have AD0 := Lib.hid (fun w => radd_big acc c x.m x.c HC.out HXC.out hb G0 gs w)
      clear HG2 gs hb
      have r0 := HR.out.cell 0
      have r1 := HR.out.cell 1
      have rf0 := HR.out.frozen 0
      have rf1 := HR.out.frozen 1
      have rl := HR.out.lt
      have sf0 := HSm.out.frozen 0
      have sf1 := HSm.out.frozen 1
      have y1 : ∀ x : Nat, w.heap.size < wr.heap.size + x := by intros; omega
      have y2 : ∀ x : Nat, w.heap.size + 1 < wr.heap.size + x := by intros; omega
      have y3 : w.heap.size < wr.heap.size + 1 := by omega
      have y4 : w.heap.size + 1 < wr.heap.size + 1 := by omega
      have y5 : ¬ w.heap.size = wr.heap.size := by omega
      have y6 : ¬ w.heap.size + 1 = wr.heap.size := by omega
      have y7 : ∀ x : Nat, ¬ w.heap.size = wr.heap.size + x := by intros; omega
      have y8 : ∀ x : Nat, ¬ w.heap.size + 1 = wr.heap.size + x := by intros; omega
      have y9 : ∀ x : Nat, w.heap.size < wr.heap.size + 1 + x := by intros; omega
      have ya : ∀ x : Nat, w.heap.size + 1 < wr.heap.size + 1 + x := by intros; omega
      have yb : ∀ x : Nat, wr.heap.size < wr.heap.size + 1 + x := by intros; omega
      go_wp2
      go_region_with (((with_reducible refine (AD0.out _).mono ?_); rintro z w2 ⟨rfl, l2, n2, rfl⟩))
      all_goals go_wp2
      all_goals (
        have hF : Blk ((wr.setCell ⟨w.heap.size, 0, none⟩ (.int .i64 0)).setCell ⟨w.heap.size, 1, none⟩ (.string ⟨#[]⟩)) w.heap.size 23 #[.int .i64 0, .string ⟨#[]⟩] := (HR.out.set_ 0 _).set_ 1 _
        have f0 := hF.cell 0
        have f1 := hF.cell 1
        exact bodyPost_ret (v := .tuple #[.agg #[.int .i64 0, .string ⟨#[]⟩], .int .i64 4]) (by simp [results, Tryd.results26, go_sem, f0, f1, y1, y3, y9, rl]) rfl ⟨rfl, (by repeat (first | exact (HB.out.setCell (Nat.le_refl _) _).setCell (Nat.le_refl _) _ | exact (HB.out.setCell (by simp) _).setCell (by simp) _ | with_reducible refine Below.drew ?_ | with_reducible refine bel_alloc ?_ _ | with_reducible refine bel_drewN ?_ _ | with_reducible refine bel_push ?_ _))⟩)
    · have AD0 := Lib.hid (fun w => radd_ok acc c x.m x.c HC.out HXC.out hb G0 gs w)
      have HG3 : Hid (sumG c (acc + x.m) (L.drop (k + 1)) = (y, u, e)) := Lib.hid (by rw [← HG2.out, sumG, if_pos G0.out, if_pos gs])
      clear HG2 gs hb
      have r0 := HR.out.cell 0
      have r1 := HR.out.cell 1
      have rf0 := HR.out.frozen 0
      have rf1 := HR.out.frozen 1
      have rl := HR.out.lt
      have sf0 := HSm.out.frozen 0
      have sf1 := HSm.out.frozen 1
      have y1 : ∀ x : Nat, w.heap.size < wr.heap.size + x := by intros; omega
      have y2 : ∀ x : Nat, w.heap.size + 1 < wr.heap.size + x := by intros; omega
      have y3 : w.heap.size < wr.heap.size + 1 := by omega
      have y4 : w.heap.size + 1 < wr.heap.size + 1 := by omega
      have y5 : ¬ w.heap.size = wr.heap.size := by omega
      have y6 : ¬ w.heap.size + 1 = wr.heap.size := by omega
      have y7 : ∀ x : Nat, ¬ w.heap.size = wr.heap.size + x := by intros; omega
      have y8 : ∀ x : Nat, ¬ w.heap.size + 1 = wr.heap.size + x := by intros; omega
      have y9 : ∀ x : Nat, w.heap.size < wr.heap.size + 1 + x := by intros; omega
      have ya : ∀ x : Nat, w.heap.size + 1 < wr.heap.size + 1 + x := by intros; omega
      have yb : ∀ x : Nat, wr.heap.size < wr.heap.size + 1 + x := by intros; omega
      go_wp2
      go_region_with (((with_reducible refine (AD0.out _).mono ?_); rintro z w2 ⟨rfl, l2, n2, rfl⟩))
      all_goals go_wp2
      all_goals (
        go_roundw
        case rel =>
          refine ⟨k + 1, acc + x.m, by omega, by go_num, HG3, ?_, ?_, ?_⟩
          · repeat (first | exact HR.out | with_reducible refine Blk.drewN ?_ _ | with_reducible refine Blk.drew ?_ | with_reducible refine Blk.alloc ?_ _ | with_reducible refine Blk.push ?_ _ | refine Blk.far ?_ (by simp) _)
          · repeat (first | exact (HSm.out.set_ 0 _).set_ 1 _ | with_reducible refine Blk.drewN ?_ _ | with_reducible refine Blk.drew ?_ | with_reducible refine Blk.alloc ?_ _ | with_reducible refine Blk.push ?_ _)
          · exact (by repeat (first | exact (HB.out.setCell (Nat.le_refl _) _).setCell (Nat.le_refl _) _ | exact (HB.out.setCell (by simp) _).setCell (by simp) _ | with_reducible refine Below.drew ?_ | with_reducible refine bel_alloc ?_ _ | with_reducible refine bel_drewN ?_ _ | with_reducible refine bel_push ?_ _))
        case measure => simp [intOf]; omega)
end Go.Proofs.YtompkkanckejjaaDoor
