/-
  CONTRACTS of bitmaps: the specification's Minus.
-/
import Derived.Test.YtacdfhgamjinbaaDoorB10
namespace Go.Proofs.YtacdfhgamjinbaaDoor
open Go.RowKit
set_option linter.unusedVariables false
structure MnI (w wr : World) (v : Value) (a b c d : Nat) (l : List Int) : Prop where
  box : Blk wr w.heap.size 24 #[.int .u64 (a : Int), .int .u64 (b : Int)]
  box2 : Blk wr (w.heap.size + 1) 24 #[.int .u64 (c : Int), .int .u64 (d : Int)]
  res : Blk wr (w.heap.size + 1 + 1) 24 #[.int .u64 0, .int .u64 0]
  own : wr.ownsRow (w.heap.size + 3) 3 1 v l.length (l.map intV)
  below : Below w.heap.size w wr
theorem MnI.has {w wr w1 : World} {v : Value} {a b c d : Nat} {l : List Int} (h : MnI w wr v a b c d l) (hb : Below wr.heap.size wr w1) : MnI w w1 v a b c d l :=
  ⟨h.box.bel hb, h.box2.bel hb, h.res.bel hb, own_below (B' := 0) h.own hb, h.below.trans (hb.mono h.below.size)⟩
theorem MnI.more {w wr w1 : World} {v v' : Value} {a b c d : Nat} {l : List Int} {o : Obj} {z : Int} (h : MnI w wr v a b c d l) (ho : w1.ownsRow (w.heap.size + 3) 3 1 v' (l.length + 1) (l.map intV ++ [intV z])) (hg : (wr.alloc o).grownBy w1 v.ownBlock) : MnI w w1 v' a b c d (l ++ [z]) := by
  have hl := h.own.lt
  have hsz := h.below.size
  refine ⟨(h.box.alloc o).grown hg (fun e => ?_), (h.box2.alloc o).grown hg (fun e => ?_), (h.res.alloc o).grown hg (fun e => ?_), by simpa using ho, (h.below.alloc h.below.size o).grown hg (by simp; omega) fun k hk => by have := hl k hk; omega⟩ <;> (have := hl _ e.symm; omega)
set_option maxHeartbeats 1000000 in
theorem rminus_any (a b c d : Nat) (ha : a < 18446744073709551616) (hb : b < 18446744073709551616) (hc : c < 18446744073709551616) (hd : d < 18446744073709551616) (w : World) :
    Calls Tryd.prog 26 #[bmV a b, bmV c d] w fun e w' => e = .returned (bmV (clrN (minN a c)) (minN b d)) ∧ Below w.heap.size w w' := by
  have hz : ∀ w : World, (zeroValue 24).run Tryd.prog w = .ok (.agg #[.int .u64 0, .int .u64 0]) w := fun _ => by kernel_rfl
  obtain ⟨i0, hi0, hz0, hz1, hz2⟩ := info_parts int_info
  have HOF := Lib.hid (of_minus a b c d hb hc hd)
  go_enter Tryd.func26, Tryd.ntmps26
  go_wp2_with fail
  go_loopw [5, 6] (fun v i wr => ∃ m : Nat, 2 ≤ m ∧ m ≤ 129 ∧ i = .int .i64 m ∧ MnI w wr v a b c d (fl (minP a b c d) (m - 2))) (fun _ i _ => 129 - (intOf i).toNat)
  case atStart => exact ⟨2, by omega, by omega, rfl, ((Blk.new _ _ _).alloc _).alloc _, (Blk.newAt (by simp)).alloc _, Blk.newAt (by simp), ⟨by simp [fl], .inl ⟨rfl, rfl⟩⟩, (((Below.refl _ _).alloc (Nat.le_refl _) _).alloc (by simp) _).alloc (by simp; omega) _⟩
  case round =>
    obtain ⟨m, h2, hm, rfl, hI⟩ := hrel
    have HI := Lib.hid hI
    have b0 := hI.box.cell 0
    have b1 := hI.box.cell 1
    clear hI
    by_cases hlt : m ≤ 128
    · cases hh : hasN a b m
      · have HN := Lib.hid (fl_no2 (p := minP a b c d) h2 (by rw [minP, hh]; rfl))
        have HH := Lib.hid hh
        clear hh
        go_wp2_with fail
        refine (rhas_no a b m ha hb h2 hlt HH.out _).mono ?_
        rintro e w1 ⟨rfl, hb1⟩
        have R := Lib.hid (HI.out.has hb1)
        clear hb1
        go_wp2
        go_roundw
        case rel => exact ⟨m + 1, by omega, by omega, by go_num, by rw [HN.out]; exact R.out⟩
        case measure => simp [intOf]; omega
      · have HH := Lib.hid hh
        clear hh
        go_wp2_with fail
        refine (rhas_yes a b m ha hb h2 hlt HH.out _).mono ?_
        rintro e w1 ⟨rfl, hb1⟩
        have hR := HI.out.has hb1
        have R := Lib.hid hR
        have e0 := hR.box2.cell 0
        have e1 := hR.box2.cell 1
        clear hb1 hR b0 b1
        cases hk : hasN c d m
        · have HN := Lib.hid (fl_yes2 (p := minP a b c d) h2 (by rw [minP, HH.out, hk]; rfl))
          have HK := Lib.hid hk
          clear hk
          go_wp2_with fail
          refine (rhas_no c d m hc hd h2 hlt HK.out _).mono ?_
          rintro e w2 ⟨rfl, hb2⟩
          have R2 := Lib.hid (R.out.has hb2)
          have hlen := fl_len (minP a b c d) (m - 2)
          have hsz := R2.out.res.lt
          clear hb2 e0 e1
          go_wp2_with (at_builtin; refine wpList_append_own _ rfl _ _ 30 rfl (w.heap.size + 3) 3 i0 (.int .i64 0) 1 8 Tryd.underlying30 hi0 hz0 hz1 hz2 rfl (by decide) _ _ _ rfl (R2.out.own.alloc _) ⟨w2.heap.size, 0, none⟩ 1 1 [.int .i64 (m : Int)] rfl rfl ?c1 ?c2 ?c3 ?c4 ?c5 ?_)
          case c1 =>
            intro j u hj
            match j, hj with
            | 0, hj => simp at hj; subst hj; simp [Addr.add]
          case c2 => intro u hu; simp at hu; subst hu; rfl
          case c3 => unfold maxLen; omega
          case c4 => omega
          case c5 => simp; omega
          intro v' w3 hown' hgrow _
          have R3 := Lib.hid (R2.out.more hown' hgrow)
          clear hown' hgrow
          go_wp2
          go_roundw
          case rel => exact ⟨m + 1, by omega, by omega, by go_num, by rw [HN.out]; exact R3.out⟩
          case measure => simp [intOf]; omega
        · have HN := Lib.hid (fl_no2 (p := minP a b c d) h2 (by rw [minP, HH.out, hk]; rfl))
          have HK := Lib.hid hk
          clear hk
          go_wp2_with fail
          refine (rhas_yes c d m hc hd h2 hlt HK.out _).mono ?_
          rintro e w2 ⟨rfl, hb2⟩
          have R2 := Lib.hid (R.out.has hb2)
          clear hb2 e0 e1
          go_wp2
          go_roundw
          case rel => exact ⟨m + 1, by omega, by omega, by go_num, by rw [HN.out]; exact R2.out⟩
          case measure => simp [intOf]; omega
    · have hm9 : m - 2 = 127 := by omega
      have h1 := HI.out
      rw [hm9] at h1
      obtain ⟨A, k, rfl, hk⟩ := own_form h1.own
      have hl := fl_len (minP a b c d) 127
      have H1 := Lib.hid h1
      obtain ⟨L, hL⟩ : ∃ L, L = fl (minP a b c d) 127 := ⟨_, rfl⟩
      rw [← hL] at hk hl h1 HOF
      rw [← hL]
      clear hm9 hL b0 b1 HI hm H1
      have H1 := Lib.hid h1
      clear h1
      go_wp2_with fail
      refine (rof_own H1.out.own hk (by omega) HOF).mono ?_
      rintro e w1 ⟨rfl, hb1⟩
      have hR := H1.out.res.bel hb1
      have hBl := H1.out.below.trans (hb1.mono H1.out.below.size)
      have r0 := hR.cell 0
      have r1 := hR.cell 1
      have r2 := hR.frozen 0
      have r3 := hR.frozen 1
      have hlt1 := hR.lt
      have hne1 : ¬ w.heap.size + 1 + 1 = w1.heap.size := by omega
      have HR := Lib.hid hR
      have HB := Lib.hid hBl
      clear hb1 hR hBl
      go_wp2
      have hF : Blk (((w1.setCell ⟨w.heap.size + 1 + 1, 0, none⟩ (.int .u64 (clrN (minN a c) : Int))).setCell ⟨w.heap.size + 1 + 1, 1, none⟩ (.int .u64 (minN b d : Int))).alloc (.cells #[.int .u64 (clrN (minN a c) : Int), .int .u64 (minN b d : Int)] 24)) (w.heap.size + 1 + 1) 24 #[.int .u64 (clrN (minN a c) : Int), .int .u64 (minN b d : Int)] := (Blk.set2 HR.out _ _).alloc _
      have f0 := hF.cell 0
      have f1 := hF.cell 1
      exact bodyPost_ret (v := bmV (clrN (minN a c)) (minN b d)) (by simp [results, Tryd.results26, go_sem, f0, f1]) rfl ⟨rfl, ((HB.out.setCell (by simp; omega) _).setCell (by simp; omega) _).alloc (by simp; omega) _⟩
end Go.Proofs.YtacdfhgamjinbaaDoor
