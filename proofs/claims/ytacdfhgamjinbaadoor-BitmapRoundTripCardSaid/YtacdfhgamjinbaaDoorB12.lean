/-
  CONTRACTS of bitmaps: the program's List.
-/
import Derived.Test.YtacdfhgamjinbaaDoorBMath2
import Derived.Test.YtacdfhgamjinbaaDoorBShelf
import Derived.Test.YtacdfhgamjinbaaDoorB10
namespace Go.Proofs.YtacdfhgamjinbaaDoor
open Go.RowKit
set_option linter.unusedVariables false
structure PlI (w wr : World) (v : Value) (l : List Int) : Prop where
  own : wr.ownsRow (w.heap.size + 1) 3 1 v l.length (l.map intV)
  below : Below w.heap.size w wr
  room : w.heap.size + 1 ≤ wr.heap.size
theorem PlI.more {w wr w1 : World} {v v' : Value} {l : List Int} {o : Obj} {z : Int} (h : PlI w wr v l) (ho : w1.ownsRow (w.heap.size + 1) 3 1 v' (l.length + 1) (l.map intV ++ [intV z])) (hg : (wr.alloc o).grownBy w1 v.ownBlock) : PlI w w1 v' (l ++ [z]) := by
  have hl := h.own.lt
  have hsz := h.below.size
  have hr := h.room
  have hb := hg.size
  refine ⟨by simpa using ho, (h.below.alloc h.below.size o).grown hg (by simp; omega) fun k hk => by have := hl k hk; omega, by simp at hb; omega⟩
/-- What a word leaves to be listed. -/
structure PlW (p : Nat → Bool) (W c L0 : Nat) : Prop where
  bit : ∀ s, s < L0 → p (c + 1 - s) = W.testBit s
  h64 : L0 ≤ 64
  hc : L0 ≤ c
  c127 : c ≤ 127
def lz (x : Nat) : Int := 64 - (Lib.bitLen x : Int)
theorem lz_any (x : Nat) (hx : x < 18446744073709551616) (w : World) : Calls Tryd.prog 34 #[.int .u64 (x : Int)] w fun e w' => e = .returned (.int .i64 (lz x)) ∧ w = w' :=
  (Tryd.bits_LeadingZeros64 (x : Int) w (by omega) (by omega)).mono fun e w' h => ⟨h.1, h.2.symm⟩
theorem pow_shl (k : Nat) (h : k ≤ 63) : IntKind.u64.wrap (2 ^ k) = ((2 ^ k : Nat) : Int) := pow_w k h
theorem wpList_append1 {ops : Array Oper} {rest : List Oper} {o : Oper} {a : Act} {Q : Exit → Act → World → Prop} {w : World} {B : Nat} {v : Value} {l : List Int} {z : Int} (s x : Operand)
    (hgd : o.guard = none) (ho : o.op = .call { callee := .builtin .append, args := #[s, x], argTypes := #[30, 30] })
    (hs : a.eval s = v) (hx : a.eval x = .slice (some ⟨w.heap.size, 0, none⟩) 1 1) (hown : w.ownsRow B 3 1 v l.length (l.map intV)) (hl : l.length ≤ 1000000) (hB : B ≤ w.heap.size)
    (h : ∀ v' w', w'.ownsRow B 3 1 v' (l.length + 1) (l.map intV ++ [intV z]) → (w.alloc (.cells #[.int .i64 z] 3)).grownBy w' v.ownBlock → wpList Tryd.prog ops Q rest (a.put o.dst v') w') : wpList Tryd.prog ops Q (o :: rest) a (w.alloc (.cells #[.int .i64 z] 3)) := by
  obtain ⟨i0, hi0, hz0, hz1, hz2⟩ := info_parts int_info
  refine wpList_append_own _ hgd s x 30 ho B 3 i0 (.int .i64 0) 1 8 Tryd.underlying30 hi0 hz0 hz1 hz2 rfl (by decide) v l.length (l.map intV) hs (hown.alloc _) ⟨w.heap.size, 0, none⟩ 1 1 [intV z] hx rfl ?_ ?_ (by unfold maxLen; omega) (by omega) (by simp; omega) fun v' w' h1 h2 _ => h v' w' h1 h2
  · intro j u hj
    match j, hj with
    | 0, hj => simp at hj; subst hj; simp [Addr.add]
  · intro u hu; simp at hu; subst hu; rfl
set_option maxHeartbeats 2000000 in
theorem plist_any (B : Nat) (a b : Nat) (ha : a < 18446744073709551616) (hb : b < 18446744073709551616) (w : World) (hB : B ≤ w.heap.size) :
    Calls Tryd.prog 16 #[bmV a b] w (RetInts B w (fl (hasN a b) 127)) := by
  have HB := Lib.hid hB
  clear hB
  obtain ⟨i0, hi0, hz0, hz1, hz2⟩ := info_parts int_info
  obtain ⟨p, hp⟩ : ∃ p, p = hasN a b := ⟨_, rfl⟩
  have P0 : Hid (PlW p (clrN a) 63 63) := Lib.hid ⟨fun s hs => hp ▸ has_at0 a b s hs, by omega, by omega, by omega⟩
  have P1 : Hid (PlW p b 127 64) := Lib.hid ⟨fun s hs => hp ▸ has_at1 a b s hs, by omega, by omega, by omega⟩
  have CN := Lib.hid (fun w => numbers_any a b ha w)
  have hcl := clrN_lt a
  obtain ⟨A, hA⟩ : ∃ A, A = clrN a := ⟨_, rfl⟩
  rw [← hA] at P0 CN hcl
  rw [← hp]
  have HA : Hid (A < 2 ^ 63) := Lib.hid hcl
  have HBb : Hid (b < 2 ^ 64) := Lib.hid hb
  clear hp hA ha hb hcl
  have idx0 : ∀ w, (Instr.index 24 (.agg #[.int .u64 (A : Int), .int .u64 (b : Int)]) (.int .i64 0)).run Tryd.prog w = .ok (.int .u64 (A : Int)) w := fun _ => by kernel_rfl
  have idx1 : ∀ w, (Instr.index 24 (.agg #[.int .u64 (A : Int), .int .u64 (b : Int)]) (.int .i64 1)).run Tryd.prog w = .ok (.int .u64 (b : Int)) w := fun _ => by kernel_rfl
  go_enter Tryd.func16, Tryd.ntmps16
  go_wp2_with fail
  refine (CN.out _).mono ?_
  rintro e w1 ⟨rfl, hb1⟩
  have HW1 : Hid (Below w.heap.size w w1 ∧ w.heap.size + 1 ≤ w1.heap.size) := Lib.hid ⟨((Below.refl _ _).alloc (Nat.le_refl _) _).trans (hb1.mono (by simp)), by have := hb1.size; simpa using this⟩
  clear hb1
  go_wp2_with fail
  go_loopw [3, 9] (fun v i wr => (i = .int .i64 0 ∧ PlI w wr v (fl p 0)) ∨ (i = .int .i64 1 ∧ PlI w wr v (fl p 63)) ∨ (i = .int .i64 2 ∧ PlI w wr v (fl p 127))) (fun _ i _ => 2 - (intOf i).toNat)
  case atStart => exact .inl ⟨rfl, ⟨by simp [fl], .inl ⟨rfl, rfl⟩⟩, HW1.out.1, HW1.out.2⟩
  case round =>
    rcases hrel with ⟨rfl, hI⟩ | ⟨rfl, hI⟩ | ⟨rfl, hI⟩
    · have HI := Lib.hid hI
      clear hI
      obtain ⟨wo, rfl⟩ : ∃ wo : World, wo = wr := ⟨_, rfl⟩
      go_wp2_with fail
      go_loopw [3, 5] (fun v x wr => ∃ L : Nat, L ≤ 63 ∧ x = .int .u64 ((A % 2 ^ L : Nat) : Int) ∧ PlI w wr v (fl p (63 - L))) (fun _ x _ => (intOf x).toNat)
      case atStart => exact ⟨63, Nat.le_refl _, by rw [Nat.mod_eq_of_lt HA.out], HI.out⟩
      case round =>
        obtain ⟨L, hL, rfl, hJ⟩ := hrel
        have HJ := Lib.hid hJ
        clear hJ
        obtain ⟨x, hx⟩ : ∃ x, x = A % 2 ^ L := ⟨_, rfl⟩
        rw [← hx]
        by_cases h0 : x = 0
        · have R : Hid (PlI w wr u3 (fl p 63)) := Lib.hid (by rw [fl_last P0.out.bit hL P0.out.hc (hx ▸ h0)]; exact HJ.out)
          subst h0
          clear hx
          go_wp2
          go_roundw
          case rel => exact .inr (.inl ⟨rfl, R.out⟩)
          case measure => simp [intOf]
        · obtain ⟨t, htL, hbl, hbit, hz, hmin⟩ := top_step (Nat.le_trans hL P0.out.h64) (hx ▸ h0)
          rw [← hx] at hbl hmin
          have hx64 : x < 18446744073709551616 := by
            have h1 : A % 2 ^ L ≤ A := Nat.mod_le _ _
            have h2 := HA.out
            omega
          obtain ⟨f, hf⟩ : ∃ f, f = 63 - t := ⟨_, rfl⟩
          have ht := P0.out.h64
          have hlz : lz x = (f : Int) := by unfold lz; rw [hbl]; omega
          have HC : Hid (∀ w, Calls Tryd.prog 34 #[.int .u64 (x : Int)] w fun e w' => e = .returned (.int .i64 (f : Int)) ∧ w = w') := Lib.hid fun w => hlz ▸ lz_any x hx64 w
          obtain ⟨q, hq⟩ : ∃ q, q = 2 ^ t := ⟨_, rfl⟩
          have hw : IntKind.u64.wrap (2 ^ t) = (q : Int) := by rw [pow_w t (by omega), hq]
          obtain ⟨x2, hx2⟩ : ∃ y, y = A % 2 ^ t := ⟨_, rfl⟩
          have hq64 : q < 18446744073709551616 := by rw [hq]; exact Nat.pow_lt_pow_right (by omega) (show t < 64 by omega)
          have hmn : bits BinOp.andNot IntKind.u64 (x : Int) (q : Int) = (x2 : Int) := by rw [minN_val x q hx64 hq64, hq, hmin, hx2]
          have hsh : (63 - (f : Int)).toNat = t := by omega
          have hf63 : f ≤ 63 := by omega
          have HT : Hid (fl p (63 - t) = fl p (63 - L) ++ [(f : Int) + 1]) := Lib.hid (by rw [fl_top P0.out.bit hL P0.out.hc htL hbit hz]; congr 2; omega)
          have hpos : 0 < x := by omega
          have hlt2 : Hid (x2 < x) := Lib.hid (by
            have h1 := bl_bounds x hx64 h0
            rw [hbl, Nat.add_sub_cancel] at h1
            have h2 : A % 2 ^ t < 2 ^ t := Nat.mod_lt _ (Nat.two_pow_pos t)
            omega)
          have HX2 := Lib.hid hx2
          have HtL : Hid (t ≤ 63) := Lib.hid (by omega)
          have hlen := fl_len p (63 - L)
          have hcc := P0.out.c127
          have hne : ((x : Int) != 0) = true := by rw [ne_cast]; simpa using h0
          have hne2 : ¬ (x : Int) = 0 := by omega
          clear hx hbl hmin hbit hz hlz hq hx2 hf ht h0
          go_wp2_with (first | (go_at_call 34; refine (HC.out _).mono ?_; rintro e w' ⟨rfl, rfl⟩) | (at_builtin; refine wpList_append1 (.tmp 17) (.tmp 23) rfl rfl rfl rfl HJ.out.own (by omega) HJ.out.room ?_; intro v' w2 hown' hgrow; have R := Lib.hid (HJ.out.more hown' hgrow); clear hown' hgrow))
          go_roundw
          case rel => exact ⟨t, HtL.out, by rw [HX2.out], by rw [HT.out]; exact R.out⟩
          case measure =>
            have := hlt2.out
            simp [intOf]
            omega
    · have HI := Lib.hid hI
      clear hI
      obtain ⟨wo, rfl⟩ : ∃ wo : World, wo = wr := ⟨_, rfl⟩
      go_wp2_with fail
      go_loopw [3, 5] (fun v x wr => ∃ L : Nat, L ≤ 64 ∧ x = .int .u64 ((b % 2 ^ L : Nat) : Int) ∧ PlI w wr v (fl p (127 - L))) (fun _ x _ => (intOf x).toNat)
      case atStart => exact ⟨64, Nat.le_refl _, by rw [Nat.mod_eq_of_lt HBb.out], HI.out⟩
      case round =>
        obtain ⟨L, hL, rfl, hJ⟩ := hrel
        have HJ := Lib.hid hJ
        clear hJ
        obtain ⟨x, hx⟩ : ∃ x, x = b % 2 ^ L := ⟨_, rfl⟩
        rw [← hx]
        by_cases h0 : x = 0
        · have R : Hid (PlI w wr u3 (fl p 127)) := Lib.hid (by rw [fl_last P1.out.bit hL P1.out.hc (hx ▸ h0)]; exact HJ.out)
          subst h0
          clear hx
          go_wp2
          go_roundw
          case rel => exact .inr (.inr ⟨rfl, R.out⟩)
          case measure => simp [intOf]
        · obtain ⟨t, htL, hbl, hbit, hz, hmin⟩ := top_step (Nat.le_trans hL P1.out.h64) (hx ▸ h0)
          rw [← hx] at hbl hmin
          have hx64 : x < 18446744073709551616 := by
            have h1 : b % 2 ^ L ≤ b := Nat.mod_le _ _
            have h2 := HBb.out
            omega
          obtain ⟨f, hf⟩ : ∃ f, f = 63 - t := ⟨_, rfl⟩
          have ht := P1.out.h64
          have hlz : lz x = (f : Int) := by unfold lz; rw [hbl]; omega
          have HC : Hid (∀ w, Calls Tryd.prog 34 #[.int .u64 (x : Int)] w fun e w' => e = .returned (.int .i64 (f : Int)) ∧ w = w') := Lib.hid fun w => hlz ▸ lz_any x hx64 w
          obtain ⟨q, hq⟩ : ∃ q, q = 2 ^ t := ⟨_, rfl⟩
          have hw : IntKind.u64.wrap (2 ^ t) = (q : Int) := by rw [pow_w t (by omega), hq]
          obtain ⟨x2, hx2⟩ : ∃ y, y = b % 2 ^ t := ⟨_, rfl⟩
          have hq64 : q < 18446744073709551616 := by rw [hq]; exact Nat.pow_lt_pow_right (by omega) (show t < 64 by omega)
          have hmn : bits BinOp.andNot IntKind.u64 (x : Int) (q : Int) = (x2 : Int) := by rw [minN_val x q hx64 hq64, hq, hmin, hx2]
          have hsh : (63 - (f : Int)).toNat = t := by omega
          have hf63 : f ≤ 63 := by omega
          have HT : Hid (fl p (127 - t) = fl p (127 - L) ++ [64 + (f : Int) + 1]) := Lib.hid (by rw [fl_top P1.out.bit hL P1.out.hc htL hbit hz]; congr 2; omega)
          have hpos : 0 < x := by omega
          have hlt2 : Hid (x2 < x) := Lib.hid (by
            have h1 := bl_bounds x hx64 h0
            rw [hbl, Nat.add_sub_cancel] at h1
            have h2 : b % 2 ^ t < 2 ^ t := Nat.mod_lt _ (Nat.two_pow_pos t)
            omega)
          have HX2 := Lib.hid hx2
          have HtL : Hid (t ≤ 64) := Lib.hid (by omega)
          have hlen := fl_len p (127 - L)
          have hcc := P1.out.c127
          have hne : ((x : Int) != 0) = true := by rw [ne_cast]; simpa using h0
          have hne2 : ¬ (x : Int) = 0 := by omega
          clear hx hbl hmin hbit hz hlz hq hx2 hf ht h0
          go_wp2_with (first | (go_at_call 34; refine (HC.out _).mono ?_; rintro e w' ⟨rfl, rfl⟩) | (at_builtin; refine wpList_append1 (.tmp 17) (.tmp 23) rfl rfl rfl rfl HJ.out.own (by omega) HJ.out.room ?_; intro v' w2 hown' hgrow; have R := Lib.hid (HJ.out.more hown' hgrow); clear hown' hgrow))
          go_roundw
          case rel => exact ⟨t, HtL.out, by rw [HX2.out], by rw [HT.out]; exact R.out⟩
          case measure =>
            have := hlt2.out
            simp [intOf]
            omega
    · have HI := Lib.hid hI
      clear hI
      go_wp2
      go_ret
      exact RetInts.mk' HI.out.own HI.out.below (Nat.le_succ_of_le HB.out)
end Go.Proofs.YtacdfhgamjinbaaDoor
