/-
  CONTRACTS of bitmaps: the specification's List.
-/
import Derived.Test.YtacdfhgamjinbaaDoorBMath
import Derived.Test.YtacdfhgamjinbaaDoorB8
namespace Go.Proofs.YtacdfhgamjinbaaDoor
open Go.RowKit
set_option linter.unusedVariables false
theorem int_info : (Tryd.prog.info? 3).map (fun i => (i.zero, i.size, i.bytes)) = some (some (.int .i64 0), 1, 8) := by kernel_rfl
theorem rhas_yes (a b n : Nat) (ha : a < 18446744073709551616) (hb : b < 18446744073709551616) (h2 : 2 ≤ n) (h : n ≤ 128) (hh : hasN a b n = true) (w : World) :
    Calls Tryd.prog 14 #[bmV a b, .int .i64 (n : Int)] w fun e w' => e = .returned (.bool true) ∧ Below w.heap.size w w' := by
  have := rhas_in a b n ha hb h2 h w
  rw [hh] at this
  exact this
theorem rhas_no (a b n : Nat) (ha : a < 18446744073709551616) (hb : b < 18446744073709551616) (h2 : 2 ≤ n) (h : n ≤ 128) (hh : hasN a b n = false) (w : World) :
    Calls Tryd.prog 14 #[bmV a b, .int .i64 (n : Int)] w fun e w' => e = .returned (.bool false) ∧ Below w.heap.size w w' := by
  have := rhas_in a b n ha hb h2 h w
  rw [hh] at this
  exact this
theorem fl_yes2 {p : Nat → Bool} {m : Nat} (h2 : 2 ≤ m) (h : p m = true) : fl p (m + 1 - 2) = fl p (m - 2) ++ [(m : Int)] := by
  have := fl_yes (p := p) (k := m - 2) (by rw [show m - 2 + 2 = m by omega]; exact h)
  rw [show m + 1 - 2 = m - 2 + 1 by omega, this, show m - 2 + 2 = m by omega]
theorem fl_no2 {p : Nat → Bool} {m : Nat} (h2 : 2 ≤ m) (h : p m = false) : fl p (m + 1 - 2) = fl p (m - 2) := by
  have := fl_no (p := p) (k := m - 2) (by rw [show m - 2 + 2 = m by omega]; exact h)
  rw [show m + 1 - 2 = m - 2 + 1 by omega, this]
/-- A result that is a slice of the call's own. -/
def RetInts (B : Nat) (w : World) (l : List Int) (e : Ending) (w' : World) : Prop :=
  ∃ A c, e = .returned (.slice A l.length c) ∧ l.length ≤ c ∧ w'.ownsRow B 3 1 (.slice A l.length c) l.length (l.map intV) ∧ Below w.heap.size w w'
theorem own_form {w : World} {B : Nat} {e : TypeId} {size n : Nat} {v : Value} {xs : List Value} (h : w.ownsRow B e size v n xs) : ∃ A c, v = .slice A n c ∧ n ≤ c := by
  rcases h.2 with ⟨rfl, rfl⟩ | ⟨g, cap, cur, rfl, _, _, hc, _⟩
  · exact ⟨none, 0, rfl, Nat.le_refl _⟩
  · exact ⟨_, cap, rfl, hc⟩
theorem own_base {w : World} {B B' : Nat} {e : TypeId} {size n : Nat} {v : Value} {xs : List Value} (h : w.ownsRow B e size v n xs) (hB : B' ≤ B) : w.ownsRow B' e size v n xs := by
  refine ⟨h.1, ?_⟩
  rcases h.2 with h2 | ⟨g, cap, cur, rfl, hb, h3⟩
  · exact .inl h2
  · exact .inr ⟨g, cap, cur, rfl, by omega, h3⟩
theorem RetInts.mk' {B B' : Nat} {w w' : World} {v : Value} {l : List Int} (ho : w'.ownsRow B 3 1 v l.length (l.map intV)) (hb : Below w.heap.size w w') (hB : B' ≤ B) : RetInts B' w l (.returned v) w' := by
  obtain ⟨A, c, rfl, hc⟩ := own_form ho
  exact ⟨A, c, rfl, hc, own_base ho hB, hb⟩
structure LsI (w wr : World) (v : Value) (a b : Nat) (l : List Int) : Prop where
  box : Blk wr w.heap.size 24 #[.int .u64 (a : Int), .int .u64 (b : Int)]
  own : wr.ownsRow (w.heap.size + 1) 3 1 v l.length (l.map intV)
  below : Below w.heap.size w wr
theorem own_below {w w' : World} {B B' : Nat} {e : TypeId} {size n : Nat} {v : Value} {xs : List Value} (h : w.ownsRow B e size v n xs) (hb : Below w.heap.size w w') : w'.ownsRow B e size v n xs :=
  h.kept (row := none) ⟨hb.os, hb.tape, hb.output, hb.size, fun k hk _ => hb.block k hk⟩ (by rcases h.2 with ⟨rfl, _⟩ | ⟨g, cap, cur, rfl, _⟩ <;> simp [Value.ownBlock])
theorem LsI.has {w wr w1 : World} {v : Value} {a b : Nat} {l : List Int} (h : LsI w wr v a b l) (hb : Below wr.heap.size wr w1) : LsI w w1 v a b l :=
  ⟨h.box.below hb h.box.lt, own_below (B' := 0) h.own hb, h.below.trans (hb.mono h.below.size)⟩
theorem LsI.more {w wr w1 : World} {v v' : Value} {a b : Nat} {l : List Int} {o : Obj} {z : Int} (h : LsI w wr v a b l) (ho : w1.ownsRow (w.heap.size + 1) 3 1 v' (l.length + 1) (l.map intV ++ [intV z])) (hg : (wr.alloc o).grownBy w1 v.ownBlock) : LsI w w1 v' a b (l ++ [z]) := by
  have hl := h.own.lt
  have hsz := h.below.size
  refine ⟨(h.box.alloc o).grown hg (fun e => ?_), by simpa using ho, (h.below.alloc h.below.size o).grown hg (by simp; omega) fun k hk => by have := hl k hk; omega⟩
  have := hl _ e.symm
  omega
theorem rlist_any (B : Nat) (a b : Nat) (ha : a < 18446744073709551616) (hb : b < 18446744073709551616) (w : World) (hB : B ≤ w.heap.size) :
    Calls Tryd.prog 17 #[bmV a b] w (RetInts B w (fl (hasN a b) 127)) := by
  have HB := Lib.hid hB
  clear hB
  obtain ⟨i0, hi0, hz0, hz1, hz2⟩ := info_parts int_info
  go_enter Tryd.func17, Tryd.ntmps17
  go_wp2
  go_loopw [3, 4] (fun v i wr => ∃ m : Nat, 2 ≤ m ∧ m ≤ 129 ∧ i = .int .i64 m ∧ LsI w wr v a b (fl (hasN a b) (m - 2))) (fun _ i _ => 129 - (intOf i).toNat)
  case atStart => exact ⟨2, by omega, by omega, rfl, Blk.new _ _ _, ⟨by simp [fl], .inl ⟨rfl, rfl⟩⟩, (Below.refl _ _).alloc (Nat.le_refl _) _⟩
  case round =>
    obtain ⟨m, h2, hm, rfl, hI⟩ := hrel
    have HI := Lib.hid hI
    have b0 := hI.box.cell 0
    have b1 := hI.box.cell 1
    clear hI
    by_cases hlt : m ≤ 128
    · cases hh : hasN a b m
      · have HH := Lib.hid hh
        clear hh
        go_wp2_with fail
        refine (rhas_no a b m ha hb h2 hlt HH.out _).mono ?_
        rintro e w1 ⟨rfl, hb1⟩
        have R := Lib.hid (HI.out.has hb1)
        clear hb1
        go_wp2
        go_roundw
        case rel => exact ⟨m + 1, by omega, by omega, by go_num, by rw [fl_no2 h2 HH.out]; exact R.out⟩
        case measure => simp [intOf]; omega
      · have HH := Lib.hid hh
        clear hh
        go_wp2_with fail
        refine (rhas_yes a b m ha hb h2 hlt HH.out _).mono ?_
        rintro e w1 ⟨rfl, hb1⟩
        have R := Lib.hid (HI.out.has hb1)
        have hlen := fl_len (hasN a b) (m - 2)
        have hsz := R.out.below.size
        clear hb1
        go_wp2_with (at_builtin; refine wpList_append_own _ rfl _ _ 30 rfl (w.heap.size + 1) 3 i0 (.int .i64 0) 1 8 Tryd.underlying30 hi0 hz0 hz1 hz2 rfl (by decide) _ _ _ rfl (R.out.own.alloc _) ⟨w1.heap.size, 0, none⟩ 1 1 [.int .i64 (m : Int)] rfl rfl ?c1 ?c2 ?c3 ?c4 ?c5 ?_)
        case c1 =>
          intro j u hj
          match j, hj with
          | 0, hj => simp at hj; subst hj; simp [Addr.add]
        case c2 => intro u hu; simp at hu; subst hu; rfl
        case c3 => unfold maxLen; omega
        case c4 => omega
        case c5 => have := R.out.box.lt; simp; omega
        intro v' w2 hown' hgrow _
        have R2 := Lib.hid (R.out.more hown' hgrow)
        clear hown' hgrow
        go_wp2
        go_roundw
        case rel => exact ⟨m + 1, by omega, by omega, by go_num, by rw [fl_yes2 h2 HH.out]; exact R2.out⟩
        case measure => simp [intOf]; omega
    · have hm9 : m - 2 = 127 := by omega
      have HM := Lib.hid hm9
      clear hm9
      go_wp2
      go_ret
      have H1 := HI.out
      rw [HM.out] at H1
      exact RetInts.mk' H1.own H1.below (Nat.le_succ_of_le HB.out)
end Go.Proofs.YtacdfhgamjinbaaDoor
