/-
  CONTRACTS of card numbers: the examples of the chapter.
-/
import Derived.Test.YtddnfjaogekmjaaDoorP15
namespace Go.Proofs.YtddnfjaogekmjaaDoor
open Go.RowKit Go.Lib
set_option linter.unusedVariables false
set_option linter.unusedSimpArgs false
instance (s : ByteArray) (k : Nat) : Decidable (dgAt s k) := inferInstanceAs (Decidable (_ ∧ _))
def dgsC (s : ByteArray) : Bool := (List.range s.size).all fun k => decide (dgAt s k)
theorem dgs_of {s : ByteArray} (h : dgsC s = true) : Dgs s := fun k hk => of_decide_eq_true ((List.all_eq_true.1 h) k (List.mem_range.2 hk))
instance (s : ByteArray) (k : Nat) : Decidable (okAt s k) := inferInstanceAs (Decidable (_ ∨ _))
def okC (s : ByteArray) : Bool := (List.range s.size).all fun k => decide (okAt s k)
theorem ok_of {s : ByteArray} (h : okC s = true) : ∀ j, j < s.size → okAt s j := fun k hk => of_decide_eq_true ((List.all_eq_true.1 h) k (List.mem_range.2 hk))
instance (s : ByteArray) : Decidable (luhnP s) := inferInstanceAs (Decidable (_ = _))
theorem chk_of {s : ByteArray} (h1 : 12 ≤ s.size) (h2 : s.size ≤ 19) (h3 : dgsC s = true) (h4 : luhnP s) : chkE s = 0 := by
  unfold chkE
  rw [if_neg (by omega), if_neg (by omega), if_neg (fun h => h (dgs_of h3)), if_neg (fun h => h h4)]
theorem chk9_of {s : ByteArray} (h1 : 12 ≤ s.size) (h2 : s.size ≤ 19) (h3 : dgsC s = true) (h4 : ¬ luhnP s) : chkE s = 9 := by
  unfold chkE
  rw [if_neg (by omega), if_neg (by omega), if_neg (fun h => h (dgs_of h3)), if_pos h4]
theorem str_list {a b : ByteArray} (h : a.data.toList = b.data.toList) : a = b := by
  apply ByteArray.ext
  exact Array.toList_inj.1 h

def cardS : ByteArray := (⟨#[52, 48, 48, 48, 48, 48, 48, 48, 48, 48, 48, 48, 48, 48, 55, 55]⟩ : ByteArray)
theorem card_chk : chkE cardS = 0 := chk_of (by decide) (by decide) (by decide) (by decide)
theorem a_cd (w : World) : Calls Tryd.prog 11 #[.string (⟨#[55, 57, 57, 50, 55, 51, 57, 56, 55, 49]⟩ : ByteArray)] w fun e w' => e = .returned (.tuple #[.int .u8 51, .int .i64 0]) ∧ Below w.heap.size w w' := by
  have h : cdN (⟨#[55, 57, 57, 50, 55, 51, 57, 56, 55, 49]⟩ : ByteArray) = 3 := by decide
  have := cd_ok (⟨#[55, 57, 57, 50, 55, 51, 57, 56, 55, 49]⟩ : ByteArray) (by decide) (by decide) (dgs_of (by decide)) w
  rw [h] at this
  exact this
theorem a_l1 (w : World) : Calls Tryd.prog 13 #[.string (⟨#[55, 57, 57, 50, 55, 51, 57, 56, 55, 49, 51]⟩ : ByteArray)] w fun e w' => e = .returned (.bool true) ∧ Below w.heap.size w w' :=
  luhn_dg (⟨#[55, 57, 57, 50, 55, 51, 57, 56, 55, 49, 51]⟩ : ByteArray) (by decide) (by decide) (dgs_of (by decide)) (Lib.hid (by decide)) w
theorem a_l2 (w : World) : Calls Tryd.prog 13 #[.string (⟨#[55, 57, 57, 50, 55, 51, 57, 56, 55, 49, 48]⟩ : ByteArray)] w fun e w' => e = .returned (.bool false) ∧ Below w.heap.size w w' :=
  luhn_dg (⟨#[55, 57, 57, 50, 55, 51, 57, 56, 55, 49, 48]⟩ : ByteArray) (by decide) (by decide) (dgs_of (by decide)) (Lib.hid (by decide)) w
theorem a_ck (w : World) : Calls Tryd.prog 15 #[.string (⟨#[52, 49, 49, 49, 49, 49, 49, 49, 49, 49, 49, 49, 49, 49, 49, 50]⟩ : ByteArray)] w fun e w' => e = .returned (.int .i64 9) ∧ Below w.heap.size w w' := by
  have := check_any (⟨#[52, 49, 49, 49, 49, 49, 49, 49, 49, 49, 49, 49, 49, 49, 49, 50]⟩ : ByteArray) (by decide) w
  rwa [chk9_of (by decide) (by decide) (by decide) (by decide)] at this
theorem a_okx : OkX (⟨#[52, 48, 48, 48, 48, 48]⟩ : ByteArray) cardS := ⟨card_chk, by decide, by decide, by decide⟩
theorem a_idx : idxN (⟨#[52, 48, 48, 48, 48, 48]⟩ : ByteArray) cardS = 7 := by decide
theorem a_ix (w : World) (hT : Pow w) (hw : 4 ≤ w.heap.size) : Calls Tryd.prog 23 #[.string (⟨#[52, 48, 48, 48, 48, 48]⟩ : ByteArray), .string (⟨#[52, 48, 48, 48, 48, 48, 48, 48, 48, 48, 48, 48, 48, 48, 55, 55]⟩ : ByteArray)] w fun e w' => e = .returned (.tuple #[.int .i64 7, .bool true]) ∧ Below w.heap.size w w' := by
  have := index_ok _ _ a_okx w hT hw
  rwa [a_idx] at this
theorem a_mk (w : World) (hT : Pow w) (hw : 4 ≤ w.heap.size) : Calls Tryd.prog 21 #[.string (⟨#[52, 48, 48, 48, 48, 48]⟩ : ByteArray), .int .i64 7, .int .i64 16] w fun e w' => e = .returned (.tuple #[.string (⟨#[52, 48, 48, 48, 48, 48, 48, 48, 48, 48, 48, 48, 48, 48, 55, 55]⟩ : ByteArray), .int .i64 0]) ∧ Below w.heap.size w w' := by
  obtain ⟨m1, m2, m3, m4⟩ := made_idx a_okx
  rw [a_idx] at m1 m2
  have := make_ok (⟨#[52, 48, 48, 48, 48, 48]⟩ : ByteArray) 7 16 (by decide) m2 w hT hw
  rwa [show made (⟨#[52, 48, 48, 48, 48, 48]⟩ : ByteArray) 7 16 = (⟨#[52, 48, 48, 48, 48, 48, 48, 48, 48, 48, 48, 48, 48, 48, 55, 55]⟩ : ByteArray) from m1] at this
theorem a_st (w : World) : Calls Tryd.prog 27 #[.string (⟨#[52, 48, 48, 48, 45, 48, 48, 48, 48, 32, 48, 48, 48, 48, 32, 48, 48, 55, 55]⟩ : ByteArray)] w fun e w' => e = .returned (.tuple #[.string (⟨#[52, 48, 48, 48, 48, 48, 48, 48, 48, 48, 48, 48, 48, 48, 55, 55]⟩ : ByteArray), .int .i64 0]) ∧ Below w.heap.size w w' := by
  refine (strip_any _ (by decide) w).mono ?_
  rintro e w' ⟨r, c, rfl, hs, hb⟩
  have hr : strp (⟨#[52, 48, 48, 48, 45, 48, 48, 48, 48, 32, 48, 48, 48, 48, 32, 48, 48, 55, 55]⟩ : ByteArray) 19 = cardS := str_list (by decide)
  have hg : IsStrip (⟨#[52, 48, 48, 48, 45, 48, 48, 48, 48, 32, 48, 48, 48, 48, 32, 48, 48, 55, 55]⟩ : ByteArray) cardS 0 := .inr ⟨ok_of (by decide), by rw [show ((⟨#[52, 48, 48, 48, 45, 48, 48, 48, 48, 32, 48, 48, 48, 48, 32, 48, 48, 55, 55]⟩ : ByteArray)).size = 19 from rfl, hr, card_chk], by rw [if_pos rfl]; exact hr.symm⟩
  obtain ⟨rfl, rfl⟩ := hs.uniq hg
  exact ⟨rfl, hb⟩
theorem a_s2 (w : World) : Calls Tryd.prog 27 #[.string (⟨#[52, 48, 48, 48, 45, 45, 48, 48, 48, 48]⟩ : ByteArray)] w fun e w' => e = .returned (.tuple #[.string ByteArray.empty, .int .i64 2]) ∧ Below w.heap.size w w' := by
  refine (strip_any _ (by decide) w).mono ?_
  rintro e w' ⟨r, c, rfl, hs, hb⟩
  have hg : IsStrip (⟨#[52, 48, 48, 48, 45, 45, 48, 48, 48, 48]⟩ : ByteArray) ByteArray.empty 2 := .inl ⟨⟨4, by decide, by decide⟩, rfl, rfl⟩
  obtain ⟨rfl, rfl⟩ := hs.uniq hg
  exact ⟨rfl, hb⟩
theorem a_ma (w : World) : Calls Tryd.prog 17 #[.string (⟨#[52, 48, 48, 48, 48, 48, 48, 48, 48, 48, 48, 48, 48, 48, 55, 55]⟩ : ByteArray)] w fun e w' => e = .returned (.string (⟨#[52, 48, 48, 48, 48, 48, 42, 42, 42, 42, 42, 42, 48, 48, 55, 55]⟩ : ByteArray)) ∧ Below w.heap.size w w' := by
  refine (mask_ok cardS (by decide) (by decide) card_chk w).mono ?_
  rintro e w' ⟨r, rfl, hs, hb⟩
  have hg : IsMask cardS true (⟨#[52, 48, 48, 48, 48, 48, 42, 42, 42, 42, 42, 42, 48, 48, 55, 55]⟩ : ByteArray) := ⟨rfl, fun k hk => by
    have : ((List.range cardS.size).all fun k => decide (byt (⟨#[52, 48, 48, 48, 48, 48, 42, 42, 42, 42, 42, 42, 48, 48, 55, 55]⟩ : ByteArray) k = maskAt cardS true k)) = true := by decide
    exact of_decide_eq_true ((List.all_eq_true.1 this) k (List.mem_range.2 hk))⟩
  obtain rfl := hs.uniq hg
  exact ⟨rfl, hb⟩
theorem a_gr (w : World) : Calls Tryd.prog 19 #[.string (⟨#[52, 48, 48, 48, 48, 48, 48, 48, 48, 48, 48, 48, 48, 48, 55, 55]⟩ : ByteArray)] w fun e w' => e = .returned (.string (⟨#[52, 48, 48, 48, 32, 48, 48, 48, 48, 32, 48, 48, 48, 48, 32, 48, 48, 55, 55]⟩ : ByteArray)) ∧ Below w.heap.size w w' := by
  have := group_any cardS (by decide) w
  rwa [show grp cardS cardS.size = (⟨#[52, 48, 48, 48, 32, 48, 48, 48, 48, 32, 48, 48, 48, 48, 32, 48, 48, 55, 55]⟩ : ByteArray) from str_list (by decide)] at this
theorem a_wi (w : World) : Calls Tryd.prog 25 #[.string (⟨#[52, 48, 48, 48, 48, 48, 48, 48, 48, 48, 48, 48, 48, 48, 55, 55]⟩ : ByteArray), .string (⟨#[51, 57, 57, 57, 57, 57]⟩ : ByteArray), .string (⟨#[52, 48, 48, 48, 48, 48]⟩ : ByteArray)] w fun e w' => e = .returned (.bool true) ∧ w = w' := by
  have := within_any cardS (⟨#[51, 57, 57, 57, 57, 57]⟩ : ByteArray) (⟨#[52, 48, 48, 48, 48, 48]⟩ : ByteArray) (by decide) (by decide) (by decide) w
  have h : withinB cardS (⟨#[51, 57, 57, 57, 57, 57]⟩ : ByteArray) (⟨#[52, 48, 48, 48, 48, 48]⟩ : ByteArray) = true := by
    unfold withinB
    rw [show dgB cardS = true from @decide_eq_true _ (Classical.propDecidable _) (dgs_of (by decide)), show dgB (⟨#[51, 57, 57, 57, 57, 57]⟩ : ByteArray) = true from @decide_eq_true _ (Classical.propDecidable _) (dgs_of (by decide)), show dgB (⟨#[52, 48, 48, 48, 48, 48]⟩ : ByteArray) = true from @decide_eq_true _ (Classical.propDecidable _) (dgs_of (by decide))]
    unfold leS
    simp only [ByteArray.toList_eq]
    decide
  rwa [h] at this
end Go.Proofs.YtddnfjaogekmjaaDoor
