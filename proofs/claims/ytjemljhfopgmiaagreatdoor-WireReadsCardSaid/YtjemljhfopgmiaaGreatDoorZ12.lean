/-
  CONTRACTS of wire: the program's Hex.
-/
import Derived.Test.YtjemljhfopgmiaaGreatDoorZ11
import Derived.Lib.FrozenHead
namespace Go.Proofs.YtjemljhfopgmiaaGreatDoor
open Go.RowKit
set_option linter.unusedVariables false
set_option linter.unusedSimpArgs false
abbrev IsB (B : Nat) (s : ByteArray) (w : World) : Prop := Lib.IsBuilder 59 5 B B (Lib.byteCells s.data.toList) w
abbrev IsBF (B : Nat) (s : ByteArray) (w : World) : Prop := Lib.IsBuilderF 59 5 B B (Lib.byteCells s.data.toList) w
theorem bf_later {B b : Nat} {p : Value} {xs : List Value} {v w : World} (h : Lib.BuilderAtF 59 5 B b p xs v) (hb : Below v.heap.size v w) : Lib.BuilderAtF 59 5 B b p xs w := by
  have hl := h.lt
  obtain ⟨h1, r, h2, h3, h4⟩ := h
  refine ⟨h1, r, by rw [hb.block b hl]; exact h2, h3.kept (row := none) ⟨hb.os, hb.tape, hb.output, hb.size, fun k hk _ => hb.block k hk⟩ ?_, h4⟩
  cases r.ownBlock <;> simp
theorem IsBF.later {B : Nat} {s : ByteArray} {v w : World} (h : IsBF B s v) (hb : Below v.heap.size v w) : IsBF B s w := by
  rcases h with h | h
  · exact .inl (bf_later h hb)
  · exact .inr (bf_later h hb)
theorem bc_snoc (s : ByteArray) (c : Int) (h0 : 0 ≤ c) (h1 : c ≤ 255) : Lib.byteCells s.data.toList ++ [.int .u8 c] = Lib.byteCells (s ++ one c).data.toList := by
  rw [ByteArray.data_append]
  unfold Lib.byteCells one
  simp [Array.toList_append]
  omega
theorem bc_len (s : ByteArray) : (Lib.byteCells s.data.toList).length = s.size := by unfold Lib.byteCells; simp
theorem wb_s (B : Nat) (s : ByteArray) (c : Int) (h0 : 0 ≤ c) (h1 : c ≤ 255) (w : World) (h : IsB B s w) (hlen : s.size ≤ 100000) (hBw : B ≤ w.heap.size) :
    Calls Tryz.prog 41 #[.pointer (some ⟨B, 0, none⟩), .int .u8 c] w fun e w' => e = .returned .nilIface ∧ IsB B (s ++ one c) w' ∧ Below B w w' := by
  have := wb_any B B _ c w h (by rw [bc_len]; omega) hBw
  rw [bc_snoc s c h0 h1] at this
  exact this
theorem fresh_isB (w : World) : IsB w.heap.size ByteArray.empty (w.alloc (.cells #[.pointer none, .slice none 0 0] 59)) := Lib.fresh_isBuilder 59 5 w
theorem fresh_bel (w : World) (o : Obj) : Below w.heap.size w (w.alloc o) := (Below.refl _ _).alloc (Nat.le_refl _) _
def HX : ByteArray := ⟨#[48, 49, 50, 51, 52, 53, 54, 55, 56, 57, 97, 98, 99, 100, 101, 102]⟩
/-- The hexadecimal digits of the first k bytes. -/
def hexS (s : ByteArray) : Nat → ByteArray
  | 0 => ByteArray.empty
  | k + 1 => hexS s k ++ one (byt HX ((byt s k).toNat / 16)) ++ one (byt HX ((byt s k).toNat % 16))
set_option maxHeartbeats 1600000 in
theorem hex_any (s : ByteArray) (hs : s.size ≤ 1000) (w : World) :
    Calls Tryz.prog 24 #[.string s] w fun e w' => e = .returned (.string (hexS s s.size)) ∧ Below w.heap.size w w' := by
  go_enter Tryz.func24, Tryz.ntmps24
  go_wp2_with fail
  go_loopw [4] (fun i wr => ∃ (k : Nat) (r : ByteArray), k ≤ s.size ∧ i = .int .i64 k ∧ IsB w.heap.size r wr ∧ Below w.heap.size w wr ∧ r.size ≤ 2 * k ∧ Hid (r = hexS s k)) (fun i _ => s.size - (intOf i).toNat)
  case atStart => exact ⟨0, _, Nat.zero_le _, rfl, fresh_isB w, fresh_bel w _, Nat.zero_le _, Lib.hid rfl⟩
  case round =>
    obtain ⟨k, r, hk, rfl, hib, hb, hz, HR⟩ := hrel
    have hzw := hb.size
    by_cases hlt : k < s.size
    · have hb256 : s[k].toNat < 256 := s[k].toNat_lt
      have HG := Lib.hid (byt_get s k hlt)
      have ha : s[k].toNat / 16 < HX.size := by show _ < 16; omega
      have hm : s[k].toNat % 16 < HX.size := by show _ < 16; omega
      have hA := HX[s[k].toNat / 16].toNat_lt
      have hM := HX[s[k].toNat % 16].toNat_lt
      have HS : Hid (hexS s (k + 1) = r ++ one (HX[s[k].toNat / 16].toNat : Int) ++ one (HX[s[k].toNat % 16].toNat : Int)) := Lib.hid (by rw [hexS, HG.out, Int.toNat_natCast, byt_get HX _ ha, byt_get HX _ hm, HR.out])
      go_wp2_with fail
      refine (wb_s w.heap.size r (HX[s[k].toNat / 16].toNat : Int) (by omega) (by omega) _ hib (by omega) hzw).mono ?_
      rintro e w1 ⟨rfl, hi1, hb1⟩
      have hz1 : (r ++ one (HX[s[k].toNat / 16].toNat : Int)).size = r.size + 1 := by rw [ByteArray.size_append, one_size]
      have hzw1 := hb1.size
      go_wp2_with fail
      refine (wb_s w.heap.size (r ++ one (HX[s[k].toNat / 16].toNat : Int)) (HX[s[k].toNat % 16].toNat : Int) (by omega) (by omega) _ hi1 (by omega) (by omega)).mono ?_
      rintro e w2 ⟨rfl, hi2, hb2⟩
      go_wp2
      go_roundw
      case rel => exact ⟨k + 1, _, by omega, by go_num, hi2, (hb.trans hb1).trans hb2, by rw [ByteArray.size_append, hz1, one_size]; omega, Lib.hid HS.out.symm⟩
      case measure => simp [intOf]; omega
    · obtain rfl : k = s.size := by omega
      have CS := Tryz.Builder_String_any w.heap.size w.heap.size r.data.toList
      go_wp2_with fail
      go_at_call 42
      refine (CS _ hib hzw).mono ?_
      rintro e w1 ⟨rfl, hb1⟩
      go_wp2
      go_ret
      exact ⟨ret_str HR.out, hb.trans hb1⟩
end Go.Proofs.YtjemljhfopgmiaaGreatDoor
