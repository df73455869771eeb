/-
  CONTRACTS of wire: Unhex, the program's and the specification's.
-/
import Derived.Test.YtjemljhfopgmiaaDoorW21
import Derived.StillTailTactics
namespace Go.Proofs.YtjemljhfopgmiaaDoor
open Go.RowKit
set_option linter.unusedVariables false
set_option linter.unusedSimpArgs false
/-- The bytes that the first k pairs of digits denote. -/
def unhS (s : ByteArray) : Nat → ByteArray
  | 0 => ByteArray.empty
  | k + 1 => unhS s k ++ one (16 * hv (byt s (2 * k)) + hv (byt s (2 * k + 1)))
/-- What Unhex answers. -/
def UnhP (s : ByteArray) (t : ByteArray) (e : Int) : Prop :=
  ((s.size % 2 = 1 ∨ ¬ LowP s) ∧ t = ByteArray.empty ∧ e = 2) ∨ (s.size % 2 = 0 ∧ LowP s ∧ t = unhS s (s.size / 2) ∧ e = 0)
theorem UnhP.uniq {s t t' : ByteArray} {e e' : Int} (h : UnhP s t e) (h' : UnhP s t' e') : t = t' ∧ e = e' := by
  rcases h with ⟨a, rfl, rfl⟩ | ⟨a, b, rfl, rfl⟩ <;> rcases h' with ⟨a', rfl, rfl⟩ | ⟨a', b', rfl, rfl⟩
  · exact ⟨rfl, rfl⟩
  · exfalso; rcases a with a | a
    · omega
    · exact a b'
  · exfalso; rcases a' with a' | a'
    · omega
    · exact a' b
  · exact ⟨rfl, rfl⟩
theorem nib_or0 : ∀ a : Nat, a < 16 → ∀ b : Nat, b < 16 → bits .or .u8 (16 * (a : Int)) (b : Int) = 16 * (a : Int) + (b : Int) := by decide +kernel
theorem nib_or {a b : Int} (a0 : 0 ≤ a) (a1 : a ≤ 15) (b0 : 0 ≤ b) (b1 : b ≤ 15) : bits .or .u8 (16 * a) b = 16 * a + b := by
  obtain ⟨x, rfl⟩ := Int.eq_ofNat_of_zero_le a0
  obtain ⟨y, rfl⟩ := Int.eq_ofNat_of_zero_le b0
  exact nib_or0 x (by omega) y (by omega)
set_option maxHeartbeats 1600000 in
set_option maxRecDepth 5000 in
theorem unhex_any (s : ByteArray) (hs : s.size ≤ 1000) (w : World) :
    Calls Tryd.prog 13 #[.string s] w fun e w' => (∃ t c, UnhP s t c ∧ e = .returned (.tuple #[.string t, .int .i64 c])) ∧ Below w.heap.size w w' := by
  by_cases hm : s.size % 2 = 1
  · have hm1 : ((s.size : Int).tmod 2) = 1 := by rw [Int.tmod_eq_emod_of_nonneg (by omega)]; omega
    have hm2 : (s.size : Int) % 2 = 1 := by omega
    have HM := Lib.hid hm
    clear hm
    go_enter Tryd.func13, Tryd.ntmps13
    go_wp2_with fail
    go_ret2
    exact ⟨⟨_, _, .inl ⟨.inl HM.out, rfl, rfl⟩, rfl⟩, Below.refl _ _⟩
  have hm1 : ((s.size : Int).tmod 2) = 0 := by rw [Int.tmod_eq_emod_of_nonneg (by omega)]; omega
  have hm2 : (s.size : Int) % 2 = 0 := by omega
  have HM : Hid (s.size % 2 = 0) := Lib.hid (by omega)
  clear hm
  go_enter Tryd.func13, Tryd.ntmps13
  go_wp2_with fail
  go_at_call 30
  refine (low_any s hs _).mono ?_
  rintro e w1 ⟨he, rfl⟩
  rcases he with ⟨hp, rfl⟩ | ⟨hp, rfl⟩
  · have HL := Lib.hid hp
    clear hp
    go_wp2_with fail
    go_loopw [5] (fun i wr => ∃ (k : Nat) (r : ByteArray), 2 * k ≤ s.size ∧ i = .int .i64 (2 * (k : Int)) ∧ IsB w.heap.size r wr ∧ Below w.heap.size w wr ∧ r.size ≤ k ∧ Hid (r = unhS s k)) (fun i _ => s.size - (intOf i).toNat)
    case atStart => exact ⟨0, _, Nat.zero_le _, rfl, fresh_isB w, fresh_bel w _, Nat.zero_le _, Lib.hid rfl⟩
    case round =>
      obtain ⟨k, r, hk, rfl, hib, hb, hz, HR⟩ := hrel
      have hzw := hb.size
      by_cases hlt : 2 * k < s.size
      · have hlt2 : 2 * k + 1 < s.size := by have := HM.out; omega
        have hx0 := fun w => ix_at s (2 * k) hlt (i := 2 * (k : Int)) (by omega) w
        have hx1 := fun w => ix_at s (2 * k + 1) hlt2 (i := 2 * (k : Int) + 1) (by omega) w
        have hwx : IntKind.i64.wrap (2 * (k : Int) + 1) = 2 * (k : Int) + 1 := IntWalk.i64_in _ (by omega)
        have H0 := Lib.hid (fun w => hexv_any _ (HL.out _ hlt) w)
        have H1 := Lib.hid (fun w => hexv_any _ (HL.out _ hlt2) w)
        obtain ⟨a0, a1⟩ := hv_bd (HL.out _ hlt)
        obtain ⟨b0, b1⟩ := hv_bd (HL.out _ hlt2)
        have HS : Hid (unhS s (k + 1) = r ++ one (16 * hv (byt s (2 * k)) + hv (byt s (2 * k + 1)))) := Lib.hid (by rw [unhS, HR.out])
        have hy0 := byt_bd s (2 * k)
        have hy1 := byt_bd s (2 * k + 1)
        have hor : bits .or .u8 (IntKind.u8.wrap (hv (byt s (2 * k)) * 16)) (hv (byt s (2 * k + 1))) = 16 * hv (byt s (2 * k)) + hv (byt s (2 * k + 1)) := by rw [show IntKind.u8.wrap (hv (byt s (2 * k)) * 16) = 16 * hv (byt s (2 * k)) by rw [IntKind.wrap_u8]; omega]; exact nib_or a0 a1 b0 b1
        generalize byt s (2 * k) = x at *
        generalize byt s (2 * k + 1) = y at *
        go_wp2_with fail
        go_still_tail 11, (by kernel_rfl)
        still_call ((H0.out _).mono fun _ _ h => ⟨h.1, h.2.symm⟩)
        repeat still_step
        still_call ((H1.out _).mono fun _ _ h => ⟨h.1, h.2.symm⟩)
        repeat still_step
        refine wpStill_nil ?_
        change wpList _ _ _ _ _ wr.drew
        clear hor
        have hi1 : IsB w.heap.size r wr.drew := hib
        have hbd : Below w.heap.size w wr.drew := hb.drew
        have hzd : w.heap.size ≤ wr.drew.heap.size := hzw
        generalize wr.drew = w2 at *
        clear hib hb hzw
        go_wp2_with fail
        refine (wb_s w.heap.size r (16 * hv x + hv y) (by omega) (by omega) _ hi1 (by omega) hzd).mono ?_
        rintro e w3 ⟨rfl, hi3, hb3⟩
        go_wp2
        go_roundw
        case rel => exact ⟨k + 1, _, by omega, by go_num, hi3, hbd.trans hb3, by rw [ByteArray.size_append, one_size]; omega, Lib.hid HS.out.symm⟩
        case measure => simp [intOf]; omega
      · have hke : Hid (k = s.size / 2) := Lib.hid (by omega)
        have CS := Tryd.Builder_String_any w.heap.size w.heap.size r.data.toList
        have HA : Hid (UnhP s r 0) := Lib.hid (.inr ⟨HM.out, HL.out, by rw [HR.out, hke.out], rfl⟩)
        go_wp2_with fail
        go_at_call 33
        refine (CS _ hib hzw).mono ?_
        rintro e w1 ⟨rfl, hb1⟩
        go_wp2
        go_ret2
        exact ⟨⟨_, _, HA.out, rfl⟩, hb.trans hb1⟩
  · have HL := Lib.hid hp
    clear hp
    go_wp2
    go_ret2
    exact ⟨⟨_, _, .inl ⟨.inr HL.out, rfl, rfl⟩, rfl⟩, Below.refl _ _⟩
end Go.Proofs.YtjemljhfopgmiaaDoor
