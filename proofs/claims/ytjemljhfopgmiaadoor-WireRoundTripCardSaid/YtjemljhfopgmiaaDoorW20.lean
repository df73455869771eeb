/-
  CONTRACTS of wire: the specification's Hex; lower-case hexadecimal digits.
-/
import Derived.Test.YtjemljhfopgmiaaDoorW19
namespace Go.Proofs.YtjemljhfopgmiaaDoor
open Go.RowKit
set_option linter.unusedVariables false
set_option linter.unusedSimpArgs false
theorem sl8 (s : ByteArray) (a b : Nat) (h1 : a ≤ b) (h2 : b ≤ s.size) {i j : Int} (hi : i = a) (hj : j = b) (w : World) : (Instr.slice 9 (.string s) (some (.int .u8 i)) (some (.int .u8 j)) none).run Tryd.prog w = .ok (.string (s.extract a b)) w := by
  subst hi
  subst hj
  rw [run_slice_string w 9 s .u8 .u8 (a : Int) (b : Int) Tryd.underlying9 (by omega) (by omega) (by omega)]
  rfl
set_option maxHeartbeats 1600000 in
theorem rhex_any (s : ByteArray) (hs : s.size ≤ 1000) (w : World) :
    Calls Tryd.prog 16 #[.string s] w fun e w' => e = .returned (.string (hexS s s.size)) ∧ Below w.heap.size w w' := by
  go_enter Tryd.func16, Tryd.ntmps16
  go_wp2_with fail
  go_loopw [3, 4] (fun r i wr => ∃ (k : Nat) (q : ByteArray), k ≤ s.size ∧ i = .int .i64 k ∧ r = .string q ∧ Below w.heap.size w wr ∧ q.size ≤ 2 * k ∧ Hid (q = hexS s k)) (fun _ i _ => s.size - (intOf i).toNat)
  case atStart => exact ⟨0, _, Nat.zero_le _, rfl, rfl, Below.refl _ _, Nat.zero_le _, Lib.hid rfl⟩
  case round =>
    obtain ⟨k, q, hk, rfl, rfl, hb, hz, HR⟩ := hrel
    by_cases hlt : k < s.size
    · have hb256 : s[k].toNat < 256 := s[k].toNat_lt
      have HG := Lib.hid (byt_get s k hlt)
      generalize s[k].toNat = n at *
      have ha : n / 16 < HX.size := by show _ < 16; omega
      have hm : n % 16 < HX.size := by show _ < 16; omega
      have h16 : HX.size = 16 := rfl
      have HS : Hid (hexS s (k + 1) = q ++ (HX.extract (n / 16) (n / 16 + 1) ++ HX.extract (n % 16) (n % 16 + 1))) := Lib.hid (by rw [extract_one HX _ ha, extract_one HX _ hm, hexS, HG.out, Int.toNat_natCast, HR.out, ByteArray.append_assoc])
      have za : (HX.extract (n / 16) (n / 16 + 1)).size = 1 := by rw [extract_one HX _ ha, one_size]
      have zm : (HX.extract (n % 16) (n % 16 + 1)).size = 1 := by rw [extract_one HX _ hm, one_size]
      have hA : ∀ w, (Instr.slice 9 (.string ⟨#[48, 49, 50, 51, 52, 53, 54, 55, 56, 57, 97, 98, 99, 100, 101, 102]⟩) (some (.int .u8 ((n : Int) / 16))) (some (.int .u8 ((n : Int) / 16 + 1))) none).run Tryd.prog w = .ok (.string (HX.extract (n / 16) (n / 16 + 1))) w := fun w => sl8 HX _ _ (by omega) (by omega) (by omega) (by omega) w
      have hM : ∀ w, (Instr.slice 9 (.string ⟨#[48, 49, 50, 51, 52, 53, 54, 55, 56, 57, 97, 98, 99, 100, 101, 102]⟩) (some (.int .u8 ((n : Int) % 16))) (some (.int .u8 ((n : Int) % 16 + 1))) none).run Tryd.prog w = .ok (.string (HX.extract (n % 16) (n % 16 + 1))) w := fun w => sl8 HX _ _ (by omega) (by omega) (by omega) (by omega) w
      generalize HX.extract (n / 16) (n / 16 + 1) = p1 at *
      generalize HX.extract (n % 16) (n % 16 + 1) = p2 at *
      have zc : (p1 ++ p2).size = 2 := by rw [ByteArray.size_append, za, zm]
      have hix : ∀ w, (Instr.index 9 (.string s) (.int .i64 (k : Int))).run Tryd.prog w = .ok (.int .u8 (n : Int)) w := fun w => by rw [ix_at s k hlt rfl w, HG.out]
      go_wp2
      go_quiet (fail)
      go_wp2
      go_quiet (fail)
      go_wp2
      go_roundw
      case rel => exact ⟨k + 1, _, by omega, by go_num, rfl, (hb.trans ⟨rfl, rfl, rfl, Nat.le_refl _, fun _ _ => rfl⟩).trans ⟨rfl, rfl, rfl, Nat.le_refl _, fun _ _ => rfl⟩, by rw [ByteArray.size_append, zc]; omega, Lib.hid HS.out.symm⟩
      case measure => simp [intOf]; omega
    · obtain rfl : k = s.size := by omega
      go_wp2
      go_ret
      exact ⟨ret_str HR.out, hb⟩
end Go.Proofs.YtjemljhfopgmiaaDoor
