/-
  WHAT IS SEALED IS OPENED, and a seal over a changed byte is not accepted.
-/
import Derived.Test.YtfchpobjepdpgaaDoorSum9
namespace Go.Proofs.YtfchpobjepdpgaaDoor
open Go.RowKit
set_option linter.unusedVariables false
theorem hd_inj : ∀ x : Nat, x < 16 → ∀ y : Nat, y < 16 → UInt8.ofNat (hdI x).toNat = UInt8.ofNat (hdI y).toNat → x = y := by decide +kernel
theorem hexI_inj (a b : Nat) : ∀ d, (hexI a d).map (fun n => UInt8.ofNat n.toNat) = (hexI b d).map (fun n => UInt8.ofNat n.toNat) → a % 16 ^ d = b % 16 ^ d
  | 0, _ => by simp [Nat.mod_one]
  | d + 1, h => by
    simp only [hexI, List.map_cons, List.cons.injEq] at h
    have h1 := hd_inj _ (Nat.mod_lt _ (by decide)) _ (Nat.mod_lt _ (by decide)) h.1
    have h2 := hexI_inj a b d h.2
    rw [Nat.mod_pow_succ, Nat.mod_pow_succ, h1, h2]
theorem hexS_inj {a b : Nat} (ha : a < 4294967296) (hb : b < 4294967296) (h : hexS a 8 = hexS b 8) : a = b := by
  have h1 := congrArg (fun x : ByteArray => x.data.toList) h
  simp only [hexS, strOfNums_data] at h1
  have h2 := hexI_inj a b 8 h1
  rwa [Nat.mod_eq_of_lt (by omega), Nat.mod_eq_of_lt (by omega)] at h2
theorem size_list (s : ByteArray) : s.data.toList.length = s.size := rfl
theorem ext_list {a b : ByteArray} (h : a.data.toList = b.data.toList) : a = b := ByteArray.ext (Array.toList_inj.1 h)
theorem extract_list (s : ByteArray) (i j : Nat) : (s.extract i j).data.toList = (s.data.toList.drop i).take (j - i) := by
  rw [ByteArray.data_extract]
  simp
theorem append_list (a b : ByteArray) : (a ++ b).data.toList = a.data.toList ++ b.data.toList := by
  rw [ByteArray.data_append]
  simp
theorem seal_size (s : ByteArray) (c : Nat) : (s ++ hexS c 8).size = s.size + 8 := by rw [ByteArray.size_append, hexS_size]
theorem inner_seal (s : ByteArray) (c : Nat) : (s ++ hexS c 8).extract 0 ((s ++ hexS c 8).size - 8) = s := by
  apply ext_list
  rw [extract_list, append_list, seal_size, List.drop_zero, Nat.sub_zero, Nat.add_sub_cancel, ← size_list, List.take_left]
theorem tail_seal (s : ByteArray) (c : Nat) : (s ++ hexS c 8).extract ((s ++ hexS c 8).size - 8) (s ++ hexS c 8).size = hexS c 8 := by
  apply ext_list
  rw [extract_list, append_list, seal_size, Nat.add_sub_cancel, ← size_list, List.drop_left, List.take_of_length_le]
  rw [size_list, hexS_size]; omega
theorem sealed_seal (s : ByteArray) : sealed (s ++ hexS (crcN s) 8) := by
  unfold sealed
  rw [inner_seal, tail_seal]
/-- A byte of the text is changed: the seal does not fit. -/
theorem not_sealed {s : ByteArray} {j : Nat} {x : UInt8} {l : List UInt8} (hj : j < s.size) (hx : x ≠ 0) (hl : l = (s ++ hexS (crcN s) 8).data.toList) (hjl : j < l.length) :
    ¬ sealed ⟨(l.set j (l[j] ^^^ x)).toArray⟩ := by
  intro h
  subst hl
  have hj2 : j < s.data.toList.length := by rw [size_list]; exact hj
  have hsz : (⟨(((s ++ hexS (crcN s) 8).data.toList).set j (((s ++ hexS (crcN s) 8).data.toList)[j] ^^^ x)).toArray⟩ : ByteArray).size = s.size + 8 := by
    rw [← size_list]
    simp only [List.length_set]
    rw [size_list, seal_size]
  have hget : ((s ++ hexS (crcN s) 8).data.toList)[j] = s.data.toList[j] := by
    simp only [append_list]
    rw [List.getElem_append_left hj2]
  have hset : ((s ++ hexS (crcN s) 8).data.toList).set j (((s ++ hexS (crcN s) 8).data.toList)[j] ^^^ x) = (s.data.toList.set j (s.data.toList[j] ^^^ x)) ++ (hexS (crcN s) 8).data.toList := by
    rw [hget, append_list, List.set_append_left _ _ hj2]
  unfold sealed at h
  rw [hsz, Nat.add_sub_cancel] at h
  have e1 : (⟨(((s ++ hexS (crcN s) 8).data.toList).set j (((s ++ hexS (crcN s) 8).data.toList)[j] ^^^ x)).toArray⟩ : ByteArray).extract 0 s.size = ⟨(s.data.toList.set j (s.data.toList[j] ^^^ x)).toArray⟩ := by
    apply ext_list
    rw [extract_list, hset]
    simp only [List.drop_zero, Nat.sub_zero]
    rw [show s.size = (s.data.toList.set j (s.data.toList[j] ^^^ x)).length by rw [List.length_set, size_list], List.take_left]
  have e2 : (⟨(((s ++ hexS (crcN s) 8).data.toList).set j (((s ++ hexS (crcN s) 8).data.toList)[j] ^^^ x)).toArray⟩ : ByteArray).extract s.size (s.size + 8) = hexS (crcN s) 8 := by
    apply ext_list
    rw [extract_list, hset]
    simp only
    rw [show s.size = (s.data.toList.set j (s.data.toList[j] ^^^ x)).length by rw [List.length_set, size_list], List.drop_left, List.take_of_length_le]
    rw [size_list, hexS_size]; omega
  rw [e1, e2] at h
  have h3 := hexS_inj (crcN_lt _) (crcN_lt _) h
  refine crc_other (l := s.data.toList.set j (s.data.toList[j] ^^^ x)) (s := s) (t := 8 * j) (v := x.toNat) (by rw [List.length_set, size_list]) (by omega) (Nat.lt_of_lt_of_le x.toNat_lt (by decide)) ?_ (big_set s.data.toList j hj2 x) h3
  intro e
  exact hx (UInt8.toNat_inj.1 e)
end Go.Proofs.YtfchpobjepdpgaaDoor
