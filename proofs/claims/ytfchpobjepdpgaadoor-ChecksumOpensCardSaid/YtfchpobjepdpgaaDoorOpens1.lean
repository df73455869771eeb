/-
  WALKS: for every string, every place and every byte, the law ChecksumOpens returns true: what is sealed is opened, what is opened was sealed, a changed byte is not accepted, and the examples hold; the card ties the listed tables to the program's text. Conditions: none besides the form's own reach.
-/
import Derived.Test.YtfchpobjepdpgaaDoorSum10
import Derived.Deep.RegionWith
namespace Go.Proofs.YtfchpobjepdpgaaDoor.checksumOpens
open Go.RowKit
set_option linter.unusedVariables false
theorem xor_val (x : UInt8) (b : Nat) (hb : b < 256) : bits .xor .u8 (x.toNat : Int) (b : Int) = ((x.toNat ^^^ b % 256 : Nat) : Int) := by
  rw [u8_xor_nat _ _ x.toNat_lt hb, Nat.mod_eq_of_lt hb]
theorem row_xor {w : World} {g : Nat} {l : List UInt8} (h : Row w g l) (j : Nat) (hj : j < l.length) (b : Nat) : Row ((w.setCell ⟨g, j, none⟩ (.int .u8 ((l[j].toNat ^^^ b % 256 : Nat) : Int))).drew) g (l.set j (l[j] ^^^ UInt8.ofNat b)) := by
  have h1 := h.set j hj (l[j] ^^^ UInt8.ofNat b)
  rwa [UInt8.toNat_xor, UInt8.toNat_ofNat'] at h1
set_option maxHeartbeats 1000000 in
theorem walk_short_zero (s : ByteArray) (at_ : Nat) (by_ : Nat) (w : World) (hl2 : s.size ≤ 300) (HT : Hid (Tab w)) (hz : (s ++ hexS (crcN s) 8).size = s.size + 8)
    (HSS : Hid (sealed (s ++ hexS (crcN s) 8))) (HIN : Hid ((s ++ hexS (crcN s) 8).extract 0 ((s ++ hexS (crcN s) 8).size - 8) = s)) (h8 : s.size < 8) (hby : by_ = 0) :
    Calls Tryd.prog 7 #[.string s, .int .u16 (at_ : Int), .int .u8 (by_ : Int)] w fun e w' => e = .returned (.bool true) ∧ Below w.heap.size w w' := by
  subst hby
  go_enter Tryd.func7, Tryd.ntmps7
  go_wp2_with fail
  refine (seal2_any s (by omega) _ HT.out).mono ?_
  rintro e w1 ⟨rfl, hb1⟩
  have HT1 := Lib.hid (HT.out.below hb1 HT.out.1)
  go_wp2_with fail
  refine (open_ok _ (by omega) (by omega) _ HT1.out HSS.out).mono ?_
  rintro e w2 ⟨rfl, hb2⟩
  rw [HIN.out]
  have HT2 := Lib.hid (HT1.out.below hb2 HT1.out.1)
  have hb3 := hb1.trans (hb2.mono hb1.size)
  clear hb1 hb2 HT1
  go_wp2_with fail
  refine (open_short s h8 _).mono ?_
  rintro e w3 ⟨rfl, rfl⟩
  have HT4 := HT2
  have hb5 := hb3
  go_wp2_with fail
  refine (awake_any _ HT4.out).mono ?_
  rintro e w5 ⟨rfl, hb8⟩
  go_wp2
  go_ret
  exact ⟨rfl, hb5.trans (hb8.mono hb5.size)⟩
set_option maxHeartbeats 1000000 in
theorem walk_short_empty (s : ByteArray) (at_ : Nat) (by_ : Nat) (w : World) (hl2 : s.size ≤ 300) (HT : Hid (Tab w)) (hz : (s ++ hexS (crcN s) 8).size = s.size + 8)
    (HSS : Hid (sealed (s ++ hexS (crcN s) 8))) (HIN : Hid ((s ++ hexS (crcN s) 8).extract 0 ((s ++ hexS (crcN s) 8).size - 8) = s)) (h8 : s.size < 8) (hby : ((by_ : Int) == 0) = false) (hs0 : s.size = 0) :
    Calls Tryd.prog 7 #[.string s, .int .u16 (at_ : Int), .int .u8 (by_ : Int)] w fun e w' => e = .returned (.bool true) ∧ Below w.heap.size w w' := by
  go_enter Tryd.func7, Tryd.ntmps7
  go_wp2_with fail
  refine (seal2_any s (by omega) _ HT.out).mono ?_
  rintro e w1 ⟨rfl, hb1⟩
  have HT1 := Lib.hid (HT.out.below hb1 HT.out.1)
  go_wp2_with fail
  refine (open_ok _ (by omega) (by omega) _ HT1.out HSS.out).mono ?_
  rintro e w2 ⟨rfl, hb2⟩
  rw [HIN.out]
  have HT2 := Lib.hid (HT1.out.below hb2 HT1.out.1)
  have hb3 := hb1.trans (hb2.mono hb1.size)
  clear hb1 hb2 HT1
  go_wp2_with fail
  refine (open_short s h8 _).mono ?_
  rintro e w3 ⟨rfl, rfl⟩
  have HT4 := HT2
  have hb5 := hb3
  go_wp2_with fail
  refine (awake_any _ HT4.out).mono ?_
  rintro e w5 ⟨rfl, hb8⟩
  go_wp2
  go_ret
  exact ⟨rfl, hb5.trans (hb8.mono hb5.size)⟩
set_option maxHeartbeats 1000000 in
theorem walk_ok_zero (s : ByteArray) (at_ : Nat) (by_ : Nat) (w : World) (hl2 : s.size ≤ 300) (HT : Hid (Tab w)) (hz : (s ++ hexS (crcN s) 8).size = s.size + 8)
    (HSS : Hid (sealed (s ++ hexS (crcN s) 8))) (HIN : Hid ((s ++ hexS (crcN s) 8).extract 0 ((s ++ hexS (crcN s) 8).size - 8) = s)) (h8 : 8 ≤ s.size) (HSE : Hid (sealed s)) (hzi : (s.extract 0 (s.size - 8)).size = s.size - 8) (hE : ((s.extract 0 (s.size - 8) ++ hexS (crcN (s.extract 0 (s.size - 8))) 8).toList == s.toList) = true) (hby : by_ = 0) :
    Calls Tryd.prog 7 #[.string s, .int .u16 (at_ : Int), .int .u8 (by_ : Int)] w fun e w' => e = .returned (.bool true) ∧ Below w.heap.size w w' := by
  subst hby
  go_enter Tryd.func7, Tryd.ntmps7
  go_wp2_with fail
  refine (seal2_any s (by omega) _ HT.out).mono ?_
  rintro e w1 ⟨rfl, hb1⟩
  have HT1 := Lib.hid (HT.out.below hb1 HT.out.1)
  go_wp2_with fail
  refine (open_ok _ (by omega) (by omega) _ HT1.out HSS.out).mono ?_
  rintro e w2 ⟨rfl, hb2⟩
  rw [HIN.out]
  have HT2 := Lib.hid (HT1.out.below hb2 HT1.out.1)
  have hb3 := hb1.trans (hb2.mono hb1.size)
  clear hb1 hb2 HT1
  go_wp2_with fail
  refine (open_ok s h8 (by omega) _ HT2.out HSE.out).mono ?_
  rintro e w3 ⟨rfl, hb4⟩
  have HT3 := Lib.hid (HT2.out.below hb4 HT2.out.1)
  have hb6 := hb3.trans (hb4.mono hb3.size)
  clear hb3 hb4 HT2
  go_wp2_with fail
  refine (seal2_any (s.extract 0 (s.size - 8)) (by omega) _ HT3.out).mono ?_
  rintro e w4 ⟨rfl, hb7⟩
  have HT4 := Lib.hid (HT3.out.below hb7 HT3.out.1)
  have hb5 := hb6.trans (hb7.mono hb6.size)
  clear hb6 hb7 HT3
  go_wp2_with fail
  refine (awake_any _ HT4.out).mono ?_
  rintro e w5 ⟨rfl, hb8⟩
  go_wp2
  go_ret
  exact ⟨rfl, hb5.trans (hb8.mono hb5.size)⟩
set_option maxHeartbeats 1000000 in
theorem walk_bad_zero (s : ByteArray) (at_ : Nat) (by_ : Nat) (w : World) (hl2 : s.size ≤ 300) (HT : Hid (Tab w)) (hz : (s ++ hexS (crcN s) 8).size = s.size + 8)
    (HSS : Hid (sealed (s ++ hexS (crcN s) 8))) (HIN : Hid ((s ++ hexS (crcN s) 8).extract 0 ((s ++ hexS (crcN s) 8).size - 8) = s)) (h8 : 8 ≤ s.size) (HSE : Hid (¬ sealed s)) (hby : by_ = 0) :
    Calls Tryd.prog 7 #[.string s, .int .u16 (at_ : Int), .int .u8 (by_ : Int)] w fun e w' => e = .returned (.bool true) ∧ Below w.heap.size w w' := by
  subst hby
  go_enter Tryd.func7, Tryd.ntmps7
  go_wp2_with fail
  refine (seal2_any s (by omega) _ HT.out).mono ?_
  rintro e w1 ⟨rfl, hb1⟩
  have HT1 := Lib.hid (HT.out.below hb1 HT.out.1)
  go_wp2_with fail
  refine (open_ok _ (by omega) (by omega) _ HT1.out HSS.out).mono ?_
  rintro e w2 ⟨rfl, hb2⟩
  rw [HIN.out]
  have HT2 := Lib.hid (HT1.out.below hb2 HT1.out.1)
  have hb3 := hb1.trans (hb2.mono hb1.size)
  clear hb1 hb2 HT1
  go_wp2_with fail
  refine (open_bad s h8 (by omega) _ HT2.out HSE.out).mono ?_
  rintro e w3 ⟨rfl, hb4⟩
  have HT4 := Lib.hid (HT2.out.below hb4 HT2.out.1)
  have hb5 := hb3.trans (hb4.mono hb3.size)
  clear hb3 hb4 HT2
  go_wp2_with fail
  refine (awake_any _ HT4.out).mono ?_
  rintro e w5 ⟨rfl, hb8⟩
  go_wp2
  go_ret
  exact ⟨rfl, hb5.trans (hb8.mono hb5.size)⟩
set_option maxHeartbeats 1000000 in
theorem walk_short_else (s : ByteArray) (at_ : Nat) (by_ : Nat) (w : World) (hl2 : s.size ≤ 300) (HT : Hid (Tab w)) (hz : (s ++ hexS (crcN s) 8).size = s.size + 8)
    (HSS : Hid (sealed (s ++ hexS (crcN s) 8))) (HIN : Hid ((s ++ hexS (crcN s) 8).extract 0 ((s ++ hexS (crcN s) 8).size - 8) = s)) (h8 : s.size < 8) (hby0 : 0 < by_) (hby : ((by_ : Int) == 0) = false) (hby2 : by_ < 256) (ha : at_ < 65536) (hpos : 0 < s.size) (hne : ((s.size : Int) == 0) = false) :
    Calls Tryd.prog 7 #[.string s, .int .u16 (at_ : Int), .int .u8 (by_ : Int)] w fun e w' => e = .returned (.bool true) ∧ Below w.heap.size w w' := by
  go_enter Tryd.func7, Tryd.ntmps7
  go_wp2_with fail
  refine (seal2_any s (by omega) _ HT.out).mono ?_
  rintro e w1 ⟨rfl, hb1⟩
  have HT1 := Lib.hid (HT.out.below hb1 HT.out.1)
  go_wp2_with fail
  refine (open_ok _ (by omega) (by omega) _ HT1.out HSS.out).mono ?_
  rintro e w2 ⟨rfl, hb2⟩
  rw [HIN.out]
  have HT2 := Lib.hid (HT1.out.below hb2 HT1.out.1)
  have hb3 := hb1.trans (hb2.mono hb1.size)
  clear hb1 hb2 HT1
  go_wp2_with fail
  refine (open_short s h8 _).mono ?_
  rintro e w3 ⟨rfl, rfl⟩
  have HT4 := HT2
  have hb5 := hb3
  have hcv := fun w' => conv_bytes w' (s ++ hexS (crcN s) 8)
  go_wp2_with fail
  clear hcv
  obtain ⟨j, hjj⟩ : ∃ j, j = at_ % s.size := ⟨_, rfl⟩
  have hj : j < s.size := by rw [hjj]; exact Nat.mod_lt _ hpos
  have hm1 : (at_ : Int) % (s.size : Int) = (j : Int) := by rw [hjj]; rfl
  have hm2 : (at_ : Int).tmod (s.size : Int) = (j : Int) := by rw [Int.tmod_eq_emod_of_nonneg (by omega)]; exact hm1
  clear hjj
  have hR : Row ((w2.alloc (.cells (bytesRow (s ++ hexS (crcN s) 8) (grownCap w2 (s.size + 8) 0 5)) 5 ((bytesRow (s ++ hexS (crcN s) 8) (grownCap w2 (s.size + 8) 0 5)).size, (bytesRow (s ++ hexS (crcN s) 8) (grownCap w2 (s.size + 8) 0 5)).size + 1))).drew) w2.heap.size (s ++ hexS (crcN s) 8).data.toList := Row.new w2 (s ++ hexS (crcN s) 8) (grownCap w2 (s.size + 8) 0 5)
  have hbW : Below w2.heap.size w2 ((w2.alloc (.cells (bytesRow (s ++ hexS (crcN s) 8) (grownCap w2 (s.size + 8) 0 5)) 5 ((bytesRow (s ++ hexS (crcN s) 8) (grownCap w2 (s.size + 8) 0 5)).size, (bytesRow (s ++ hexS (crcN s) 8) (grownCap w2 (s.size + 8) 0 5)).size + 1))).drew) := ((Below.refl _ _).alloc (Nat.le_refl _) _).drew
  generalize (w2.alloc (.cells (bytesRow (s ++ hexS (crcN s) 8) (grownCap w2 (s.size + 8) 0 5)) 5 ((bytesRow (s ++ hexS (crcN s) 8) (grownCap w2 (s.size + 8) 0 5)).size, (bytesRow (s ++ hexS (crcN s) 8) (grownCap w2 (s.size + 8) 0 5)).size + 1))).drew = V at *
  obtain ⟨L, hL⟩ : ∃ L, L = (s ++ hexS (crcN s) 8).data.toList := ⟨_, rfl⟩
  have hLl : L.length = s.size + 8 := by rw [hL, size_list, hz]
  rw [← hL] at hR
  have hjL : j < L.length := by omega
  have hC : V.drew.cell? ⟨w2.heap.size, j, none⟩ = _ := hR.cell j hjL
  have hF : V.drew.frozen? ⟨w2.heap.size, j, none⟩ = _ := hR.frozen j hjL
  have hx := xor_val L[j] by_ hby2
  have HL := Lib.hid hL
  have HLl := Lib.hid hLl
  have hRN := row_xor hR j hjL by_
  have hstr := hRN.str (s.size + 8) (grownCap w2 (s.size + 8) 0 5) (by rw [List.length_set]; exact hLl)
  have hs5 : (⟨(L.set j (L[j] ^^^ UInt8.ofNat by_)).toArray⟩ : ByteArray).size = s.size + 8 := by rw [← size_list]; simp only [List.length_set]; exact hLl
  have HS5 := Lib.hid hs5
  have hne0 : UInt8.ofNat by_ ≠ 0 := by
    intro e
    have := congrArg UInt8.toNat e
    rw [UInt8.toNat_ofNat', Nat.mod_eq_of_lt (by simpa using hby2)] at this
    simp at this
    omega
  have HNS := Lib.hid (not_sealed hj hne0 hL hjL)
  have HT5 := Lib.hid (HT4.out.below ((hbW.setCell (p := ⟨w2.heap.size, j, none⟩) (Nat.le_refl _) (.int .u8 ((L[j].toNat ^^^ by_ % 256 : Nat) : Int))).drew) HT4.out.1)
  have hb9 := hb5.trans (((hbW.setCell (p := ⟨w2.heap.size, j, none⟩) (Nat.le_refl _) (.int .u8 ((L[j].toNat ^^^ by_ % 256 : Nat) : Int))).drew).mono hb5.size)
  clear hL hLl hR hRN hs5 hne0
  go_region
  go_wp2_with fail
  clear hstr hC hF hx hm1 hm2
  refine (open_bad _ (by rw [HS5.out]; omega) (by rw [HS5.out]; omega) _ HT5.out HNS.out).mono ?_
  rintro e w8 ⟨rfl, hb10⟩
  have HT6 := Lib.hid (HT5.out.below hb10 HT5.out.1)
  have hb11 := hb9.trans (hb10.mono hb9.size)
  clear hb9 hb10
  go_wp2_with fail
  refine (awake_any _ HT6.out).mono ?_
  rintro e w9 ⟨rfl, hb12⟩
  go_wp2
  go_ret
  exact ⟨rfl, hb11.trans (hb12.mono hb11.size)⟩
set_option maxHeartbeats 1000000 in
theorem walk_ok_else (s : ByteArray) (at_ : Nat) (by_ : Nat) (w : World) (hl2 : s.size ≤ 300) (HT : Hid (Tab w)) (hz : (s ++ hexS (crcN s) 8).size = s.size + 8)
    (HSS : Hid (sealed (s ++ hexS (crcN s) 8))) (HIN : Hid ((s ++ hexS (crcN s) 8).extract 0 ((s ++ hexS (crcN s) 8).size - 8) = s)) (h8 : 8 ≤ s.size) (HSE : Hid (sealed s)) (hzi : (s.extract 0 (s.size - 8)).size = s.size - 8) (hE : ((s.extract 0 (s.size - 8) ++ hexS (crcN (s.extract 0 (s.size - 8))) 8).toList == s.toList) = true) (hby0 : 0 < by_) (hby : ((by_ : Int) == 0) = false) (hby2 : by_ < 256) (ha : at_ < 65536) (hpos : 0 < s.size) (hne : ((s.size : Int) == 0) = false) :
    Calls Tryd.prog 7 #[.string s, .int .u16 (at_ : Int), .int .u8 (by_ : Int)] w fun e w' => e = .returned (.bool true) ∧ Below w.heap.size w w' := by
  go_enter Tryd.func7, Tryd.ntmps7
  go_wp2_with fail
  refine (seal2_any s (by omega) _ HT.out).mono ?_
  rintro e w1 ⟨rfl, hb1⟩
  have HT1 := Lib.hid (HT.out.below hb1 HT.out.1)
  go_wp2_with fail
  refine (open_ok _ (by omega) (by omega) _ HT1.out HSS.out).mono ?_
  rintro e w2 ⟨rfl, hb2⟩
  rw [HIN.out]
  have HT2 := Lib.hid (HT1.out.below hb2 HT1.out.1)
  have hb3 := hb1.trans (hb2.mono hb1.size)
  clear hb1 hb2 HT1
  go_wp2_with fail
  refine (open_ok s h8 (by omega) _ HT2.out HSE.out).mono ?_
  rintro e w3 ⟨rfl, hb4⟩
  have HT3 := Lib.hid (HT2.out.below hb4 HT2.out.1)
  have hb6 := hb3.trans (hb4.mono hb3.size)
  clear hb3 hb4 HT2
  go_wp2_with fail
  refine (seal2_any (s.extract 0 (s.size - 8)) (by omega) _ HT3.out).mono ?_
  rintro e w4 ⟨rfl, hb7⟩
  have HT4 := Lib.hid (HT3.out.below hb7 HT3.out.1)
  have hb5 := hb6.trans (hb7.mono hb6.size)
  clear hb6 hb7 HT3
  have hcv := fun w' => conv_bytes w' (s ++ hexS (crcN s) 8)
  go_wp2_with fail
  clear hcv
  obtain ⟨j, hjj⟩ : ∃ j, j = at_ % s.size := ⟨_, rfl⟩
  have hj : j < s.size := by rw [hjj]; exact Nat.mod_lt _ hpos
  have hm1 : (at_ : Int) % (s.size : Int) = (j : Int) := by rw [hjj]; rfl
  have hm2 : (at_ : Int).tmod (s.size : Int) = (j : Int) := by rw [Int.tmod_eq_emod_of_nonneg (by omega)]; exact hm1
  clear hjj
  have hR : Row ((w4.alloc (.cells (bytesRow (s ++ hexS (crcN s) 8) (grownCap w4 (s.size + 8) 0 5)) 5 ((bytesRow (s ++ hexS (crcN s) 8) (grownCap w4 (s.size + 8) 0 5)).size, (bytesRow (s ++ hexS (crcN s) 8) (grownCap w4 (s.size + 8) 0 5)).size + 1))).drew) w4.heap.size (s ++ hexS (crcN s) 8).data.toList := Row.new w4 (s ++ hexS (crcN s) 8) (grownCap w4 (s.size + 8) 0 5)
  have hbW : Below w4.heap.size w4 ((w4.alloc (.cells (bytesRow (s ++ hexS (crcN s) 8) (grownCap w4 (s.size + 8) 0 5)) 5 ((bytesRow (s ++ hexS (crcN s) 8) (grownCap w4 (s.size + 8) 0 5)).size, (bytesRow (s ++ hexS (crcN s) 8) (grownCap w4 (s.size + 8) 0 5)).size + 1))).drew) := ((Below.refl _ _).alloc (Nat.le_refl _) _).drew
  generalize (w4.alloc (.cells (bytesRow (s ++ hexS (crcN s) 8) (grownCap w4 (s.size + 8) 0 5)) 5 ((bytesRow (s ++ hexS (crcN s) 8) (grownCap w4 (s.size + 8) 0 5)).size, (bytesRow (s ++ hexS (crcN s) 8) (grownCap w4 (s.size + 8) 0 5)).size + 1))).drew = V at *
  obtain ⟨L, hL⟩ : ∃ L, L = (s ++ hexS (crcN s) 8).data.toList := ⟨_, rfl⟩
  have hLl : L.length = s.size + 8 := by rw [hL, size_list, hz]
  rw [← hL] at hR
  have hjL : j < L.length := by omega
  have hC : V.drew.cell? ⟨w4.heap.size, j, none⟩ = _ := hR.cell j hjL
  have hF : V.drew.frozen? ⟨w4.heap.size, j, none⟩ = _ := hR.frozen j hjL
  have hx := xor_val L[j] by_ hby2
  have HL := Lib.hid hL
  have HLl := Lib.hid hLl
  have hRN := row_xor hR j hjL by_
  have hstr := hRN.str (s.size + 8) (grownCap w4 (s.size + 8) 0 5) (by rw [List.length_set]; exact hLl)
  have hs5 : (⟨(L.set j (L[j] ^^^ UInt8.ofNat by_)).toArray⟩ : ByteArray).size = s.size + 8 := by rw [← size_list]; simp only [List.length_set]; exact hLl
  have HS5 := Lib.hid hs5
  have hne0 : UInt8.ofNat by_ ≠ 0 := by
    intro e
    have := congrArg UInt8.toNat e
    rw [UInt8.toNat_ofNat', Nat.mod_eq_of_lt (by simpa using hby2)] at this
    simp at this
    omega
  have HNS := Lib.hid (not_sealed hj hne0 hL hjL)
  have HT5 := Lib.hid (HT4.out.below ((hbW.setCell (p := ⟨w4.heap.size, j, none⟩) (Nat.le_refl _) (.int .u8 ((L[j].toNat ^^^ by_ % 256 : Nat) : Int))).drew) HT4.out.1)
  have hb9 := hb5.trans (((hbW.setCell (p := ⟨w4.heap.size, j, none⟩) (Nat.le_refl _) (.int .u8 ((L[j].toNat ^^^ by_ % 256 : Nat) : Int))).drew).mono hb5.size)
  clear hL hLl hR hRN hs5 hne0
  go_region
  go_wp2_with fail
  clear hstr hC hF hx hm1 hm2
  refine (open_bad _ (by rw [HS5.out]; omega) (by rw [HS5.out]; omega) _ HT5.out HNS.out).mono ?_
  rintro e w8 ⟨rfl, hb10⟩
  have HT6 := Lib.hid (HT5.out.below hb10 HT5.out.1)
  have hb11 := hb9.trans (hb10.mono hb9.size)
  clear hb9 hb10
  go_wp2_with fail
  refine (awake_any _ HT6.out).mono ?_
  rintro e w9 ⟨rfl, hb12⟩
  go_wp2
  go_ret
  exact ⟨rfl, hb11.trans (hb12.mono hb11.size)⟩
set_option maxHeartbeats 1000000 in
theorem walk_bad_else (s : ByteArray) (at_ : Nat) (by_ : Nat) (w : World) (hl2 : s.size ≤ 300) (HT : Hid (Tab w)) (hz : (s ++ hexS (crcN s) 8).size = s.size + 8)
    (HSS : Hid (sealed (s ++ hexS (crcN s) 8))) (HIN : Hid ((s ++ hexS (crcN s) 8).extract 0 ((s ++ hexS (crcN s) 8).size - 8) = s)) (h8 : 8 ≤ s.size) (HSE : Hid (¬ sealed s)) (hby0 : 0 < by_) (hby : ((by_ : Int) == 0) = false) (hby2 : by_ < 256) (ha : at_ < 65536) (hpos : 0 < s.size) (hne : ((s.size : Int) == 0) = false) :
    Calls Tryd.prog 7 #[.string s, .int .u16 (at_ : Int), .int .u8 (by_ : Int)] w fun e w' => e = .returned (.bool true) ∧ Below w.heap.size w w' := by
  go_enter Tryd.func7, Tryd.ntmps7
  go_wp2_with fail
  refine (seal2_any s (by omega) _ HT.out).mono ?_
  rintro e w1 ⟨rfl, hb1⟩
  have HT1 := Lib.hid (HT.out.below hb1 HT.out.1)
  go_wp2_with fail
  refine (open_ok _ (by omega) (by omega) _ HT1.out HSS.out).mono ?_
  rintro e w2 ⟨rfl, hb2⟩
  rw [HIN.out]
  have HT2 := Lib.hid (HT1.out.below hb2 HT1.out.1)
  have hb3 := hb1.trans (hb2.mono hb1.size)
  clear hb1 hb2 HT1
  go_wp2_with fail
  refine (open_bad s h8 (by omega) _ HT2.out HSE.out).mono ?_
  rintro e w3 ⟨rfl, hb4⟩
  have HT4 := Lib.hid (HT2.out.below hb4 HT2.out.1)
  have hb5 := hb3.trans (hb4.mono hb3.size)
  clear hb3 hb4 HT2
  have hcv := fun w' => conv_bytes w' (s ++ hexS (crcN s) 8)
  go_wp2_with fail
  clear hcv
  obtain ⟨j, hjj⟩ : ∃ j, j = at_ % s.size := ⟨_, rfl⟩
  have hj : j < s.size := by rw [hjj]; exact Nat.mod_lt _ hpos
  have hm1 : (at_ : Int) % (s.size : Int) = (j : Int) := by rw [hjj]; rfl
  have hm2 : (at_ : Int).tmod (s.size : Int) = (j : Int) := by rw [Int.tmod_eq_emod_of_nonneg (by omega)]; exact hm1
  clear hjj
  have hR : Row ((w3.alloc (.cells (bytesRow (s ++ hexS (crcN s) 8) (grownCap w3 (s.size + 8) 0 5)) 5 ((bytesRow (s ++ hexS (crcN s) 8) (grownCap w3 (s.size + 8) 0 5)).size, (bytesRow (s ++ hexS (crcN s) 8) (grownCap w3 (s.size + 8) 0 5)).size + 1))).drew) w3.heap.size (s ++ hexS (crcN s) 8).data.toList := Row.new w3 (s ++ hexS (crcN s) 8) (grownCap w3 (s.size + 8) 0 5)
  have hbW : Below w3.heap.size w3 ((w3.alloc (.cells (bytesRow (s ++ hexS (crcN s) 8) (grownCap w3 (s.size + 8) 0 5)) 5 ((bytesRow (s ++ hexS (crcN s) 8) (grownCap w3 (s.size + 8) 0 5)).size, (bytesRow (s ++ hexS (crcN s) 8) (grownCap w3 (s.size + 8) 0 5)).size + 1))).drew) := ((Below.refl _ _).alloc (Nat.le_refl _) _).drew
  generalize (w3.alloc (.cells (bytesRow (s ++ hexS (crcN s) 8) (grownCap w3 (s.size + 8) 0 5)) 5 ((bytesRow (s ++ hexS (crcN s) 8) (grownCap w3 (s.size + 8) 0 5)).size, (bytesRow (s ++ hexS (crcN s) 8) (grownCap w3 (s.size + 8) 0 5)).size + 1))).drew = V at *
  obtain ⟨L, hL⟩ : ∃ L, L = (s ++ hexS (crcN s) 8).data.toList := ⟨_, rfl⟩
  have hLl : L.length = s.size + 8 := by rw [hL, size_list, hz]
  rw [← hL] at hR
  have hjL : j < L.length := by omega
  have hC : V.drew.cell? ⟨w3.heap.size, j, none⟩ = _ := hR.cell j hjL
  have hF : V.drew.frozen? ⟨w3.heap.size, j, none⟩ = _ := hR.frozen j hjL
  have hx := xor_val L[j] by_ hby2
  have HL := Lib.hid hL
  have HLl := Lib.hid hLl
  have hRN := row_xor hR j hjL by_
  have hstr := hRN.str (s.size + 8) (grownCap w3 (s.size + 8) 0 5) (by rw [List.length_set]; exact hLl)
  have hs5 : (⟨(L.set j (L[j] ^^^ UInt8.ofNat by_)).toArray⟩ : ByteArray).size = s.size + 8 := by rw [← size_list]; simp only [List.length_set]; exact hLl
  have HS5 := Lib.hid hs5
  have hne0 : UInt8.ofNat by_ ≠ 0 := by
    intro e
    have := congrArg UInt8.toNat e
    rw [UInt8.toNat_ofNat', Nat.mod_eq_of_lt (by simpa using hby2)] at this
    simp at this
    omega
  have HNS := Lib.hid (not_sealed hj hne0 hL hjL)
  have HT5 := Lib.hid (HT4.out.below ((hbW.setCell (p := ⟨w3.heap.size, j, none⟩) (Nat.le_refl _) (.int .u8 ((L[j].toNat ^^^ by_ % 256 : Nat) : Int))).drew) HT4.out.1)
  have hb9 := hb5.trans (((hbW.setCell (p := ⟨w3.heap.size, j, none⟩) (Nat.le_refl _) (.int .u8 ((L[j].toNat ^^^ by_ % 256 : Nat) : Int))).drew).mono hb5.size)
  clear hL hLl hR hRN hs5 hne0
  go_region
  go_wp2_with fail
  clear hstr hC hF hx hm1 hm2
  refine (open_bad _ (by rw [HS5.out]; omega) (by rw [HS5.out]; omega) _ HT5.out HNS.out).mono ?_
  rintro e w8 ⟨rfl, hb10⟩
  have HT6 := Lib.hid (HT5.out.below hb10 HT5.out.1)
  have hb11 := hb9.trans (hb10.mono hb9.size)
  clear hb9 hb10
  go_wp2_with fail
  refine (awake_any _ HT6.out).mono ?_
  rintro e w9 ⟨rfl, hb12⟩
  go_wp2
  go_ret
  exact ⟨rfl, hb11.trans (hb12.mono hb11.size)⟩
end Go.Proofs.YtfchpobjepdpgaaDoor.checksumOpens
