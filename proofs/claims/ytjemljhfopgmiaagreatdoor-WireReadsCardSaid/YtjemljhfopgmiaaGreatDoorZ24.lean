/-
  CONTRACTS of wire: the specification's reader: its methods.
-/
import Derived.Test.YtjemljhfopgmiaaGreatDoorZ23
namespace Go.Proofs.YtjemljhfopgmiaaGreatDoor
open Go.RowKit
set_option linter.unusedVariables false
set_option linter.unusedSimpArgs false
theorem ext_ext (s : ByteArray) (a b : Nat) (h : a ≤ b) (hb : b ≤ s.size) : (s.extract 0 b).extract a (s.extract 0 b).size = s.extract a b := by
  have hz : (s.extract 0 b).size = b := by rw [size_extract' _ _ _ hb]; omega
  apply byt_ext
  · rw [size_extract' _ _ _ (Nat.le_refl _), hz, size_extract' _ _ _ hb]
  · intro k hk
    rw [size_extract' _ _ _ (Nat.le_refl _), hz] at hk
    rw [byt_extract _ _ _ _ (Nat.le_refl _) (by omega), byt_extract _ _ _ _ hb (by omega), byt_extract _ _ _ _ hb (by omega), Nat.zero_add]
set_option maxHeartbeats 3200000 in
set_option maxRecDepth 4000 in
theorem snum (d : Int) (b : Nat) (s : ByteArray) (c0 : Int) (hs : s.size ≤ 281474976710656) (w : World) (hb : Blk w b RST #[.string s, .int .i64 c0]) :
    Calls Tryz.prog 14 #[.pointer (some ⟨b, 0, none⟩), .int .i64 d] w fun e w' => ∃ v n c, NumZ s c0 d v n c ∧ e = .returned (.int .i64 v) ∧ Blk w' b RST #[.string (restS s n c), .int .i64 c] ∧ Bes b w.heap.size w w' := by
  have b0 := hb.cell 0
  have b1 := hb.cell 1
  simp at b0 b1
  have HB := Lib.hid hb
  clear hb
  by_cases h0 : c0 = 0
  case neg =>
    have hcc : (c0 == 0) = false := by simpa using h0
    have hcc2 : (c0 != 0) = true := by simpa using h0
    have H0 := Lib.hid h0
    go_enter Tryz.func14, Tryz.ntmps14
    go_wp2
    go_ret
    exact ⟨_, 0, c0, .inl ⟨H0.out, rfl, rfl, rfl⟩, rfl, by rw [restS_no s 0 H0.out]; exact HB.out, Bes.of (Below.refl _ _)⟩
  subst h0
  by_cases h1 : d < 1
  · skip
    go_enter Tryz.func14, Tryz.ntmps14
    go_wp2_with fail
    go_at_call 33
    refine (rfail_any b s 0 _ _ HB.out).mono ?_
    rintro e w1 ⟨⟨t, rfl⟩, hb1, hs1⟩
    go_wp2
    go_ret
    exact ⟨_, 0, 4, .inr ⟨rfl, .inl ⟨by omega, rfl, rfl, rfl⟩⟩, rfl, by rw [restS_no s _ (by decide)]; exact hb1, hs1⟩
  by_cases h2 : 15 < d
  · skip
    go_enter Tryz.func14, Tryz.ntmps14
    go_wp2_with fail
    go_at_call 33
    refine (rfail_any b s 0 _ _ HB.out).mono ?_
    rintro e w1 ⟨⟨t, rfl⟩, hb1, hs1⟩
    go_wp2
    go_ret
    exact ⟨_, 0, 4, .inr ⟨rfl, .inl ⟨by omega, rfl, rfl, rfl⟩⟩, rfl, by rw [restS_no s _ (by decide)]; exact hb1, hs1⟩
  obtain ⟨k, rfl⟩ := Int.eq_ofNat_of_zero_le (show 0 ≤ d by omega)
  by_cases h3 : s.size < k
  · skip
    go_enter Tryz.func14, Tryz.ntmps14
    go_wp2_with fail
    go_at_call 33
    refine (rfail_any b s 0 _ _ HB.out).mono ?_
    rintro e w1 ⟨⟨t, rfl⟩, hb1, hs1⟩
    go_wp2
    go_ret
    exact ⟨_, k, 1, .inr ⟨rfl, .inr ⟨by omega, .inl ⟨h3, rfl, rfl⟩, rfl⟩⟩, rfl, by rw [restS_no s _ (by decide)]; exact hb1, hs1⟩
  have hz : (s.extract 0 k).size = k := by rw [size_extract' _ _ _ (by omega)]; omega
  have hsl := fun w => sl_h s k (by omega) (j := (k : Int)) rfl w
  have DG := Lib.hid (fun w => rdigits_any (s.extract 0 k) (by omega) w)
  have RN : Hid (Dgs (s.extract 0 k) → ∀ w, Calls Tryz.prog 35 #[.string (s.extract 0 k)] w fun e w' => e = .returned (.int .i64 (numOf (s.extract 0 k) 0 k)) ∧ w = w') := Lib.hid fun h w => by
    have := rnumber_any (s.extract 0 k) (by omega) h w
    rwa [hz] at this
  have TK := Lib.hid (fun w hb => rtake_any b s 0 k (by omega) hs w hb)
  have R2 : Hid (¬ Dgs (s.extract 0 k) → NumbP s k 0 2) := Lib.hid fun h => .inr (.inl ⟨by omega, h, rfl, rfl⟩)
  have R3 : Hid (Dgs (s.extract 0 k) → NumbP s k (numOf (s.extract 0 k) 0 k) 0) := Lib.hid fun h => .inr (.inr ⟨by omega, h, rfl, rfl⟩)
  generalize numOf (s.extract 0 k) 0 k = v at *
  generalize s.extract 0 k = q at *
  go_enter Tryz.func14, Tryz.ntmps14
  go_wp2_with fail
  go_at_call 34
  refine (DG.out _).mono ?_
  rintro e w1 ⟨he, rfl⟩
  rcases he with ⟨hd, rfl⟩ | ⟨hd, rfl⟩
  · have HD := Lib.hid hd
    clear hd
    go_wp2_with fail
    go_at_call 36
    refine (TK.out _ HB.out).mono ?_
    rintro e w1 ⟨rfl, hb1, hs1⟩
    go_wp2_with fail
    go_at_call 35
    refine (RN.out HD.out _).mono ?_
    rintro e w2 ⟨rfl, rfl⟩
    go_wp2
    go_ret
    exact ⟨v, k, 0, .inr ⟨rfl, .inr ⟨by omega, R3.out HD.out, rfl⟩⟩, rfl, by rw [restS_ok]; exact hb1, hs1⟩
  · have HD := Lib.hid hd
    clear hd
    go_wp2_with fail
    go_at_call 33
    refine (rfail_any b s 0 _ _ HB.out).mono ?_
    rintro e w1 ⟨⟨t, rfl⟩, hb1, hs1⟩
    go_wp2
    go_ret
    exact ⟨_, k, 2, .inr ⟨rfl, .inr ⟨by omega, R2.out HD.out, rfl⟩⟩, rfl, by rw [restS_no s _ (by decide)]; exact hb1, hs1⟩
set_option maxHeartbeats 3200000 in
set_option maxRecDepth 4000 in
theorem stake (d : Int) (b : Nat) (s : ByteArray) (c0 : Int) (hs : s.size ≤ 281474976710656) (w : World) (hb : Blk w b RST #[.string s, .int .i64 c0]) :
    Calls Tryz.prog 17 #[.pointer (some ⟨b, 0, none⟩), .int .i64 d] w fun e w' => ∃ v n c, TkZ s c0 d v n c ∧ e = .returned (.string v) ∧ Blk w' b RST #[.string (restS s n c), .int .i64 c] ∧ Bes b w.heap.size w w' := by
  have b0 := hb.cell 0
  have b1 := hb.cell 1
  simp at b0 b1
  have HB := Lib.hid hb
  clear hb
  by_cases h0 : c0 = 0
  case neg =>
    have hcc : (c0 == 0) = false := by simpa using h0
    have hcc2 : (c0 != 0) = true := by simpa using h0
    have H0 := Lib.hid h0
    go_enter Tryz.func17, Tryz.ntmps17
    go_wp2
    go_ret
    exact ⟨_, 0, c0, .inl ⟨H0.out, rfl, rfl, rfl⟩, rfl, by rw [restS_no s 0 H0.out]; exact HB.out, Bes.of (Below.refl _ _)⟩
  subst h0
  by_cases h1 : d < 0
  · skip
    go_enter Tryz.func17, Tryz.ntmps17
    go_wp2_with fail
    go_at_call 33
    refine (rfail_any b s 0 _ _ HB.out).mono ?_
    rintro e w1 ⟨⟨t, rfl⟩, hb1, hs1⟩
    go_wp2
    go_ret
    exact ⟨_, 0, 4, .inr ⟨rfl, .inl ⟨by omega, rfl, rfl, rfl⟩⟩, rfl, by rw [restS_no s _ (by decide)]; exact hb1, hs1⟩
  obtain ⟨k, rfl⟩ := Int.eq_ofNat_of_zero_le (show 0 ≤ d by omega)
  by_cases h3 : s.size < k
  · skip
    go_enter Tryz.func17, Tryz.ntmps17
    go_wp2_with fail
    go_at_call 33
    refine (rfail_any b s 0 _ _ HB.out).mono ?_
    rintro e w1 ⟨⟨t, rfl⟩, hb1, hs1⟩
    go_wp2
    go_ret
    exact ⟨_, 0, 1, .inr ⟨rfl, .inr ⟨by omega, .inl ⟨h3, rfl, rfl, rfl⟩⟩⟩, rfl, by rw [restS_no s _ (by decide)]; exact hb1, hs1⟩
  have TK := Lib.hid (fun w hb => rtake_any b s 0 k (by omega) hs w hb)
  have R3 : Hid (TkR s k k 0 (s.extract 0 k)) := Lib.hid (.inr ⟨by omega, rfl, rfl, rfl⟩)
  generalize s.extract 0 k = q at *
  go_enter Tryz.func17, Tryz.ntmps17
  go_wp2_with fail
  go_at_call 36
  refine (TK.out _ HB.out).mono ?_
  rintro e w1 ⟨rfl, hb1, hs1⟩
  go_wp2
  go_ret
  exact ⟨q, k, 0, .inr ⟨rfl, .inr ⟨by omega, R3.out⟩⟩, rfl, by rw [restS_ok]; exact hb1, hs1⟩
set_option maxHeartbeats 3200000 in
set_option maxRecDepth 4000 in
theorem salpha (d : Int) (b : Nat) (s : ByteArray) (c0 : Int) (hs : s.size ≤ 281474976710656) (w : World) (hb : Blk w b RST #[.string s, .int .i64 c0]) :
    Calls Tryz.prog 15 #[.pointer (some ⟨b, 0, none⟩), .int .i64 d] w fun e w' => ∃ v n c, AlZ s c0 d v n c ∧ e = .returned (.string v) ∧ Blk w' b RST #[.string (restS s n c), .int .i64 c] ∧ Bes b w.heap.size w w' := by
  have b0 := hb.cell 0
  have b1 := hb.cell 1
  simp at b0 b1
  have HB := Lib.hid hb
  clear hb
  by_cases h0 : c0 = 0
  case neg =>
    have hcc : (c0 == 0) = false := by simpa using h0
    have hcc2 : (c0 != 0) = true := by simpa using h0
    have H0 := Lib.hid h0
    go_enter Tryz.func15, Tryz.ntmps15
    go_wp2
    go_ret
    exact ⟨_, 0, c0, .inl ⟨H0.out, rfl, rfl, rfl⟩, rfl, by rw [restS_no s 0 H0.out]; exact HB.out, Bes.of (Below.refl _ _)⟩
  subst h0
  by_cases h1 : d < 1
  · skip
    go_enter Tryz.func15, Tryz.ntmps15
    go_wp2_with fail
    go_at_call 33
    refine (rfail_any b s 0 _ _ HB.out).mono ?_
    rintro e w1 ⟨⟨t, rfl⟩, hb1, hs1⟩
    go_wp2
    go_ret
    exact ⟨_, 0, 4, .inr ⟨rfl, .inl ⟨by omega, rfl, rfl, rfl⟩⟩, rfl, by rw [restS_no s _ (by decide)]; exact hb1, hs1⟩
  by_cases h2 : 255 < d
  · skip
    go_enter Tryz.func15, Tryz.ntmps15
    go_wp2_with fail
    go_at_call 33
    refine (rfail_any b s 0 _ _ HB.out).mono ?_
    rintro e w1 ⟨⟨t, rfl⟩, hb1, hs1⟩
    go_wp2
    go_ret
    exact ⟨_, 0, 4, .inr ⟨rfl, .inl ⟨by omega, rfl, rfl, rfl⟩⟩, rfl, by rw [restS_no s _ (by decide)]; exact hb1, hs1⟩
  obtain ⟨k, rfl⟩ := Int.eq_ofNat_of_zero_le (show 0 ≤ d by omega)
  by_cases h3 : s.size < k
  · skip
    go_enter Tryz.func15, Tryz.ntmps15
    go_wp2_with fail
    go_at_call 33
    refine (rfail_any b s 0 _ _ HB.out).mono ?_
    rintro e w1 ⟨⟨t, rfl⟩, hb1, hs1⟩
    go_wp2
    go_ret
    exact ⟨_, 0, 1, .inr ⟨rfl, .inr ⟨by omega, .inl ⟨h3, rfl, rfl, rfl⟩⟩⟩, rfl, by rw [restS_no s _ (by decide)]; exact hb1, hs1⟩
  have hz : (s.extract 0 k).size = k := by rw [size_extract' _ _ _ (by omega)]; omega
  have hsl := fun w => sl_h s k (by omega) (j := (k : Int)) rfl w
  have DG := Lib.hid (fun w => rpr_any (s.extract 0 k) (by omega) w)
  have TK := Lib.hid (fun w hb => rtake_any b s 0 k (by omega) hs w hb)
  have R2 : Hid (¬ Prs (s.extract 0 k) → AlR s k 0 2 ByteArray.empty) := Lib.hid fun h => .inr (.inl ⟨by omega, h, rfl, rfl, rfl⟩)
  have R3 : Hid (Prs (s.extract 0 k) → ∀ t, t = trimS (s.extract 0 k) → AlR s k k 0 t) := Lib.hid fun h t ht => .inr (.inr ⟨by omega, h, rfl, rfl, ht⟩)
  generalize s.extract 0 k = q at *
  go_enter Tryz.func15, Tryz.ntmps15
  go_wp2_with fail
  go_at_call 37
  refine (DG.out _).mono ?_
  rintro e w1 ⟨he, rfl⟩
  rcases he with ⟨hd, rfl⟩ | ⟨hd, rfl⟩
  · have HD := Lib.hid hd
    clear hd
    go_wp2_with fail
    go_at_call 36
    refine (TK.out _ HB.out).mono ?_
    rintro e w1 ⟨rfl, hb1, hs1⟩
    have HB1 := Lib.hid hb1
    have HS1 := Lib.hid hs1
    clear hb1 hs1
    go_wp2_with fail
    go_loop [5] (fun v => ∃ p : ByteArray, v = .string p ∧ p.size ≤ 255 ∧ Hid (trimS p = trimS q)) (fun v => match v with | .string t => t.size | _ => 0)
    case atStart => exact ⟨q, rfl, by omega, Lib.hid rfl⟩
    case round =>
      obtain ⟨p, rfl, hp, HT⟩ := hrel
      by_cases hp0 : p.size = 0
      · obtain rfl : p = ByteArray.empty := ByteArray.size_eq_zero_iff.1 hp0
        have HF := Lib.hid (R3.out HD.out ByteArray.empty (by rw [← HT.out]; exact (trim_no (fun h => absurd h.1 (by decide))).symm))
        go_wp2
        go_ret
        exact ⟨_, k, 0, .inr ⟨rfl, .inr ⟨by omega, HF.out⟩⟩, rfl, by rw [restS_ok]; exact HB1.out, HS1.out⟩
      · have hne : p.toList.isEmpty = false := nonempty_list (by omega)
        have hne1 : ¬ p.toList = [] := fun h => by rw [h] at hne; exact absurd hne (by decide)
        have hne2 : (!p.toList.isEmpty) = true := by rw [hne]; rfl
        have hx := fun w => ix_at p (p.size - 1) (by omega) (i := (p.size : Int) - 1) (by omega) w
        have hh := fun w => sl_h p (p.size - 1) (by omega) (j := (p.size : Int) - 1) (by omega) w
        have hy := byt_bd p (p.size - 1)
        by_cases hB : byt p (p.size - 1) = 32
        · have HS := Lib.hid ((trim_step ⟨by omega, hB⟩).trans HT.out)
          have hz2 : (p.extract 0 (p.size - 1)).size = p.size - 1 := by rw [size_extract' _ _ _ (by omega)]; omega
          rw [hB] at hx
          clear hB hy
          generalize p.extract 0 (p.size - 1) = p2 at *
          go_wp2
          go_round
          case rel => exact ⟨p2, rfl, by omega, HS⟩
          case measure => simp; omega
        · have HF := Lib.hid (R3.out HD.out p (by rw [← HT.out]; exact (trim_no (fun h => hB h.2)).symm))
          have hb32 : (byt p (p.size - 1) == 32) = false := by simpa using hB
          generalize byt p (p.size - 1) = y at *
          go_wp2
          go_ret
          exact ⟨_, k, 0, .inr ⟨rfl, .inr ⟨by omega, HF.out⟩⟩, rfl, by rw [restS_ok]; exact HB1.out, HS1.out⟩
  · have HD := Lib.hid hd
    clear hd
    go_wp2_with fail
    go_at_call 33
    refine (rfail_any b s 0 _ _ HB.out).mono ?_
    rintro e w1 ⟨⟨t, rfl⟩, hb1, hs1⟩
    go_wp2
    go_ret
    exact ⟨_, 0, 2, .inr ⟨rfl, .inr ⟨by omega, R2.out HD.out⟩⟩, rfl, by rw [restS_no s _ (by decide)]; exact hb1, hs1⟩
set_option maxHeartbeats 3200000 in
set_option maxRecDepth 30000 in
theorem svar_2 (m : Int) (m0 : 0 ≤ m) (b : Nat) (s : ByteArray) (hs : s.size ≤ 281474976710656) (w : World) (hb : Blk w b RST #[.string s, .int .i64 0]) :
    Calls Tryz.prog 16 #[.pointer (some ⟨b, 0, none⟩), .int .i64 2, .int .i64 m] w fun e w' => ∃ v n c, VarR s 2 m n c v ∧ e = .returned (.string v) ∧ Blk w' b RST #[.string (restS s n c), .int .i64 c] ∧ Bes b w.heap.size w w' := by
  have b0 := hb.cell 0
  have b1 := hb.cell 1
  simp at b0 b1
  have HB := Lib.hid hb
  clear hb
  by_cases h3 : s.size < 2
  · have HV : Hid (VarR s 2 m 0 1 ByteArray.empty) := Lib.hid ⟨0, 1, .inl ⟨h3, rfl, rfl⟩, .inl ⟨by decide, rfl, rfl, rfl⟩⟩
    go_enter Tryz.func16, Tryz.ntmps16
    go_wp2_with fail
    go_at_call 33
    refine (rfail_any b s 0 _ _ HB.out).mono ?_
    rintro e w1 ⟨⟨t, rfl⟩, hb1, hs1⟩
    go_wp2
    go_ret
    exact ⟨_, 0, 1, HV.out, rfl, by rw [restS_no s _ (by decide)]; exact hb1, hs1⟩
  have hz : (s.extract 0 2).size = 2 := by rw [size_extract' _ _ _ (by omega)]
  have hsl := fun w => sl_h s 2 (by omega) (j := 2) rfl w
  have DG := Lib.hid (fun w => rdigits_any (s.extract 0 2) (by omega) w)
  have RN : Hid (Dgs (s.extract 0 2) → ∀ w, Calls Tryz.prog 35 #[.string (s.extract 0 2)] w fun e w' => e = .returned (.int .i64 (numOf (s.extract 0 2) 0 2)) ∧ w = w') := Lib.hid fun h w => by
    have := rnumber_any (s.extract 0 2) (by omega) h w
    rwa [hz] at this
  have R2 : Hid (¬ Dgs (s.extract 0 2) → VarR s 2 m 0 2 ByteArray.empty) := Lib.hid fun h => ⟨0, 2, .inr (.inl ⟨by omega, h, rfl, rfl⟩), .inl ⟨by decide, rfl, rfl, rfl⟩⟩
  have R3 : Hid (Dgs (s.extract 0 2) → NumbP s 2 (numOf (s.extract 0 2) 0 2) 0) := Lib.hid fun h => .inr (.inr ⟨by omega, h, rfl, rfl⟩)
  generalize numOf (s.extract 0 2) 0 2 = v at *
  generalize s.extract 0 2 = q at *
  by_cases hd : Dgs q
  case neg =>
    have HV := Lib.hid (R2.out hd)
    have DG2 := Lib.hid (fun w => (DG.out w).mono fun e w' (h : _ ∧ _) => (⟨h.1.resolve_left (fun g => hd g.1), h.2⟩ : (¬ Dgs q ∧ e = .returned (.bool false)) ∧ w = w'))
    clear hd DG
    go_enter Tryz.func16, Tryz.ntmps16
    go_wp2_with fail
    go_at_call 34
    refine (DG2.out _).mono ?_
    rintro e w1 ⟨⟨-, rfl⟩, rfl⟩
    go_wp2_with fail
    go_at_call 33
    refine (rfail_any b s 0 _ _ HB.out).mono ?_
    rintro e w1 ⟨⟨t, rfl⟩, hb1, hs1⟩
    go_wp2
    go_ret
    exact ⟨_, 0, 2, HV.out, rfl, by rw [restS_no s _ (by decide)]; exact hb1, hs1⟩
  have N := R3.out hd
  obtain ⟨v0, v1⟩ := N.bd (by decide)
  have HN := Lib.hid N
  have DG2 := Lib.hid (fun w => (DG.out w).mono fun e w' (h : _ ∧ _) => (⟨h.1.resolve_right (fun g => g.1 hd), h.2⟩ : (Dgs q ∧ e = .returned (.bool true)) ∧ w = w'))
  have RN2 := Lib.hid (RN.out hd)
  clear N hd DG RN R2 R3
  by_cases h4 : m < v
  · have HV : Hid (VarR s 2 m 0 3 ByteArray.empty) := Lib.hid ⟨v, 0, HN.out, .inr (.inl ⟨rfl, .inl h4, rfl, rfl, rfl⟩)⟩
    go_enter Tryz.func16, Tryz.ntmps16
    go_wp2_with fail
    go_at_call 34
    refine (DG2.out _).mono ?_
    rintro e w1 ⟨⟨-, rfl⟩, rfl⟩
    go_wp2_with fail
    go_at_call 35
    refine (RN2.out _).mono ?_
    rintro e w1 ⟨rfl, rfl⟩
    go_wp2_with fail
    go_at_call 33
    refine (rfail_any b s 0 _ _ HB.out).mono ?_
    rintro e w1 ⟨⟨t, rfl⟩, hb1, hs1⟩
    go_wp2
    go_ret
    exact ⟨_, 0, 3, HV.out, rfl, by rw [restS_no s _ (by decide)]; exact hb1, hs1⟩
  by_cases h5 : 255 < v
  · have HV : Hid (VarR s 2 m 0 3 ByteArray.empty) := Lib.hid ⟨v, 0, HN.out, .inr (.inl ⟨rfl, .inr h5, rfl, rfl, rfl⟩)⟩
    go_enter Tryz.func16, Tryz.ntmps16
    go_wp2_with fail
    go_at_call 34
    refine (DG2.out _).mono ?_
    rintro e w1 ⟨⟨-, rfl⟩, rfl⟩
    go_wp2_with fail
    go_at_call 35
    refine (RN2.out _).mono ?_
    rintro e w1 ⟨rfl, rfl⟩
    go_wp2_with fail
    go_at_call 33
    refine (rfail_any b s 0 _ _ HB.out).mono ?_
    rintro e w1 ⟨⟨t, rfl⟩, hb1, hs1⟩
    go_wp2
    go_ret
    exact ⟨_, 0, 3, HV.out, rfl, by rw [restS_no s _ (by decide)]; exact hb1, hs1⟩
  by_cases h6 : (s.size : Int) < 2 + v
  · have HV : Hid (VarR s 2 m 0 1 ByteArray.empty) := Lib.hid ⟨v, 0, HN.out, .inr (.inr (.inl ⟨rfl, by omega, by omega, h6, rfl, rfl, rfl⟩))⟩
    go_enter Tryz.func16, Tryz.ntmps16
    go_wp2_with fail
    go_at_call 34
    refine (DG2.out _).mono ?_
    rintro e w1 ⟨⟨-, rfl⟩, rfl⟩
    go_wp2_with fail
    go_at_call 35
    refine (RN2.out _).mono ?_
    rintro e w1 ⟨rfl, rfl⟩
    go_wp2_with fail
    go_at_call 33
    refine (rfail_any b s 0 _ _ HB.out).mono ?_
    rintro e w1 ⟨⟨t, rfl⟩, hb1, hs1⟩
    go_wp2
    go_ret
    exact ⟨_, 0, 1, HV.out, rfl, by rw [restS_no s _ (by decide)]; exact hb1, hs1⟩
  obtain ⟨u, rfl⟩ := Int.eq_ofNat_of_zero_le v0
  have HV : Hid (VarR s 2 m (2 + u) 0 (s.extract 2 (2 + u))) := Lib.hid ⟨(u : Int), 0, HN.out, .inr (.inr (.inr ⟨rfl, by omega, by omega, by omega, rfl, rfl, rfl⟩))⟩
  have TK := Lib.hid (fun w hb => rtake_any b s 0 (2 + u) (by omega) hs w hb)
  have eu : (((2 + u : Nat)) : Int) = 2 + (u : Int) := by omega
  rw [eu] at TK
  have hzz : (s.extract 0 (2 + u)).size = 2 + u := by rw [size_extract' _ _ _ (by omega)]; omega
  have hsl2 := fun w => sl_l (s.extract 0 (2 + u)) 2 (by omega) (i := 2) rfl w
  rw [ext_ext s 2 (2 + u) (by omega) (by omega)] at hsl2
  clear hzz
  clear eu
  generalize s.extract 0 (2 + u) = p at *
  generalize s.extract 2 (2 + u) = t at *
  go_enter Tryz.func16, Tryz.ntmps16
  go_wp2_with fail
  go_at_call 34
  refine (DG2.out _).mono ?_
  rintro e w1 ⟨⟨-, rfl⟩, rfl⟩
  go_wp2_with fail
  go_at_call 35
  refine (RN2.out _).mono ?_
  rintro e w1 ⟨rfl, rfl⟩
  go_wp2_with fail
  go_at_call 36
  refine (TK.out _ HB.out).mono ?_
  rintro e w1 ⟨rfl, hb1, hs1⟩
  go_wp2
  go_ret
  exact ⟨t, 2 + u, 0, HV.out, rfl, by rw [restS_ok]; exact hb1, hs1⟩
set_option maxHeartbeats 3200000 in
set_option maxRecDepth 30000 in
theorem svar_3 (m : Int) (m0 : 0 ≤ m) (b : Nat) (s : ByteArray) (hs : s.size ≤ 281474976710656) (w : World) (hb : Blk w b RST #[.string s, .int .i64 0]) :
    Calls Tryz.prog 16 #[.pointer (some ⟨b, 0, none⟩), .int .i64 3, .int .i64 m] w fun e w' => ∃ v n c, VarR s 3 m n c v ∧ e = .returned (.string v) ∧ Blk w' b RST #[.string (restS s n c), .int .i64 c] ∧ Bes b w.heap.size w w' := by
  have b0 := hb.cell 0
  have b1 := hb.cell 1
  simp at b0 b1
  have HB := Lib.hid hb
  clear hb
  by_cases h3 : s.size < 3
  · have HV : Hid (VarR s 3 m 0 1 ByteArray.empty) := Lib.hid ⟨0, 1, .inl ⟨h3, rfl, rfl⟩, .inl ⟨by decide, rfl, rfl, rfl⟩⟩
    go_enter Tryz.func16, Tryz.ntmps16
    go_wp2_with fail
    go_at_call 33
    refine (rfail_any b s 0 _ _ HB.out).mono ?_
    rintro e w1 ⟨⟨t, rfl⟩, hb1, hs1⟩
    go_wp2
    go_ret
    exact ⟨_, 0, 1, HV.out, rfl, by rw [restS_no s _ (by decide)]; exact hb1, hs1⟩
  have hz : (s.extract 0 3).size = 3 := by rw [size_extract' _ _ _ (by omega)]
  have hsl := fun w => sl_h s 3 (by omega) (j := 3) rfl w
  have DG := Lib.hid (fun w => rdigits_any (s.extract 0 3) (by omega) w)
  have RN : Hid (Dgs (s.extract 0 3) → ∀ w, Calls Tryz.prog 35 #[.string (s.extract 0 3)] w fun e w' => e = .returned (.int .i64 (numOf (s.extract 0 3) 0 3)) ∧ w = w') := Lib.hid fun h w => by
    have := rnumber_any (s.extract 0 3) (by omega) h w
    rwa [hz] at this
  have R2 : Hid (¬ Dgs (s.extract 0 3) → VarR s 3 m 0 2 ByteArray.empty) := Lib.hid fun h => ⟨0, 2, .inr (.inl ⟨by omega, h, rfl, rfl⟩), .inl ⟨by decide, rfl, rfl, rfl⟩⟩
  have R3 : Hid (Dgs (s.extract 0 3) → NumbP s 3 (numOf (s.extract 0 3) 0 3) 0) := Lib.hid fun h => .inr (.inr ⟨by omega, h, rfl, rfl⟩)
  generalize numOf (s.extract 0 3) 0 3 = v at *
  generalize s.extract 0 3 = q at *
  by_cases hd : Dgs q
  case neg =>
    have HV := Lib.hid (R2.out hd)
    have DG2 := Lib.hid (fun w => (DG.out w).mono fun e w' (h : _ ∧ _) => (⟨h.1.resolve_left (fun g => hd g.1), h.2⟩ : (¬ Dgs q ∧ e = .returned (.bool false)) ∧ w = w'))
    clear hd DG
    go_enter Tryz.func16, Tryz.ntmps16
    go_wp2_with fail
    go_at_call 34
    refine (DG2.out _).mono ?_
    rintro e w1 ⟨⟨-, rfl⟩, rfl⟩
    go_wp2_with fail
    go_at_call 33
    refine (rfail_any b s 0 _ _ HB.out).mono ?_
    rintro e w1 ⟨⟨t, rfl⟩, hb1, hs1⟩
    go_wp2
    go_ret
    exact ⟨_, 0, 2, HV.out, rfl, by rw [restS_no s _ (by decide)]; exact hb1, hs1⟩
  have N := R3.out hd
  obtain ⟨v0, v1⟩ := N.bd (by decide)
  have HN := Lib.hid N
  have DG2 := Lib.hid (fun w => (DG.out w).mono fun e w' (h : _ ∧ _) => (⟨h.1.resolve_right (fun g => g.1 hd), h.2⟩ : (Dgs q ∧ e = .returned (.bool true)) ∧ w = w'))
  have RN2 := Lib.hid (RN.out hd)
  clear N hd DG RN R2 R3
  by_cases h4 : m < v
  · have HV : Hid (VarR s 3 m 0 3 ByteArray.empty) := Lib.hid ⟨v, 0, HN.out, .inr (.inl ⟨rfl, .inl h4, rfl, rfl, rfl⟩)⟩
    go_enter Tryz.func16, Tryz.ntmps16
    go_wp2_with fail
    go_at_call 34
    refine (DG2.out _).mono ?_
    rintro e w1 ⟨⟨-, rfl⟩, rfl⟩
    go_wp2_with fail
    go_at_call 35
    refine (RN2.out _).mono ?_
    rintro e w1 ⟨rfl, rfl⟩
    go_wp2_with fail
    go_at_call 33
    refine (rfail_any b s 0 _ _ HB.out).mono ?_
    rintro e w1 ⟨⟨t, rfl⟩, hb1, hs1⟩
    go_wp2
    go_ret
    exact ⟨_, 0, 3, HV.out, rfl, by rw [restS_no s _ (by decide)]; exact hb1, hs1⟩
  by_cases h5 : 255 < v
  · have HV : Hid (VarR s 3 m 0 3 ByteArray.empty) := Lib.hid ⟨v, 0, HN.out, .inr (.inl ⟨rfl, .inr h5, rfl, rfl, rfl⟩)⟩
    go_enter Tryz.func16, Tryz.ntmps16
    go_wp2_with fail
    go_at_call 34
    refine (DG2.out _).mono ?_
    rintro e w1 ⟨⟨-, rfl⟩, rfl⟩
    go_wp2_with fail
    go_at_call 35
    refine (RN2.out _).mono ?_
    rintro e w1 ⟨rfl, rfl⟩
    go_wp2_with fail
    go_at_call 33
    refine (rfail_any b s 0 _ _ HB.out).mono ?_
    rintro e w1 ⟨⟨t, rfl⟩, hb1, hs1⟩
    go_wp2
    go_ret
    exact ⟨_, 0, 3, HV.out, rfl, by rw [restS_no s _ (by decide)]; exact hb1, hs1⟩
  by_cases h6 : (s.size : Int) < 3 + v
  · have HV : Hid (VarR s 3 m 0 1 ByteArray.empty) := Lib.hid ⟨v, 0, HN.out, .inr (.inr (.inl ⟨rfl, by omega, by omega, h6, rfl, rfl, rfl⟩))⟩
    go_enter Tryz.func16, Tryz.ntmps16
    go_wp2_with fail
    go_at_call 34
    refine (DG2.out _).mono ?_
    rintro e w1 ⟨⟨-, rfl⟩, rfl⟩
    go_wp2_with fail
    go_at_call 35
    refine (RN2.out _).mono ?_
    rintro e w1 ⟨rfl, rfl⟩
    go_wp2_with fail
    go_at_call 33
    refine (rfail_any b s 0 _ _ HB.out).mono ?_
    rintro e w1 ⟨⟨t, rfl⟩, hb1, hs1⟩
    go_wp2
    go_ret
    exact ⟨_, 0, 1, HV.out, rfl, by rw [restS_no s _ (by decide)]; exact hb1, hs1⟩
  obtain ⟨u, rfl⟩ := Int.eq_ofNat_of_zero_le v0
  have HV : Hid (VarR s 3 m (3 + u) 0 (s.extract 3 (3 + u))) := Lib.hid ⟨(u : Int), 0, HN.out, .inr (.inr (.inr ⟨rfl, by omega, by omega, by omega, rfl, rfl, rfl⟩))⟩
  have TK := Lib.hid (fun w hb => rtake_any b s 0 (3 + u) (by omega) hs w hb)
  have eu : (((3 + u : Nat)) : Int) = 3 + (u : Int) := by omega
  rw [eu] at TK
  have hzz : (s.extract 0 (3 + u)).size = 3 + u := by rw [size_extract' _ _ _ (by omega)]; omega
  have hsl2 := fun w => sl_l (s.extract 0 (3 + u)) 3 (by omega) (i := 3) rfl w
  rw [ext_ext s 3 (3 + u) (by omega) (by omega)] at hsl2
  clear hzz
  clear eu
  generalize s.extract 0 (3 + u) = p at *
  generalize s.extract 3 (3 + u) = t at *
  go_enter Tryz.func16, Tryz.ntmps16
  go_wp2_with fail
  go_at_call 34
  refine (DG2.out _).mono ?_
  rintro e w1 ⟨⟨-, rfl⟩, rfl⟩
  go_wp2_with fail
  go_at_call 35
  refine (RN2.out _).mono ?_
  rintro e w1 ⟨rfl, rfl⟩
  go_wp2_with fail
  go_at_call 36
  refine (TK.out _ HB.out).mono ?_
  rintro e w1 ⟨rfl, hb1, hs1⟩
  go_wp2
  go_ret
  exact ⟨t, 3 + u, 0, HV.out, rfl, by rw [restS_ok]; exact hb1, hs1⟩
set_option maxHeartbeats 3200000 in
set_option maxRecDepth 4000 in
theorem svar (d m : Int) (b : Nat) (s : ByteArray) (c0 : Int) (hs : s.size ≤ 281474976710656) (w : World) (hb : Blk w b RST #[.string s, .int .i64 c0]) :
    Calls Tryz.prog 16 #[.pointer (some ⟨b, 0, none⟩), .int .i64 d, .int .i64 m] w fun e w' => ∃ v n c, VaZ s c0 d m v n c ∧ e = .returned (.string v) ∧ Blk w' b RST #[.string (restS s n c), .int .i64 c] ∧ Bes b w.heap.size w w' := by
  have b0 := hb.cell 0
  have b1 := hb.cell 1
  simp at b0 b1
  have HB := Lib.hid hb
  clear hb
  by_cases h0 : c0 = 0
  case neg =>
    have hcc : (c0 == 0) = false := by simpa using h0
    have hcc2 : (c0 != 0) = true := by simpa using h0
    have H0 := Lib.hid h0
    go_enter Tryz.func16, Tryz.ntmps16
    go_wp2
    go_ret
    exact ⟨_, 0, c0, .inl ⟨H0.out, rfl, rfl, rfl⟩, rfl, by rw [restS_no s 0 H0.out]; exact HB.out, Bes.of (Below.refl _ _)⟩
  subst h0
  by_cases hm : m < 0
  · by_cases h2 : d = 2
    · subst h2
      go_enter Tryz.func16, Tryz.ntmps16
      go_wp2_with fail
      go_at_call 33
      refine (rfail_any b s 0 _ _ HB.out).mono ?_
      rintro e w1 ⟨⟨t, rfl⟩, hb1, hs1⟩
      go_wp2
      go_ret
      exact ⟨_, 0, 4, .inr ⟨rfl, .inl ⟨by omega, rfl, rfl, rfl⟩⟩, rfl, by rw [restS_no s _ (by decide)]; exact hb1, hs1⟩
    · by_cases h3 : d = 3
      · subst h3
        go_enter Tryz.func16, Tryz.ntmps16
        go_wp2_with fail
        go_at_call 33
        refine (rfail_any b s 0 _ _ HB.out).mono ?_
        rintro e w1 ⟨⟨t, rfl⟩, hb1, hs1⟩
        go_wp2
        go_ret
        exact ⟨_, 0, 4, .inr ⟨rfl, .inl ⟨by omega, rfl, rfl, rfl⟩⟩, rfl, by rw [restS_no s _ (by decide)]; exact hb1, hs1⟩
      · have z2 : (d == 2) = false := by simpa using h2
        have z3 : (d == 3) = false := by simpa using h3
        have z2n : (d != 2) = true := by simpa using h2
        have z3n : (d != 3) = true := by simpa using h3
        go_enter Tryz.func16, Tryz.ntmps16
        go_wp2_with fail
        go_at_call 33
        refine (rfail_any b s 0 _ _ HB.out).mono ?_
        rintro e w1 ⟨⟨t, rfl⟩, hb1, hs1⟩
        go_wp2
        go_ret
        exact ⟨_, 0, 4, .inr ⟨rfl, .inl ⟨by omega, rfl, rfl, rfl⟩⟩, rfl, by rw [restS_no s _ (by decide)]; exact hb1, hs1⟩
  · by_cases h2 : d = 2
    · subst h2
      refine (svar_2 m (by omega) b s hs w HB.out).mono ?_
      rintro e w' ⟨v, n, c, hR, rfl, h1, h2⟩
      exact ⟨v, n, c, .inr ⟨rfl, .inr ⟨⟨.inl rfl, by omega⟩, hR⟩⟩, rfl, h1, h2⟩
    · by_cases h3 : d = 3
      · subst h3
        refine (svar_3 m (by omega) b s hs w HB.out).mono ?_
        rintro e w' ⟨v, n, c, hR, rfl, h1, h2⟩
        exact ⟨v, n, c, .inr ⟨rfl, .inr ⟨⟨.inr rfl, by omega⟩, hR⟩⟩, rfl, h1, h2⟩
      · have z2 : (d == 2) = false := by simpa using h2
        have z3 : (d == 3) = false := by simpa using h3
        have z2n : (d != 2) = true := by simpa using h2
        have z3n : (d != 3) = true := by simpa using h3
        go_enter Tryz.func16, Tryz.ntmps16
        go_wp2_with fail
        go_at_call 33
        refine (rfail_any b s 0 _ _ HB.out).mono ?_
        rintro e w1 ⟨⟨t, rfl⟩, hb1, hs1⟩
        go_wp2
        go_ret
        exact ⟨_, 0, 4, .inr ⟨rfl, .inl ⟨by omega, rfl, rfl, rfl⟩⟩, rfl, by rw [restS_no s _ (by decide)]; exact hb1, hs1⟩
end Go.Proofs.YtjemljhfopgmiaaGreatDoor
