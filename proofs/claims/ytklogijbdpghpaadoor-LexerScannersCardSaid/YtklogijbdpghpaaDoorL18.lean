/-
  THE WALK of LexerScanners.
-/
import Derived.Test.YtklogijbdpghpaaDoorCards
import Derived.Test.YtklogijbdpghpaaDoorTie
import Derived.WalkKit
import Derived.ProofKit
import Derived.OpenShut
import Derived.ShutString
import Derived.ChangeOld
import Derived.Below
import Derived.Deep.DeepHandedRow
import Derived.Lib.LaidTab
import Derived.LaidMore
import Derived.Stop.LaidErr
import Derived.Stop.Joined
import Derived.LaidHandle
import Derived.Test.YtklogijbdpghpaaDoorLS4
import Derived.ChangeSlices
namespace Go.Proofs.YtklogijbdpghpaaDoor.lexerScanners
open Go.ChangeShapes Go.WideShapes Go.ChangeAt Go.RowKit
open Go.ChangeMaps (open_string shut_string)
set_option linter.unusedVariables false
set_option maxHeartbeats 6400000 in
set_option maxRecDepth 5000 in
theorem walk (s : ByteArray) (A0 : Option Addr) (k0 c0 : Nat) (L0 : List ST) (w : World) (hs : s.size ≤ maxLen) (lk0 : k0 ≤ maxLen) (lc0 : k0 ≤ c0) (lS0 : STs w w.heap.size A0 k0 L0) (lL0 : ∀ r ∈ L0, okST r) (hT : Pow w ∧ Errs w ∧ 5 ≤ w.heap.size) : Calls Tryd.prog 6 #[.string s, .slice A0 k0 c0] w fun e w' => e = .returned (.bool true) ∧ Below w.heap.size w w' := by
  have AW : Hid (∀ w', Below w.heap.size w w' → Calls Tryd.prog 9 #[] w' fun e w'' => e = .returned (.bool true) ∧ Below w.heap.size w w'') := Lib.hid fun w' hb => (awake_any w' (hT.2.1.later hb hT.2.2) (Nat.le_trans hT.2.2 hb.size)).mono fun e w'' h => ⟨h.1, hb.trans (h.2.mono hb.size)⟩
  have HT := Lib.hid hT
  clear hT
  have HS0 := Lib.hid lS0
  have HL0 := Lib.hid lL0
  clear lc0 lS0 lL0
  go_enter Tryd.func6, Tryd.ntmps6
  by_cases h1000 : 1000 < s.size
  · have d1 : decide ((1000 : Int) < (s.size : Int)) = true := decide_eq_true (by omega)
    have HBB := Lib.hid (Below.refl w.heap.size w)
    clear h1000
    go_wp2_with fail
    refine (AW.out _ HBB.out).mono ?_
    rintro e w4 ⟨rfl, hb⟩
    go_wp2_with fail
    go_ret
    exact ⟨rfl, hb⟩
  have d1 : decide ((1000 : Int) < (s.size : Int)) = false := decide_eq_false (by omega)
  by_cases h60 : 60 < k0
  · have d2 : decide ((60 : Int) < (k0 : Int)) = true := decide_eq_true (by omega)
    have HBB := Lib.hid (Below.refl w.heap.size w)
    clear h60 h1000
    go_wp2_with fail
    refine (AW.out _ HBB.out).mono ?_
    rintro e w4 ⟨rfl, hb⟩
    go_wp2_with fail
    go_ret
    exact ⟨rfl, hb⟩
  have d2 : decide ((60 : Int) < (k0 : Int)) = false := decide_eq_false (by omega)
  have hk60 : k0 ≤ 60 := by omega
  have HSZ := Lib.hid (show s.size ≤ 10000 by omega)
  clear h60 h1000 lk0
  rcases scS_kinds s with ⟨M, hR, hM⟩ | ⟨e0, p0, he, hR⟩
  case inr =>
    have PN := Lib.hid (pnew_bad s HSZ.out w HT.out.2.1 HT.out.2.2 hR he)
    have RN := Lib.hid (fun w => rnew_bad s HSZ.out w hR he)
    clear hR he
    go_wp2_with fail
    refine PN.out.mono ?_
    rintro e w1 ⟨rfl, hb1⟩
    have HB1 := Lib.hid hb1
    clear hb1
    go_wp2_with fail
    refine (RN.out _).mono ?_
    rintro e w2 ⟨rfl, hb2⟩
    have HB2' := Lib.hid (HB1.out.trans (hb2.mono HB1.out.size))
    clear hb2 d1 d2 HB1 PN RN
    go_wp2_with fail
    go_loopw [11] (fun v wr => ∃ k : Nat, k ≤ k0 ∧ v = .int .i64 (k : Int) ∧ Below w.heap.size w wr) (fun v _ => k0 - (intOf v).toNat)
    case atStart => exact ⟨0, by omega, rfl, HB2'.out⟩
    case round =>
      obtain ⟨k, hk, rfl, hB⟩ := hrel
      have HB := Lib.hid hB
      by_cases hlt : k < k0
      · obtain ⟨ad, x, p, rfl, hx, hp, hpb, q0, q1⟩ := STs.at (HS0.out.below HB.out) hlt
        have hok := HL0.out x (List.mem_of_getElem? hx)
        obtain ⟨u1, u2⟩ := u8_in hok.1
        obtain ⟨cN, hcN⟩ : ∃ cc : Nat, x.c = (cc : Int) := ⟨x.c.toNat, by omega⟩
        rw [hcN] at q0
        have hpl : p.block < wr.heap.size := by have := HB.out.size; omega
        have hks : x.t.size ≤ maxLen := hok.2
        have HPW : Hid (∀ W, Below w.heap.size w W → W.cell? ⟨p.block, p.off + 1, none⟩ = some (.string x.t)) := Lib.hid fun W hW => by rw [hW.cell (p := ⟨p.block, p.off + 1, none⟩) hpb, ← HB.out.cell (p := ⟨p.block, p.off + 1, none⟩) hpb]; exact q1
        have HPL : Hid (∀ W, Below w.heap.size w W → p.block < W.heap.size) := Lib.hid fun W hW => Nat.lt_of_lt_of_le hpb hW.size
        clear hB hx hpb hok u1 hcN
        rcases (show cN = 0 ∨ cN = 1 ∨ cN = 2 ∨ 3 ≤ cN by omega) with rfl | rfl | rfl | h3
        · go_wp2_with fail
          refine (pnil_peek _).mono ?_
          rintro e w3 ⟨rfl, hb⟩
          have HB1 := Lib.hid (HB.out.trans (hb.mono HB.out.size))
          clear hb
          go_wp2_with fail
          refine (rnil_peek _).mono ?_
          rintro e w4 ⟨rfl, hb⟩
          have HB2 := Lib.hid (HB1.out.trans (hb.mono HB1.out.size))
          clear hb
          unfold lv Lx.zero
          go_wp2_with fail
          go_round
          case rel => exact ⟨k + 1, by omega, by go_num, HB2.out⟩
          case measure => simp [intOf]; omega
        · go_wp2_with fail
          refine (pnil_next _).mono ?_
          rintro e w3 ⟨rfl, hb⟩
          have HB1 := Lib.hid (HB.out.trans (hb.mono HB.out.size))
          clear hb
          go_wp2_with fail
          refine (rnil_next _).mono ?_
          rintro e w4 ⟨rfl, hb⟩
          have HB2 := Lib.hid (HB1.out.trans (hb.mono HB1.out.size))
          clear hb
          unfold lv Lx.zero
          go_wp2_with fail
          go_round
          case rel => exact ⟨k + 1, by omega, by go_num, HB2.out⟩
          case measure => simp [intOf]; omega
        · have HBD := Lib.hid HB.out.drew
          go_wp2_with fail
          go_region_held3 (fun W => W.cell? ⟨p.block, p.off + 1, none⟩ = some (.string x.t)) (assumption) (first | (go_at_call 23; refine (pnil_Mark _ _).mono ?_; rintro e w3 ⟨rfl, hb⟩; have HB1 := Lib.hid (HBD.out.trans (hb.mono HBD.out.size)); have q1 := HPW.out _ HB1.out; have hpl3 := HPL.out _ HB1.out; clear hb) | (go_at_call 24; refine (rnil_Mark _ _).mono ?_; rintro e w4 ⟨rfl, hb⟩; have HB2 := Lib.hid (HB1.out.trans (hb.mono HB1.out.size)); have q1 := HPW.out _ HB2.out; have hpl3 := HPL.out _ HB2.out; clear hb))
          go_wp2_with fail
          go_round
          case rel => exact ⟨k + 1, by omega, by go_num, HB2.out⟩
          case measure => simp [intOf]; omega
        · have z0 : ((cN : Int) == 0) = false := beq_false_of_ne (by omega)
          have z1 : ((cN : Int) == 1) = false := beq_false_of_ne (by omega)
          have z2 : ((cN : Int) == 2) = false := beq_false_of_ne (by omega)
          have HBD := Lib.hid HB.out.drew
          go_wp2_with fail
          go_region_held3 (fun W => W.cell? ⟨p.block, p.off + 1, none⟩ = some (.string x.t)) (assumption) (first | (go_at_call 25; refine (pnil_Word _ _).mono ?_; rintro e w3 ⟨rfl, hb⟩; have HB1 := Lib.hid (HBD.out.trans (hb.mono HBD.out.size)); have q1 := HPW.out _ HB1.out; have hpl3 := HPL.out _ HB1.out; clear hb) | (go_at_call 26; refine (rnil_Word _ _).mono ?_; rintro e w4 ⟨rfl, hb⟩; have HB2 := Lib.hid (HB1.out.trans (hb.mono HB1.out.size)); have q1 := HPW.out _ HB2.out; have hpl3 := HPL.out _ HB2.out; clear hb))
          go_wp2_with fail
          go_round
          case rel => exact ⟨k + 1, by omega, by go_num, HB2.out⟩
          case measure => simp [intOf]; omega
      · obtain rfl : k = k0 := by omega
        clear hB
        go_wp2_with fail
        refine (pnil_peek _).mono ?_
        rintro e w3 ⟨rfl, hb⟩
        have HB1 := Lib.hid (HB.out.trans (hb.mono HB.out.size))
        clear hb
        go_wp2_with fail
        refine (rnil_peek _).mono ?_
        rintro e w4 ⟨rfl, hb⟩
        have HBB := Lib.hid (HB1.out.trans (hb.mono HB1.out.size))
        clear hb
        unfold lv Lx.zero
        go_wp2_with fail
        refine (AW.out _ HBB.out).mono ?_
        rintro e w5 ⟨rfl, hb⟩
        go_wp2_with fail
        go_ret
        exact ⟨rfl, hb⟩
  have hG := good_of (s := s) hM
  generalize M ++ [endL s.size] = L at *
  generalize M.length = N at *
  have HG := Lib.hid hG
  have PN := Lib.hid (pnew_ok s HSZ.out w HT.out.2.1 HT.out.2.2 hR hG (K := w.heap.size) (Nat.le_refl _))
  have RN := Lib.hid (fun w1 (h : w.heap.size ≤ w1.heap.size) => rnew_ok s HSZ.out w1 hR hG (K := w1.heap.size) (Nat.le_refl _))
  clear hR hM hG
  go_wp2_with fail
  refine PN.out.mono ?_
  rintro e w1 ⟨D, v, rfl, hp, hb1⟩
  have HB1 := Lib.hid hb1
  have HP := Lib.hid hp
  clear hb1 hp
  go_wp2_with fail
  refine (RN.out _ HB1.out.size).mono ?_
  rintro e w2 ⟨E, g, c, rfl, hr, hb2⟩
  have hsc : Sc w2 w2 w.heap.size D E v g c L 0 0 := ⟨HP.out.below hb2, { hr with gk := Nat.le_trans HB1.out.size hr.gk, kd := Nat.le_trans HB1.out.size hr.kd }, Kp.refl _ _, by have h1 := HP.out.blk.lt; have h2 := hr.kd; omega, fun h => by have h1 := (row_lt HP.out.row h).2; have h2 := hr.kd; omega, by have h1 := HP.out.blk.lt; have h2 := hr.gk; omega⟩
  have HSC := Lib.hid hsc
  have HB2' := Lib.hid (HB1.out.trans (hb2.mono HB1.out.size))
  clear hb2 hr hsc d1 d2 HB1 PN RN HP
  go_wp2_with fail
  go_loopw [11] (fun vv wr => ∃ k : Nat, k ≤ k0 ∧ vv = .int .i64 (k : Int) ∧ ∃ q, Sc w2 wr w.heap.size D E v g c L q q) (fun v _ => k0 - (intOf v).toNat)
  case atStart => exact ⟨0, by omega, rfl, _, HSC.out⟩
  case round =>
    obtain ⟨k, hk, rfl, q, hsc⟩ := hrel
    have HS := Lib.hid hsc
    have HB : Hid (Below w.heap.size w wr) := Lib.hid (HB2'.out.trans (hsc.kp.below (fun i hi => by omega) HB2'.out.size))
    obtain ⟨y, hy, hyq, hy0⟩ := good_at HG.out hsc.ra.lq
    have HX := Lib.hid hy
    have HQ := Lib.hid hyq
    have HQ0 := Lib.hid hy0
    clear hsc hy hyq hy0
    by_cases hlt : k < k0
    · obtain ⟨ad, x, p, rfl, hx, hp, hpb, q0, q1⟩ := STs.at (HS0.out.below HB.out) hlt
      have hok := HL0.out x (List.mem_of_getElem? hx)
      obtain ⟨u1, u2⟩ := u8_in hok.1
      obtain ⟨cN, hcN⟩ : ∃ cc : Nat, x.c = (cc : Int) := ⟨x.c.toNat, by omega⟩
      rw [hcN] at q0
      have hpl : p.block < wr.heap.size := by have := HB.out.size; omega
      have hks : x.t.size ≤ maxLen := hok.2
      have HPW : Hid (∀ W, Kp (fun i => w.heap.size ≤ i) w2 W → W.cell? ⟨p.block, p.off + 1, none⟩ = some (.string x.t)) := Lib.hid fun W hW => by
        have hW2 : Below w.heap.size w W := HB2'.out.trans (hW.below (fun i hi => by omega) HB2'.out.size)
        rw [hW2.cell (p := ⟨p.block, p.off + 1, none⟩) hpb, ← HB.out.cell (p := ⟨p.block, p.off + 1, none⟩) hpb]; exact q1
      have HPL : Hid (∀ W, Kp (fun i => w.heap.size ≤ i) w2 W → p.block < W.heap.size) := Lib.hid fun W hW => by have h1 := HB2'.out.size; have h2 := hW.size; omega
      clear hx hpb hok u1 hcN
      rcases (show cN = 0 ∨ cN = 1 ∨ cN = 2 ∨ 3 ≤ cN by omega) with rfl | rfl | rfl | h3
      · go_wp2_with fail
        refine (peek_any HS.out.ra HX.out).mono ?_
        rintro e w3 ⟨rfl, hb⟩
        have HS1 := Lib.hid (HS.out.below hb)
        clear hb
        go_wp2_with fail
        refine (rpeek_any HS1.out.rb HX.out).mono ?_
        rintro e w4 ⟨rfl, hb⟩
        have HS2 := Lib.hid (HS1.out.below hb)
        clear hb
        unfold lv
        go_wp2_with fail
        go_round
        case rel => exact ⟨k + 1, by omega, by go_num, _, HS2.out⟩
        case measure => simp [intOf]; omega
      · go_wp2_with fail
        refine (next_any HS.out.ra HX.out HQ.out).mono ?_
        rintro e w3 ⟨rfl, hp, hk⟩
        have HS1 := Lib.hid (HS.out.stepA hp hk)
        clear hp hk
        go_wp2_with fail
        refine (rnext_any HS1.out.rb HX.out HQ.out HQ0.out).mono ?_
        rintro e w4 ⟨rfl, hp, hk⟩
        have HS2 := Lib.hid (HS1.out.stepB hp hk)
        clear hp hk
        unfold lv
        go_wp2_with fail
        go_round
        case rel => exact ⟨k + 1, by omega, by go_num, _, HS2.out⟩
        case measure => simp [intOf]; omega
      · obtain ⟨z, hz⟩ : ∃ z, hitX y 4 x.t = z := ⟨_, rfl⟩
        have HZ := Lib.hid hz
        clear hz
        have HSD := Lib.hid HS.out.drew
        go_wp2_with fail
        go_region_held3 (fun W => W.cell? ⟨p.block, p.off + 1, none⟩ = some (.string x.t)) (assumption) (first | (go_at_call 23; refine (pmark_any HSD.out.ra HX.out HQ.out x.t HZ.out).mono ?_; rintro e w3 ⟨rfl, hp, hk⟩; have HS1 := Lib.hid (HSD.out.stepA hp hk); have q1 := HPW.out _ HS1.out.kp; have hpl3 := HPL.out _ HS1.out.kp; clear hp hk) | (go_at_call 24; refine (rsmark_any HS1.out.rb HX.out HQ.out HQ0.out x.t HZ.out).mono ?_; rintro e w4 ⟨rfl, hp, hk⟩; have HS2 := Lib.hid (HS1.out.stepB hp hk); have q1 := HPW.out _ HS2.out.kp; have hpl3 := HPL.out _ HS2.out.kp; clear hp hk))
        go_wp2_with fail
        go_round
        case rel => exact ⟨k + 1, by omega, by go_num, _, HS2.out⟩
        case measure => simp [intOf]; omega
      · have z0 : ((cN : Int) == 0) = false := beq_false_of_ne (by omega)
        have z1 : ((cN : Int) == 1) = false := beq_false_of_ne (by omega)
        have z2 : ((cN : Int) == 2) = false := beq_false_of_ne (by omega)
        obtain ⟨z, hz⟩ : ∃ z, hitX y 1 x.t = z := ⟨_, rfl⟩
        have HZ := Lib.hid hz
        clear hz
        have HSD := Lib.hid HS.out.drew
        go_wp2_with fail
        go_region_held3 (fun W => W.cell? ⟨p.block, p.off + 1, none⟩ = some (.string x.t)) (assumption) (first | (go_at_call 25; refine (pword_any HSD.out.ra HX.out HQ.out x.t HZ.out).mono ?_; rintro e w3 ⟨rfl, hp, hk⟩; have HS1 := Lib.hid (HSD.out.stepA hp hk); have q1 := HPW.out _ HS1.out.kp; have hpl3 := HPL.out _ HS1.out.kp; clear hp hk) | (go_at_call 26; refine (rsword_any HS1.out.rb HX.out HQ.out HQ0.out x.t HZ.out).mono ?_; rintro e w4 ⟨rfl, hp, hk⟩; have HS2 := Lib.hid (HS1.out.stepB hp hk); have q1 := HPW.out _ HS2.out.kp; have hpl3 := HPL.out _ HS2.out.kp; clear hp hk))
        go_wp2_with fail
        go_round
        case rel => exact ⟨k + 1, by omega, by go_num, _, HS2.out⟩
        case measure => simp [intOf]; omega
    · obtain rfl : k = k0 := by omega
      go_wp2_with fail
      refine (peek_any HS.out.ra HX.out).mono ?_
      rintro e w3 ⟨rfl, hb⟩
      have HS1 := Lib.hid (HS.out.below hb)
      clear hb
      go_wp2_with fail
      refine (rpeek_any HS1.out.rb HX.out).mono ?_
      rintro e w4 ⟨rfl, hb⟩
      have HS2 := Lib.hid (HS1.out.below hb)
      have HBB := Lib.hid (HB2'.out.trans (HS2.out.kp.below (fun i hi => by omega) HB2'.out.size))
      clear hb
      unfold lv
      go_wp2_with fail
      refine (AW.out _ HBB.out).mono ?_
      rintro e w5 ⟨rfl, hb⟩
      go_wp2_with fail
      go_ret
      exact ⟨rfl, hb⟩

end Go.Proofs.YtklogijbdpghpaaDoor.lexerScanners
