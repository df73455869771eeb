/-
  PROVED: for every list of fields and every text, the law WireRoundTrip returns true: what is written is read back, what is read was written, and the examples hold; the card ties the listed tables and variables to the program's text. Conditions: none besides the form's own reach.
-/
import Derived.Test.YtjemljhfopgmiaaDoorCards
import Derived.Test.YtjemljhfopgmiaaDoorTie
import Derived.WalkKit
import Derived.ProofKit
import Derived.OpenShut
import Derived.ShutString
import Derived.ChangeOld
import Derived.Below
import Derived.Deep.DeepHandedRow
import Derived.Lib.LaidTab
import Derived.LaidMore
import Derived.Stop.LaidErr
import Derived.Stop.Joined
import Derived.LaidHandle
import Derived.Lay
import Derived.MakeChecks
import Derived.Test.YtjemljhfopgmiaaDoorW29
namespace Go.Proofs.YtjemljhfopgmiaaDoor.wireRoundTrip
open Go.ChangeShapes Go.WideShapes Go.ChangeAt Go.RowKit
open Go.ChangeMaps (open_string shut_string)
set_option linter.unusedVariables false
set_option maxRecDepth 8000 in
theorem open_fieldsT {H : Type} {enc : TypeId × Value → H} {w : World} {base : Nat} {spare : Nat → Bool} {held : Bool} {u : Value} {d : DataW H} {pl : List MemPlace} {rr : Reach} {b0 : Nat} (hv : Value.okWide Tryd.prog w rr b0 30 u) (h0 : DataW.Trod enc Tryd.prog w base spare held 30 u d pl) :
    ∃ (A : Option Addr) (k c : Nat) (L : List FR), u = .slice A k c ∧ k ≤ maxLen ∧ k ≤ c ∧ Fds w w.heap.size A k L ∧ ∀ r ∈ L, okF r := by
  obtain ⟨A0, len, cap, rfl⟩ := okWide_slice Tryd.underlying30 hv
  obtain ⟨fuel, h⟩ := h0
  exact open_fields (u := .slice A0 len cap) (by simpa [Value.cells] using h)
set_option maxHeartbeats 6400000 in
set_option maxRecDepth 5000 in
theorem walk (A : Option Addr) (n c : Nat) (L : List FR) (m : ByteArray) (w : World) (hn : n ≤ maxLen) (hc : n ≤ c) (hS : Fds w w.heap.size A n L) (hL : ∀ f ∈ L, okF f) (hm : m.size ≤ maxLen) (hT : Pow w ∧ 1 ≤ w.heap.size) :
    Calls Tryd.prog 4 #[.slice A n c, .string m] w fun e w' => e = .returned (.bool true) ∧ Below w.heap.size w w' := by
  obtain ⟨hP, hw⟩ := hT
  have AW : Hid (∀ w', Below w.heap.size w w' → Calls Tryd.prog 6 #[] w' fun e w'' => e = .returned (.bool true) ∧ Below w.heap.size w w'') := Lib.hid fun w' hb => (awake_any w' (hP.later hb hw) (Nat.le_trans hw hb.size)).mono fun e w'' h => ⟨h.1, hb.trans (h.2.mono hb.size)⟩
  have WR : Hid (∀ f, f ∈ L → f.t.size ≤ 300 → ∀ w', Below w.heap.size w w' → Calls Tryd.prog 17 #[agF f] w' fun e w'' => (∃ t c, WrP f t c ∧ e = .returned (.tuple #[.string t, .int .i64 c])) ∧ Below w'.heap.size w' w'') := Lib.hid fun f hf h3 w' hb => write_any f (hL f hf) h3 w' (hP.later hb hw) (Nat.le_trans hw hb.size)
  have HP := Lib.hid fun w' (hb : Below w.heap.size w w') => hP.later hb hw
  have HLF := Lib.hid hL
  have HS := Lib.hid hS
  unfold maxLen at hn hm
  clear hP hL hS
  by_cases h1 : 30 < n
  · clear WR HP HLF HS
    go_enter Tryd.func4, Tryd.ntmps4
    go_wp2_with fail
    go_at_call 6
    refine (AW.out _ (Below.refl _ _)).mono ?_
    rintro e w1 ⟨rfl, hb1⟩
    go_wp2
    go_ret
    exact ⟨rfl, hb1⟩
  by_cases h2 : 300 < m.size
  · clear WR HP HLF HS
    go_enter Tryd.func4, Tryd.ntmps4
    go_wp2_with fail
    go_at_call 6
    refine (AW.out _ (Below.refl _ _)).mono ?_
    rintro e w1 ⟨rfl, hb1⟩
    go_wp2
    go_ret
    exact ⟨rfl, hb1⟩
  go_enter Tryd.func4, Tryd.ntmps4
  go_wp2_with fail
  go_loopw [5, 6] (fun s i wr => ∃ (k : Nat) (r : ByteArray), k ≤ n ∧ i = .int .i64 (k : Int) ∧ s = .string r ∧ Hid (r = joinF (L.take k)) ∧ r.size ≤ 258 * k ∧ Hid (∀ j x, j < k → L[j]? = some x → x.t.size ≤ 300) ∧ Below w.heap.size w wr) (fun _ i _ => n - (intOf i).toNat)
  case atStart => exact ⟨0, _, Nat.zero_le _, rfl, rfl, Lib.hid rfl, Nat.zero_le _, Lib.hid fun j x hj => absurd hj (by omega), Below.refl _ _⟩
  case round =>
    obtain ⟨k, r, hk, rfl, rfl, HR, hz, HN, hb⟩ := hrel
    by_cases hlt : k < n
    · obtain ⟨ad, x, p, rfl, hx, hp0, hpb, c0, c1, c2, c3⟩ := Fds.at (HS.out.below hb) hlt
      have HX := Lib.hid hx
      have hpl : p.block < wr.heap.size := Nat.lt_of_lt_of_le hpb hb.size
      by_cases h3 : 300 < x.t.size
      · clear hx
        go_wp2_with fail
        go_at_call 6
        refine (AW.out _ hb).mono ?_
        rintro e w1 ⟨rfl, hb1⟩
        go_wp2
        go_ret
        exact ⟨rfl, hb1⟩
      · have HN2 : Hid (∀ j y, j < k + 1 → L[j]? = some y → y.t.size ≤ 300) := Lib.hid fun j y hj hy => by
          rcases Nat.lt_or_ge j k with hl | hl
          · exact HN.out j y hl hy
          · obtain rfl : j = k := by omega
            rw [HX.out] at hy
            cases hy
            omega
        have W1 := Lib.hid (WR.out x (fr_mem hx) (by omega))
        clear hx
        go_wp2_with fail
        refine (W1.out _ hb).mono ?_
        rintro e w1 ⟨⟨t, cc, hW, rfl⟩, hb1'⟩
        have hb1 := hb.trans (hb1'.mono hb.size)
        obtain ⟨hz1, hz2⟩ := hW.sz
        have HE : Hid (joinF (L.take (k + 1)) = r ++ t) := Lib.hid (by rw [joinF_take HX.out, wr_eq hW, HR.out])
        clear hW
        by_cases hcc : cc = 0
        · subst hcc
          go_wp2
          go_roundw
          case rel => exact ⟨k + 1, _, by omega, by go_num, rfl, Lib.hid HE.out.symm, by rw [ByteArray.size_append]; omega, HN2, hb1⟩
          case measure => simp [intOf]; omega
        · obtain rfl := hz2 hcc
          have hc1 : (cc == 0) = false := by simpa using hcc
          have hc2 : (cc != 0) = true := by simpa using hcc
          rw [ByteArray.append_empty] at HE
          clear hz2
          go_wp2
          go_roundw
          case rel => exact ⟨k + 1, _, by omega, by go_num, rfl, Lib.hid HE.out.symm, by omega, HN2, hb1⟩
          case measure => simp [intOf]; omega
    · obtain rfl : k = n := by omega
      have HRR : Hid (r = joinF L) := Lib.hid (by rw [HR.out, List.take_of_length_le (by rw [HS.out.1]; exact Nat.le_refl _)])
      go_wp2_with fail
      go_at_call 18
      refine (newReader_any _ _).mono ?_
      rintro e w1 ⟨rfl, hr, hb1⟩
      have hB1 := hb.trans (hb1.mono hb.size)
      have hbl := hb.size
      generalize wr.heap.size = b at *
      have hz9 : r.size ≤ 10000 := by omega
      clear hz HR hb hb1 hlt h1 hk
      go_wp2_with fail
      go_loopw [10] (fun i wr => ∃ (j : Nat) (q : ByteArray), j ≤ k ∧ i = .int .i64 (j : Int) ∧ Hid (q = joinF (L.drop j)) ∧ q.size ≤ 10000 ∧ Blk wr b 59 #[.string q, .int .i64 0] ∧ Below w.heap.size w wr) (fun i _ => k - (intOf i).toNat)
      case atStart => exact ⟨0, r, Nat.zero_le _, rfl, Lib.hid (by rw [HRR.out, List.drop_zero]), hz9, hr, hB1⟩
      case round =>
        obtain ⟨j, q, hj, rfl, HQ, hqz, hrb, hb⟩ := hrel
        have hrl := hrb.lt
        have HRB := Lib.hid hrb
        by_cases hlt : j < k
        · obtain ⟨ad, x, p, rfl, hx, hp0, hpb, c0, c1, c2, c3⟩ := Fds.at (HS.out.below hb) hlt
          have HX := Lib.hid hx
          have hpl : p.block < wr.heap.size := Nat.lt_of_lt_of_le hpb hb.size
          have W1 := Lib.hid (WR.out x (fr_mem hx) (HN.out j x hlt hx))
          clear hx hrb
          go_wp2_with fail
          have hba := hb.alloc hb.size (.cells #[.int .u8 x.o, .int .i64 x.n, .string x.t, .int .i64 x.d] 32)
          refine (W1.out _ hba).mono ?_
          rintro e w1 ⟨⟨t, cc, hW, rfl⟩, hb1⟩
          have FB := Lib.hid ((Blk.new wr 32 #[.int .u8 x.o, .int .i64 x.n, .string x.t, .int .i64 x.d]).below hb1 (by simp))
          have RB := Lib.hid ((HRB.out.alloc _).below hb1 (by simp; omega))
          have hB1 := hba.trans (hb1.mono hba.size)
          have hgl := FB.out.lt
          have hgw : w.heap.size ≤ wr.heap.size := hb.size
          have hgb : ¬ wr.heap.size = b := by omega
          have f0 := FB.out.cell 0
          have f1 := FB.out.cell 1
          have f2 := FB.out.cell 2
          have f3 := FB.out.cell 3
          simp at f0 f1 f2 f3
          have HJ : Hid (q = t ++ joinF (L.drop (j + 1))) := Lib.hid (by rw [HQ.out, joinF_drop HX.out, wr_eq hW])
          clear hb hba hb1 HRB c0 c1 c2 c3 hrl hpl
          generalize wr.heap.size = g at *
          by_cases hcc : cc = 0
          · subst hcc
            obtain ⟨u, hu⟩ : ∃ u, u = joinF (L.drop (j + 1)) := ⟨_, rfl⟩
            rw [← hu] at HJ
            have HU := Lib.hid hu
            have hq9 := HJ.out
            clear hu HJ HQ
            subst hq9
            rw [ByteArray.size_append] at hqz
            obtain ⟨o0, o1⟩ := u8_in (HLF.out x (fr_mem HX.out)).1
            unfold WrP at hW
            by_cases h30 : x.o % 3 = 0
            · rw [if_pos h30] at hW
              have hWx := hW
              clear hW
              go_wp2_with fail
              go_quiet (fail)
              have hbq : Below w.heap.size w (w1.drewN nq) := hB1.trans ⟨rfl, rfl, rfl, Nat.le_refl _, fun _ _ => rfl⟩
              have rbq : Blk (w1.drewN nq) b 59 #[.string (t ++ u), .int .i64 0] := RB.out
              have fbq : Blk (w1.drewN nq) g 32 #[.int .u8 x.o, .int .i64 x.n, .string x.t, .int .i64 x.d] := FB.out
              clear hB1 RB FB f0 f1 f2 f3
              generalize w1.drewN nq = w2 at *
              have f0 := fbq.cell 0
              have f1 := fbq.cell 1
              have f2 := fbq.cell 2
              have f3 := fbq.cell 3
              simp at f0 f1 f2 f3
              have FQ := Lib.hid fbq
              have RQ := Lib.hid rbq
              clear fbq rbq
              go_wp2_with fail
              refine (back_num hWx b _ (by omega) RQ.out).mono ?_
              rintro e w3 ⟨rfl, rb3, hs3⟩
              have F3 := Lib.hid (hs3.blk FQ.out FQ.out.lt hgb)
              have hb3 := hbq.trans (hs3.below hbl hbq.size)
              have R3 := Lib.hid rb3
              have hg3 := F3.out.lt
              clear f0 f1 f2 f3 hs3 rb3 hbq FQ RQ
              have f0 := F3.out.cell 0
              have f1 := F3.out.cell 1
              have f2 := F3.out.cell 2
              have f3 := F3.out.cell 3
              simp at f0 f1 f2 f3
              go_wp2
              go_roundw
              case rel => exact ⟨j + 1, u, by omega, by go_num, HU, by omega, R3.out, hb3⟩
              case measure => simp [intOf]; omega
            · rw [if_neg h30] at hW
              have z30 : (x.o % 3 == 0) = false := by simpa using h30
              by_cases h31 : x.o % 3 = 1
              · rw [if_pos h31] at hW
                have hWx := hW
                clear hW
                go_wp2_with fail
                go_quiet (fail)
                have hbq : Below w.heap.size w (w1.drewN nq) := hB1.trans ⟨rfl, rfl, rfl, Nat.le_refl _, fun _ _ => rfl⟩
                have rbq : Blk (w1.drewN nq) b 59 #[.string (t ++ u), .int .i64 0] := RB.out
                have fbq : Blk (w1.drewN nq) g 32 #[.int .u8 x.o, .int .i64 x.n, .string x.t, .int .i64 x.d] := FB.out
                clear hB1 RB FB f0 f1 f2 f3
                generalize w1.drewN nq = w2 at *
                have f0 := fbq.cell 0
                have f1 := fbq.cell 1
                have f2 := fbq.cell 2
                have f3 := fbq.cell 3
                simp at f0 f1 f2 f3
                have FQ := Lib.hid fbq
                have RQ := Lib.hid rbq
                clear fbq rbq
                go_wp2_with fail
                refine (back_alpha hWx b _ (by omega) RQ.out).mono ?_
                rintro e w3 ⟨rfl, rb3, hs3⟩
                have F3 := Lib.hid (hs3.blk FQ.out FQ.out.lt hgb)
                have hb3 := hbq.trans (hs3.below hbl hbq.size)
                have R3 := Lib.hid rb3
                have hg3 := F3.out.lt
                clear f0 f1 f2 f3 hs3 rb3 hbq FQ RQ
                have f0 := F3.out.cell 0
                have f1 := F3.out.cell 1
                have f2 := F3.out.cell 2
                have f3 := F3.out.cell 3
                simp at f0 f1 f2 f3
                go_wp2
                go_roundw
                case rel => exact ⟨j + 1, u, by omega, by go_num, HU, by omega, R3.out, hb3⟩
                case measure => simp [intOf]; omega
              · rw [if_neg h31] at hW
                have z31 : (x.o % 3 == 1) = false := by simpa using h31
                have hWx := hW
                clear hW
                go_wp2_with fail
                go_quiet (fail)
                have hbq : Below w.heap.size w (w1.drewN nq) := hB1.trans ⟨rfl, rfl, rfl, Nat.le_refl _, fun _ _ => rfl⟩
                have rbq : Blk (w1.drewN nq) b 59 #[.string (t ++ u), .int .i64 0] := RB.out
                have fbq : Blk (w1.drewN nq) g 32 #[.int .u8 x.o, .int .i64 x.n, .string x.t, .int .i64 x.d] := FB.out
                clear hB1 RB FB f0 f1 f2 f3
                generalize w1.drewN nq = w2 at *
                have f0 := fbq.cell 0
                have f1 := fbq.cell 1
                have f2 := fbq.cell 2
                have f3 := fbq.cell 3
                simp at f0 f1 f2 f3
                have FQ := Lib.hid fbq
                have RQ := Lib.hid rbq
                clear fbq rbq
                go_wp2_with fail
                refine (back_var hWx b _ (by omega) RQ.out).mono ?_
                rintro e w3 ⟨rfl, rb3, hs3⟩
                have F3 := Lib.hid (hs3.blk FQ.out FQ.out.lt hgb)
                have hb3 := hbq.trans (hs3.below hbl hbq.size)
                have R3 := Lib.hid rb3
                have hg3 := F3.out.lt
                clear f0 f1 f2 f3 hs3 rb3 hbq FQ RQ
                have f0 := F3.out.cell 0
                have f1 := F3.out.cell 1
                have f2 := F3.out.cell 2
                have f3 := F3.out.cell 3
                simp at f0 f1 f2 f3
                go_wp2
                go_roundw
                case rel => exact ⟨j + 1, u, by omega, by go_num, HU, by omega, R3.out, hb3⟩
                case measure => simp [intOf]; omega
          · obtain rfl := hW.sz.2 hcc
            have hc1 : (cc == 0) = false := by simpa using hcc
            have hc2 : (cc != 0) = true := by simpa using hcc
            have HQ2 : Hid (q = joinF (L.drop (j + 1))) := Lib.hid (by rw [HJ.out, ByteArray.empty_append])
            clear hW
            go_wp2
            go_roundw
            case rel => exact ⟨j + 1, q, by omega, by go_num, HQ2, hqz, RB.out, hB1⟩
            case measure => simp [intOf]; omega
        · obtain rfl : j = k := by omega
          have hq0 : q = ByteArray.empty := by rw [HQ.out, List.drop_of_length_le (by rw [HS.out.1]; exact Nat.le_refl _)]; rfl
          subst hq0
          have HEn : endE ByteArray.empty 0 = 0 := rfl
          clear hrb
          go_wp2_with fail
          go_at_call 22
          refine (rd_end b _ 0 _ HRB.out).mono ?_
          rintro e w1 ⟨rfl, rfl⟩
          rw [HEn]
          go_wp2_with fail
          go_at_call 23
          refine (rd_left b _ 0 (by decide) _ HRB.out).mono ?_
          rintro e w1 ⟨rfl, rfl⟩
          go_wp2_with fail
          go_at_call 18
          refine (newReader_any m _).mono ?_
          rintro e w2 ⟨rfl, hr2, hb2⟩
          have hB2 := hb.trans (hb2.mono hb.size)
          have hbl2 := hb.size
          generalize wr.heap.size = b2 at *
          clear hb hb2 hrl
          go_wp2_with fail
          go_at_call 21
          refine (rdb_var_2 b2 m 99 (by decide) (by omega) _ hr2).mono ?_
          rintro e w3 ⟨nn, cc, tt, hV, rfl, hr3, hs3⟩
          have hB3 := hB2.trans (hs3.below hbl2 hB2.size)
          have htz := hV.sz
          have R3 := Lib.hid hr3
          have HV := Lib.hid hV
          clear hr3 hs3 hV hB2 hr2
          go_wp2_with fail
          go_at_call 11
          refine (var_any tt 2 (by omega) _ (HP.out _ hB3)).mono ?_
          rintro e w4 ⟨⟨u, e2, hU, rfl⟩, hb4⟩
          have hB4 := hB3.trans (hb4.mono hB3.size)
          have R4 := Lib.hid (R3.out.below hb4 R3.out.lt)
          have HU := Lib.hid hU
          clear hU hB3 R3 hb4
          go_wp2_with fail
          go_at_call 24
          refine (rd_err b2 _ cc _ R4.out).mono ?_
          rintro e w5 ⟨rfl, rfl⟩
          have HH := Lib.hid (fun w' => hex_any m (by omega) w')
          have hhz : (hexS m m.size).size ≤ 1000 := by rw [hexS_size]; omega
          have HX := Lib.hid (fun w' => unhex_any (hexS m m.size) hhz w')
          have HB := Lib.hid (fun (t : ByteArray) (e : Int) => unhP_back (s := m) (t := t) (e := e))
          generalize hexS m m.size = hx at *
          by_cases hcc : cc = 0
          · subst hcc
            obtain ⟨rfl, he, hnm, hnz⟩ := varR_wrote HV.out HU.out
            have hsl := fun w => sl_h m nn hnm (j := (nn : Int)) rfl w
            have R5 := R4.out
            rw [if_pos rfl] at R5
            have hrz : ((m.extract nn m.size).size : Int) = (m.size : Int) - (nn : Int) := by rw [size_extract' _ _ _ (Nat.le_refl _)]; omega
            have RL := Lib.hid (fun w hb => rd_left b2 (m.extract nn m.size) 0 (by omega) w hb)
            rw [hrz] at RL
            have R5h := Lib.hid R5
            rw [← he] at hsl
            clear he R5 hrz HU HV R4
            go_wp2_with fail
            go_at_call 23
            refine (RL.out _ R5h.out).mono ?_
            rintro e w5 ⟨rfl, rfl⟩
            go_wp2_with fail
            go_at_call 15
            refine (HH.out _).mono ?_
            rintro e w5 ⟨rfl, hb5⟩
            have hB5 := hB4.trans (hb5.mono hB4.size)
            go_wp2_with fail
            go_at_call 13
            refine (HX.out _).mono ?_
            rintro e w6 ⟨⟨bt, be, hUn, rfl⟩, hb6⟩
            obtain ⟨rfl, rfl⟩ := HB.out _ _ hUn
            have hB6 := hB5.trans (hb6.mono hB5.size)
            clear hUn
            go_wp2_with fail
            go_at_call 6
            refine (AW.out _ hB6).mono ?_
            rintro e w7 ⟨rfl, hb7⟩
            go_wp2
            go_ret
            exact ⟨rfl, hb7⟩
          · have hc1 : (cc == 0) = false := by simpa using hcc
            have hc2 : (cc != 0) = true := by simpa using hcc
            clear HU HV R4
            go_wp2_with fail
            go_at_call 15
            refine (HH.out _).mono ?_
            rintro e w5 ⟨rfl, hb5⟩
            have hB5 := hB4.trans (hb5.mono hB4.size)
            go_wp2_with fail
            go_at_call 13
            refine (HX.out _).mono ?_
            rintro e w6 ⟨⟨bt, be, hUn, rfl⟩, hb6⟩
            obtain ⟨rfl, rfl⟩ := HB.out _ _ hUn
            have hB6 := hB5.trans (hb6.mono hB5.size)
            clear hUn
            go_wp2_with fail
            go_at_call 6
            refine (AW.out _ hB6).mono ?_
            rintro e w7 ⟨rfl, hb7⟩
            go_wp2
            go_ret
            exact ⟨rfl, hb7⟩

theorem own : ownKnob Tryd.prog.godebug = none := by kernel_rfl
theorem laidOut : laidOutB Tryd.prog = true := by kernel_rfl
theorem gPow : Tryd.prog.globalNamed "internal/strconv.uint64pow10" = some 0 := by kernel_rfl
theorem gPowType : (Tryd.prog.globals[0]?).map (·.type) = some 109 := by kernel_rfl
theorem cellsPow : Tryd.prog.cellsOf 109 = 20 := by kernel_rfl
theorem cellsU64 : Tryd.prog.cellsOf 85 = 1 := by kernel_rfl
theorem room {W : World} (h : Pow W) : 1 ≤ W.heap.size := by
  have hc := Lib.TabIs.cell h gPow 0 (by decide)
  rcases Nat.lt_or_ge 0 W.heap.size with hl | hl
  · omega
  · simp [World.cell?, Array.getElem?_eq_none hl] at hc
theorem table {W : World} (h : laidMetH Tryd.prog Rows.wireRoundTripRow.laid W) : Pow W ∧ 1 ≤ W.heap.size := by
  rw [MakeChecks.laidMetH_plain _ _ _ (by kernel_rfl)] at h
  have h1 := h
  have hp : Pow W := Lib.tabIs_of_head (k := .u64) (zs := Lib.pow10Tab) gPow gPowType Tryd.underlying109 Tryd.underlying85 cellsU64 cellsPow h1.tail.tail
  exact ⟨hp, room hp⟩

noncomputable def laidWorld (os : Os) : World := World.laidAll Tryd.prog os Rows.wireRoundTripRow.laid
theorem laid_met (os : Os) : laidMetH Tryd.prog Rows.wireRoundTripRow.laid ((laidWorld os).forCall (fun _ _ => 0) ⟨#[], #[.slice none 0 0, .string ByteArray.empty], []⟩).memory := by
  rw [MakeChecks.laidMetH_plain _ _ _ (by kernel_rfl)]; exact laidMet_laidAll _ (by kernel_rfl) (by kernel_rfl)
theorem reads (os : Os) {H : Type} (enc : TypeId × Value → H) : ∃ places, DataW.whole enc Tryd.prog ((laidWorld os).forCall (fun _ _ => 0) ⟨#[], #[.slice none 0 0, .string ByteArray.empty], []⟩).memory Tryd.f4.params.toList Rows.wireRoundTripSpec.vars false (#[.slice none 0 0, .string ByteArray.empty] : Array Value).toList 8 = some ([.nil, .lit (.string [])], [], places) :=
  ⟨[], by kernel_rfl⟩
set_option maxRecDepth 100000 in
theorem contract (H : Type) (enc : TypeId × Value → H) (W : World) (base : Nat) (args : Array Value) (ds gs : List (DataW H)) (before : List MemPlace)
    (hval0 : ∀ (j : Nat) t v, Tryd.f4.params[j]? = some t → args[j]? = some v → Value.okWide Tryd.prog W .any base t v)
    (hW : DataW.Whole enc Tryd.prog Tryd.f4.params.toList Rows.wireRoundTripSpec.vars false W args.toList ds gs before) (hL : laidMetH Tryd.prog Rows.wireRoundTripRow.laid W) :
    Calls Tryd.prog 4 args W fun e W' => ∃ v, e = .returned v ∧ Rows.wireRoundTripSpec.post enc Tryd.prog Tryd.f4 false true false false W args v W' := by
  have hval : ∀ (j : Nat) t v, Tryd.f4.params[j]? = some t → args[j]? = some v → Value.okWide Tryd.prog W .any base t v := hval0
  have hW' := hW
  obtain ⟨p, q, hA0, hV, rfl, hfz, hnd⟩ := hW
  have hA : DataW.TrodAll enc Tryd.prog W 0 (fun _ => true) true Tryd.f4.params.toList args.toList ds p := hA0
  rw [Tryd.params4] at hA hval
  obtain ⟨v0, vs0, d0, ds0, p0, q0, hargs, rfl, rfl, h0, r0⟩ := trodAll_cons hA
  obtain ⟨v1, vs1, d1, ds1, p1, q1, rfl, rfl, rfl, h1, r1⟩ := trodAll_cons r0
  obtain ⟨rfl, rfl, rfl⟩ := trodAll_nil r1
  obtain rfl : args = #[v0, v1] := by cases args; simp_all
  obtain ⟨rfl, rfl⟩ := trodVars_none hV
  have k0 := h0
  have lt0 : ∀ x ∈ p0, x.block < W.heap.size := by obtain ⟨m, hm⟩ := k0; exact DataW.trod_lt m _ _ _ hm
  obtain ⟨A, ka, ca, LL, rfl, lk, lc, lS, lL⟩ := open_fieldsT (hval 0 30 v0 rfl rfl) h0
  have k1 := h1
  have lt1 : ∀ x ∈ p1, x.block < W.heap.size := by obtain ⟨m, hm⟩ := k1; exact DataW.trod_lt m _ _ _ hm
  obtain ⟨a1, rfl, -, -, w1⟩ := open_string Tryd.underlying9 (hval 1 9 v1 rfl rfl) h1
  clear hA0 hval0
  refine (walk A ka ca LL a1 W lk lc lS lL w1 (table hL)).mono fun e W' ⟨he, bel⟩ => ?_
  subst he
  exact ⟨_, rfl, _, _, _, [], _, [], hW', trodAll_mk1 (shut_bool Tryd.underlying4 _), (trodAll_cons_mk (Below.trod laidOut (by kernel_rfl) (of_decide_eq_true (by kernel_rfl)) k0 bel lt0) (trodAll_cons_mk (Below.trod laidOut (by kernel_rfl) (of_decide_eq_true (by kernel_rfl)) k1 bel lt1) trodAll_mk0)), rfl, bel.frame _, fun h => by cases h⟩

set_option maxRecDepth 100000 in
theorem lifted (os : Os) (started : os.Started) (H : Type) (enc : TypeId × Value → H) (F : Stop.Interp) :
    ReturnsInHanded {} Tryd.checked os 4 .any ((OpenSpec.ofChange Rows.wireRoundTripSpec).preRow enc Tryd.prog Tryd.f4 Rows.wireRoundTripRow.domain false Rows.wireRoundTripRow.laid) (((OpenSpec.ofChange Rows.wireRoundTripSpec).at F).post enc Tryd.prog Tryd.f4 false true false false) := by
  obtain ⟨places, hx⟩ := reads os enc
  refine returnsInHanded_of_row (C := Tryd.checked) (s := OpenSpec.ofChange Rows.wireRoundTripSpec) own started (by kernel_rfl) Tryd.func4
    (witness_row_at (enc := enc) (C := Tryd.checked) false (laidWorld os) #[.slice none 0 0, .string ByteArray.empty] (World.laidAll_os _ _ _) (by kernel_rfl) (by kernel_rfl) (by kernel_rfl)
      (OpenSpec.preRow_of_cond 8 hx (by kernel_rfl) (fun k hk => by cases hk) (by kernel_rfl) (laid_met os))) ?_
  intro W base args ds gs before hval hW _ _ _ hL _ _
  exact contract H enc W base args ds gs before hval hW hL
theorem said : Rows.WireRoundTripSaid :=
  OpenClaim.holds_of_cond 4 Tryd.f4 rfl rfl rfl rfl rfl rfl rfl ⟨rfl, rfl, rfl, rfl, rfl⟩ rfl rfl rfl rfl rfl (by kernel_rfl) Tryd.func4 (by kernel_rfl)
    (of_decide_eq_true (by kernel_rfl)) (by unfold Func.isWrapper; first | (rw [if_pos (by decide +kernel)]; kernel_rfl) | (rw [if_neg (by decide +kernel)]; exact ⟨rfl, rfl⟩))
    (fun os started H enc _ F => by rw [OpenClaim.pre_eq_preRow]; exact lifted os started H enc F)
/-- No parameter wants a stand-in; the program's own looks are off. -/
theorem plain (f : FuncId) (fn : Func) (hf : Tryd.pinned.checked.prog.funcNamed "cardnet/cardnetlaw06.WireRoundTrip" = some f) (hfn : Tryd.pinned.checked.prog.funcs[f]? = some fn) :
    true = Tryd.pinned.checked.prog.looks [] ∧ ∀ (j : Nat) t, fn.params[j]? = some t → Tryd.pinned.checked.prog.wantsStandIn t = false := by
  obtain rfl : f = 4 := Option.some.inj ((show Tryd.prog.funcNamed "cardnet/cardnetlaw06.WireRoundTrip" = some 4 by kernel_rfl).symm.trans hf) |>.symm
  obtain rfl : fn = Tryd.f4 := (Option.some.inj (Tryd.func4.symm.trans hfn)).symm
  refine ⟨by kernel_rfl, fun j t ht => ?_⟩
  rw [Tryd.params4] at ht
  have hm : t ∈ [30, 9] := by simpa using Array.mem_of_getElem? ht
  have hall : ([30, 9].all fun u => !Tryd.prog.wantsStandIn u) = true := by kernel_rfl
  exact (show Tryd.prog.wantsStandIn t = false by simpa using List.all_eq_true.1 hall t hm)
/-- THE CARD: the statement. -/
theorem proved : Rows.WireRoundTripCardSaid :=
  Claim7.holds_tied_plain_at .later [] _ _ _ _ said (fun _ h => by cases h) (by kernel_rfl) (fun _ h => by cases h) wireRoundTrip_row_tie rfl ⟨rfl, rfl⟩ (by kernel_rfl) rfl plain (by kernel_rfl)
#print axioms proved
end Go.Proofs.YtjemljhfopgmiaaDoor.wireRoundTrip
