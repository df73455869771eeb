/-
  PROVED: for every slice of strings, every place and every number, the law ChecksumAdds returns true: totals do not depend on the order and add up, a chain is the hash of what was put together, and the examples hold; the card ties the listed tables to the program's text. Conditions: none besides the form's own reach.
-/
import Derived.Test.YtfchpobjepdpgaaDoorCards
import Derived.Test.YtfchpobjepdpgaaDoorTie
import Derived.WalkKit
import Derived.ProofKit
import Derived.OpenShut
import Derived.ShutString
import Derived.ChangeOld
import Derived.Below
import Derived.Deep.DeepHandedRow
import Derived.Lib.LaidTab
import Derived.LaidMore
import Derived.Stop.LaidErr
import Derived.Stop.Joined
import Derived.SliceStrings
import Derived.Deep.QuietTactic
import Derived.BigQuiet
import Derived.Deep.RegionWith
import Derived.Deep.RegionHeld3
import Derived.Test.YtfchpobjepdpgaaDoorSum11
namespace Go.Proofs.YtfchpobjepdpgaaDoor.checksumAdds
open Go.ChangeShapes Go.WideShapes Go.ChangeAt Go.RowKit
open Go.ChangeMaps (open_string shut_string)
set_option linter.unusedVariables false
theorem tab_of_cell {W : World} (h : W.cell? ⟨2, 15, none⟩ = some (.int .u8 4)) : Tab W := by
  refine ⟨?_, h⟩
  rcases Nat.lt_or_ge 2 W.heap.size with hl | hl
  · exact hl
  · simp [World.cell?, Array.getElem?_eq_none hl] at h
theorem cellsStr : Tryd.prog.cellsOf 9 = 1 := by kernel_rfl
theorem strInfo : (Tryd.prog.info? 9).map (fun i => (i.zero, i.size, i.bytes)) = some (some (.string ByteArray.empty), 1, 16) := by kernel_rfl
def backV (ss : List ByteArray) (k : Nat) : List Value := (ss.reverse.take k).map Value.string
theorem backV_snoc {ss : List ByteArray} {k p : Nat} {s : ByteArray} (h : p + k = ss.length) (hp : 0 < p) (hs : ss[p - 1]? = some s) : backV ss (k + 1) = backV ss k ++ [.string s] := by
  unfold backV
  have hk : k < ss.length := by omega
  have : ss.reverse[k]? = some s := by
    rw [List.getElem?_reverse hk, ← hs]
    congr 1
    omega
  rw [List.take_add_one, this, Option.toList_some, List.map_append]
  rfl
theorem own_strs {w : World} {B e n : Nat} {b : Value} {ss : List ByteArray} (hl : ss.length = n) (h : w.ownsRow B e 1 b n (backV ss n)) :
    ∃ Ab cb, b = .slice Ab n cb ∧ Strs w Ab n ss.reverse := by
  have e1 : backV ss n = ss.reverse.map Value.string := by unfold backV; rw [List.take_of_length_le (by rw [List.length_reverse]; omega)]
  rcases h.2 with ⟨rfl, rfl⟩ | ⟨g, cap, cur, rfl, _⟩
  · refine ⟨none, 0, rfl, ?_⟩
    have : ss = [] := List.eq_nil_of_length_eq_zero hl
    subst this
    exact Reads.none_
  · rw [e1] at h
    exact ⟨_, cap, rfl, Reads.of_own h⟩
def chA (p : Nat) : Array Value := #[.int .u8 (chB p 0 : Int), .int .u8 (chB p 1 : Int), .int .u8 (chB p 2 : Int), .int .u8 (chB p 3 : Int), .int .u8 (chB p 4 : Int), .int .u8 (chB p 5 : Int), .int .u8 (chB p 6 : Int), .int .u8 (chB p 7 : Int)]
theorem chA_eq (p : Nat) (hp : p < 18446744073709551616) : (#[Value.int .u8 ((p : Int) / 72057594037927936), .int .u8 ((p : Int) / 281474976710656 % 256), .int .u8 ((p : Int) / 1099511627776 % 256), .int .u8 ((p : Int) / 4294967296 % 256), .int .u8 ((p : Int) / 16777216 % 256), .int .u8 ((p : Int) / 65536 % 256), .int .u8 ((p : Int) / 256 % 256), .int .u8 ((p : Int) % 256)] : Array Value) = chA p := by
  have e0 : (p : Int) / 72057594037927936 = (chB p 0 : Int) := by show _ = ((p / 72057594037927936 % 256 : Nat) : Int); omega
  have e1 : (p : Int) / 281474976710656 % 256 = (chB p 1 : Int) := by show _ = ((p / 281474976710656 % 256 : Nat) : Int); omega
  have e2 : (p : Int) / 1099511627776 % 256 = (chB p 2 : Int) := by show _ = ((p / 1099511627776 % 256 : Nat) : Int); omega
  have e3 : (p : Int) / 4294967296 % 256 = (chB p 3 : Int) := by show _ = ((p / 4294967296 % 256 : Nat) : Int); omega
  have e4 : (p : Int) / 16777216 % 256 = (chB p 4 : Int) := by show _ = ((p / 16777216 % 256 : Nat) : Int); omega
  have e5 : (p : Int) / 65536 % 256 = (chB p 5 : Int) := by show _ = ((p / 65536 % 256 : Nat) : Int); omega
  have e6 : (p : Int) / 256 % 256 = (chB p 6 : Int) := by show _ = ((p / 256 % 256 : Nat) : Int); omega
  have e7 : (p : Int) % 256 = (chB p 7 : Int) := by show _ = ((p / 1 % 256 : Nat) : Int); omega
  rw [e0, e1, e2, e3, e4, e5, e6, e7]
  rfl
theorem bstep {V w' w1 : World} (k : Below w'.heap.size w' w1) (h : Below V.heap.size V w') : Below V.heap.size V w1 := h.trans (k.mono h.size)
theorem conv8 (wr : World) (p : Nat) (w' : World) (hb : Below (wr.heap.size + 1) (wr.alloc (.cells (chA p) 5)) w') :
    (convert 38 9 (.slice (some ⟨wr.heap.size, 0, none⟩) 8 8)).run Tryd.prog w' = .ok (.string (strOfNums (chL p 8))) w' := by
  have hB := (Blk.new wr 5 (chA p)).below hb (Nat.lt_succ_self _)
  refine run_convert_bytes_arg w' 38 5 Tryd.underlying38 Tryd.underlying5 wr.heap.size 0 8 8 (chL p 8) (by simp [chL]) (fun i hi => ?_) 9 Tryd.underlying9
  rw [Nat.zero_add, hB.cell]
  match i, hi with
  | 0, _ => rfl
  | 1, _ => rfl
  | 2, _ => rfl
  | 3, _ => rfl
  | 4, _ => rfl
  | 5, _ => rfl
  | 6, _ => rfl
  | 7, _ => rfl
set_option maxHeartbeats 2000000 in
theorem walk (A : Option Addr) (n c : Nat) (ss : List ByteArray) (a v : Int) (w : World) (hS : Strs w A n ss) (hn : n ≤ maxLen) (hc : n ≤ c) (hl : ∀ s ∈ ss, s.size ≤ maxLen) (w1 : (Lit.int .u8 a).wf = true) (w2 : (Lit.int .u64 v).wf = true) (hT : Tab w) :
    Calls Tryd.prog 8 #[.slice A n c, .int .u8 a, .int .u64 v] w fun e w' => e = .returned (.bool true) ∧ Below w.heap.size w w' := by
  obtain ⟨cut_, rfl⟩ : ∃ p : Nat, a = p := ⟨a.toNat, by simp [Lit.wf, IntKind.min, IntKind.max, IntKind.signed, IntKind.bits] at w1; omega⟩
  obtain ⟨pv, rfl⟩ : ∃ p : Nat, v = p := ⟨v.toNat, by simp [Lit.wf, IntKind.min, IntKind.max, IntKind.signed, IntKind.bits] at w2; omega⟩
  have hcu : cut_ < 256 := by simp [Lit.wf, IntKind.min, IntKind.max, IntKind.signed, IntKind.bits] at w1; omega
  have hpv : pv < 18446744073709551616 := by simp [Lit.wf, IntKind.min, IntKind.max, IntKind.signed, IntKind.bits] at w2; omega
  have HT := Lib.hid hT
  have HS := Lib.hid hS
  have HL := Lib.hid hl
  have HN := Lib.hid hn
  have HC := Lib.hid hc
  clear hT hS hl hn hc w1 w2
  cases hf : fewB ss with
  | false =>
    have HF := Lib.hid hf.symm
    clear hf
    go_enter Tryd.func8, Tryd.ntmps8
    go_wp2_with fail
    refine (few_any A n c ss _ HS.out HN.out HL.out HF).mono ?_
    rintro e w1 ⟨rfl, rfl⟩
    go_wp2_with fail
    refine (awake_any _ HT.out).mono ?_
    rintro e w1 ⟨rfl, hb⟩
    go_wp2
    go_ret
    exact ⟨rfl, by assumption⟩
  | true =>
    have HF := Lib.hid hf.symm
    have hn100 : n ≤ 100 := by rw [← HS.out.len]; exact few_len hf
    have HSZ := Lib.hid (few_size hf)
    clear hf
    obtain ⟨i0, hi, hz0, hz1, hz2⟩ := info_parts strInfo
    go_enter Tryd.func8, Tryd.ntmps8
    go_wp2_with fail
    refine (few_any A n c ss _ HS.out HN.out HL.out HF).mono ?_
    rintro e w1 ⟨rfl, rfl⟩
    go_wp2_with fail
    go_loopw [7, 8] (fun b i wr => ∃ (k p : Nat), p + k = n ∧ i = .int .i64 ((p : Int) - 1) ∧ wr.ownsRow w.heap.size 9 1 b k (backV ss k) ∧ Below w.heap.size w wr) (fun _ i _ => (intOf i + 1).toNat)
    case atStart => exact ⟨0, n, rfl, rfl, World.ownsRow_nil _ _ _ _, Below.refl _ _⟩
    case round =>
      obtain ⟨k, p, hpk, rfl, hown, hb⟩ := hrel
      have hz := hb.size
      have HPK := Lib.hid hpk
      have hp1 : p ≤ n := by omega
      have hk1 : k ≤ n := by omega
      by_cases hlt : 0 < p
      · obtain ⟨ad, s, rfl, hbl, hs, hc0⟩ := HS.out.at (k := p - 1) (by omega)
        have hcx : wr.cell? (ad.add (p - 1)) = some (.string s) := (hb.cell (by rw [block_of_add]; exact hbl)).trans hc0
        have HV := Lib.hid (backV_snoc (k := k) (p := p) (by rw [HS.out.len]; exact hpk) hlt hs)
        clear hpk hs hc0
        go_wp2_with (at_builtin; refine wpList_append_own_at _ rfl (.tmp 24) (.tmp 29) 29 rfl w.heap.size 9 i0 (.string ByteArray.empty) 1 16 Tryd.underlying29 hi hz0 hz1 hz2 rfl (by decide) _ _ _ rfl (hown.alloc _) ⟨wr.heap.size, 0, none⟩ 1 1 [.string s] rfl rfl (cell_one_new _ _ _) (by simp [Value.oneCell']) (by unfold maxLen; omega) (by omega) (by simp; omega) ?_; intro v' w1 hown' hgrow hnil hloc)
        refine ⟨⟨k + 1, p - 1, by have := HPK.out; omega, val_eq (by omega), ?_, (hb.alloc hz _).grown hgrow (by simp; omega) (fun g he => (hown.lt g he).1)⟩, by simp [intOf]; omega⟩
        rw [HV.out]
        exact hown'
      · obtain rfl : p = 0 := by omega
        obtain rfl : k = n := by omega
        clear hpk HPK hp1 hk1 hlt
        obtain ⟨Ab, cb, rfl, hSb⟩ := own_strs (w := wr) (HS.out.len) hown
        have HSb := Lib.hid hSb
        have HS1 := Lib.hid (HS.out.below hb)
        have HT1 := Lib.hid (HT.out.below hb HT.out.1)
        clear hown hSb
        obtain ⟨q, hqq⟩ : ∃ q, q = cut_ % (k + 1) := ⟨_, rfl⟩
        have hqm : (cut_ : Int) % ((k : Int) + 1) = (q : Int) := by rw [hqq]; rfl
        have hqn : q ≤ k := by rw [hqq]; have := Nat.mod_lt cut_ (show 0 < k + 1 by omega); omega
        clear hqq
        have HLR : Hid (∀ s ∈ ss.reverse, s.size ≤ maxLen) := Lib.hid (fun s hs => HL.out s (List.mem_reverse.1 hs))
        have HLT : Hid (∀ s ∈ ss.take q, s.size ≤ maxLen) := Lib.hid (fun s hs => HL.out s (List.mem_of_mem_take hs))
        have HLD : Hid (∀ s ∈ ss.drop q, s.size ≤ maxLen) := Lib.hid (fun s hs => HL.out s (List.mem_of_mem_drop hs))
        have C0 := Lib.hid (total_any A k c ss wr HS1.out HN.out HL.out)
        have CB := Lib.hid (fun nq : Nat => total_quiet Ab k cb ss.reverse (wr.drewN nq) (HSb.out.drewN nq) HN.out HLR.out)
        have C1 := Lib.hid (fun nq : Nat => total_quiet (loA A c) q c (ss.take q) (wr.drewN nq) ((HS1.out.lo hqn HC.out).drewN nq) (by have := HN.out; omega) HLT.out)
        have C2 := Lib.hid (fun nq : Nat => total_quiet (hiA A c q) (k - q) (c - q) (ss.drop q) (wr.drewN nq) ((HS1.out.hi hqn HC.out).drewN nq) (by have := HN.out; omega) HLD.out)
        rw [totL_reverse] at CB
        have hTl : totL ss < 100000000 := totL_lt _
        have hT1l : totL (ss.take q) < 100000000 := totL_lt _
        have hT2l : totL (ss.drop q) < 100000000 := totL_lt _
        have hsum := totL_cut ss q
        have hqc : q ≤ c := by have := HC.out; omega
        have hl1 := slice_lo A k c q hqc
        have hl2 := slice_hi A k c q hqn
        generalize totL ss = T at *
        generalize totL (ss.take q) = T1 at *
        generalize totL (ss.drop q) = T2 at *
        have hd0 : decide ((T : Int) < 0) = false := by first | (simp; done) | (simp; omega)
        have hd1 : decide ((100000000 : Int) ≤ (T : Int)) = false := by first | (simp; done) | (simp; omega)
        have hw1 : IntKind.i64.wrap ((T1 : Int) + (T2 : Int)) = (T1 : Int) + (T2 : Int) := by rw [IntKind.wrap_i64]; omega
        have ht1 : ((T1 : Int) + (T2 : Int)).tmod 100000000 = (T : Int) := by rw [Int.tmod_eq_emod_of_nonneg (by omega)]; omega
        have ht2 : ((T1 : Int) + (T2 : Int)) % 100000000 = (T : Int) := by omega
        clear hsum
        go_wp2_with fail
        refine C0.out.mono ?_
        rintro e w1 ⟨rfl, rfl⟩
        go_wp2_with fail
        go_quiet (first | (go_at_call 17; with_reducible exact Calls.quiet_of_same (CB.out _)) | (go_at_call 17; with_reducible exact Calls.quiet_of_same (C1.out _)) | (go_at_call 17; with_reducible exact Calls.quiet_of_same (C2.out _)))
        clear hd0 hd1 hw1 ht1 ht2 hl1 hl2 C0 CB C1 C2
        go_wp2_with fail
        have hbq : Below w.heap.size w (wr.drewN nq) := hb.trans ⟨rfl, rfl, rfl, Nat.le_refl _, fun _ _ => rfl⟩
        clear HT1
        generalize wr.drewN nq = W1 at *
        clear hb hz HSb HLR HLT HLD HS1 hqm hqn hT1l hT2l hqc
        go_loopw [11] (fun i wq => ∃ j : Nat, j ≤ k ∧ i = .int .i64 j ∧ Below w.heap.size w wq) (fun i _ => k - (intOf i).toNat)
        case atStart => exact ⟨0, Nat.zero_le _, rfl, hbq⟩
        case round =>
          obtain ⟨j, hj, rfl, hb⟩ := hrel
          have hz := hb.size
          by_cases hlt : j < k
          · obtain ⟨ad, s, rfl, hbl, hs, hc0⟩ := HS.out.at hlt
            have hs100 := HSZ.out s (List.mem_of_getElem? hs)
            have hcx : wr.cell? (ad.add j) = some (.string s) := (hb.cell (by rw [block_of_add]; exact hbl)).trans hc0
            have hbl2 : (ad.add j).block < w.heap.size := by rw [block_of_add]; exact hbl
            clear hs hc0 hbl
            have HH : Hid (chainN pv s = hashN (strOfNums (chL pv 8) ++ s)) := Lib.hid rfl
            have CH := Lib.hid (fun w' => chain_any pv hpv s (by omega) w')
            have hkz : (strOfNums (chL pv 8)).size = 8 := by rw [strOfNums_size]; simp [chL]
            have HZ : Hid ((strOfNums (chL pv 8) ++ s).size ≤ maxLen) := Lib.hid (by rw [ByteArray.size_append, hkz]; unfold maxLen; omega)
            have HA := Lib.hid (fun w' => hash_any (strOfNums (chL pv 8) ++ s) HZ.out w')
            rw [HH.out] at CH
            have CV := Lib.hid (conv8 wr pv)
            have EC := Lib.hid (chA_eq pv hpv)
            go_wp2_with fail
            rw [EC.out]
            have hbV : Below wr.heap.size wr (wr.alloc (.cells (chA pv) 5)) := (Below.refl _ _).alloc (Nat.le_refl _) _
            have hV1 : (wr.alloc (.cells (chA pv) 5)).heap.size = wr.heap.size + 1 := by simp
            have HbV := Lib.hid hbV
            have HV1 := Lib.hid hV1
            have hcV : (wr.alloc (.cells (chA pv) 5)).drew.cell? (ad.add j) = some (.string s) := (hbV.cell (by omega)).trans hcx
            have hvV : True := trivial
            clear hbV hV1 hcx
            generalize wr.alloc (.cells (chA pv) 5) = V at *
            generalize strOfNums (chL pv 8) = kb at *
            generalize hashN (kb ++ s) = hv at *
            have KS : Hid (∀ w', Below V.heap.size V w' → Below V.heap.size V w' ∧ w'.cell? (ad.add j) = some (.string s) ∧ (convert 38 9 (.slice (some ⟨wr.heap.size, 0, none⟩) 8 8)).run Tryd.prog w' = .ok (.string kb) w') :=
              Lib.hid (fun w' h => ⟨h, (h.cell (show (ad.add j).block < V.heap.size by have := HV1.out; omega)).trans hcV, CV.out w' (h.mono (by have := HV1.out; omega))⟩)
            clear hcV hvV
            have hzs : kb.size + s.size ≤ 9223372036854775807 := by omega
            have hadd := fun w' => run_string_add_sum (P := Tryd.prog) w' kb s hzs
            have HKZ := Lib.hid hkz
            clear hkz
            go_region_held3 (fun w' => Below V.heap.size V w' ∧ w'.cell? (ad.add j) = some (.string s) ∧ (convert 38 9 (.slice (some ⟨wr.heap.size, 0, none⟩) 8 8)).run Tryd.prog w' = .ok (.string kb) w') (first | exact KS.out _ ((Below.refl _ _).drew) | exact KS.out _ (Below.refl _ _) | exact KS.out _ ((Below.refl V.heap.size V).drew.trans hbX)) (first | (go_at_call 14; refine (CH.out _).mono ?_; rintro e w1 ⟨rfl, hbX⟩) | (go_at_call 12; refine (HA.out _).mono ?_; rintro e w2 ⟨rfl, rfl⟩))
            all_goals go_wp2
            all_goals exact ⟨⟨j + 1, by omega, y5 j, (hb.trans (HbV.out.mono hz)).trans (((Below.refl V.heap.size V).drew.trans hbX).mono (by have := HV1.out; omega))⟩, by simp [intOf]; omega⟩
          · have HT2 := Lib.hid (HT.out.below hb HT.out.1)
            go_wp2_with fail
            refine (awake_any _ HT2.out).mono ?_
            rintro e w5 ⟨rfl, hb5⟩
            go_wp2
            go_ret
            exact ⟨rfl, hb.trans (hb5.mono hb.size)⟩

theorem own : ownKnob Tryd.prog.godebug = none := by kernel_rfl
theorem laidOut : laidOutB Tryd.prog = true := by kernel_rfl
theorem gTab : Tryd.prog.globalNamed "math/bits.deBruijn64tab" = some 2 := by kernel_rfl
theorem gTabType : (Tryd.prog.globals[2]?).map (·.type) = some 61 := by kernel_rfl
theorem cellsTab : Tryd.prog.cellsOf 61 = 64 := by kernel_rfl
theorem cellsOne : Tryd.prog.cellsOf 5 = 1 := by kernel_rfl
theorem table {W : World} (h : laidMetH Tryd.prog Rows.checksumAddsRow.laid W) : Tab W := by
  rw [MakeChecks.laidMetH_plain _ _ _ (by kernel_rfl)] at h
  have hc := (Lib.tabIs_of_head (k := .u8) (zs := [0, 1, 56, 2, 57, 49, 28, 3, 61, 58, 42, 50, 38, 29, 17, 4, 62, 47, 59, 36, 45, 43, 51, 22, 53, 39, 33, 30, 24, 18, 12, 5, 63, 55, 48, 27, 60, 41, 37, 16, 46, 35, 44, 21, 52, 32, 23, 11, 54, 26, 40, 15, 34, 20, 31, 10, 25, 14, 19, 9, 13, 8, 7, 6]) gTab gTabType Tryd.underlying61 Tryd.underlying5 cellsOne cellsTab h.tail).cell gTab 15 (by decide)
  exact tab_of_cell hc

noncomputable def laidWorld (os : Os) : World := World.doorLaid Tryd.prog 400 os
theorem laid_met (os : Os) : laidMet Tryd.prog Rows.checksumAddsRow.laid ((laidWorld os).forCall (fun _ _ => 0) ⟨#[], #[.slice none 0 0, .int .u8 0, .int .u64 0], []⟩).memory :=
  laidMet_of_run' 8 (by kernel_rfl) (by kernel_rfl)
theorem reads (os : Os) {H : Type} (enc : TypeId × Value → H) : ∃ places, DataW.whole enc Tryd.prog ((laidWorld os).forCall (fun _ _ => 0) ⟨#[], #[.slice none 0 0, .int .u8 0, .int .u64 0], []⟩).memory Tryd.f8.params.toList Rows.checksumAddsSpec.vars false (#[.slice none 0 0, .int .u8 0, .int .u64 0] : Array Value).toList 8 = some ([.nil, .lit (.int .u8 0), .lit (.int .u64 0)], [], places) :=
  ⟨[], by kernel_rfl⟩
theorem contract (H : Type) (enc : TypeId × Value → H) (W : World) (base : Nat) (args : Array Value) (ds gs : List (DataW H)) (before : List MemPlace)
    (hval0 : ∀ (j : Nat) t v, Tryd.f8.params[j]? = some t → args[j]? = some v → Value.okWide Tryd.prog W .any base t v)
    (hW : DataW.Whole enc Tryd.prog Tryd.f8.params.toList Rows.checksumAddsSpec.vars false W args.toList ds gs before) (hL : laidMetH Tryd.prog Rows.checksumAddsRow.laid W) :
    Calls Tryd.prog 8 args W fun e W' => ∃ v, e = .returned v ∧ Rows.checksumAddsSpec.post enc Tryd.prog Tryd.f8 false true false false W args v W' := by
  have hval : ∀ (j : Nat) t v, Tryd.f8.params[j]? = some t → args[j]? = some v → Value.okWide Tryd.prog W .any base t v := hval0
  have hW' := hW
  obtain ⟨p, q, hA0, hV, rfl, hfz, hnd⟩ := hW
  have hA : DataW.TrodAll enc Tryd.prog W 0 (fun _ => true) true Tryd.f8.params.toList args.toList ds p := hA0
  rw [Tryd.params8] at hA hval
  obtain ⟨v0, vs0, d0, ds0, p0, q0, hargs, rfl, rfl, h0, r0⟩ := trodAll_cons hA
  obtain ⟨v1, vs1, d1, ds1, p1, q1, rfl, rfl, rfl, h1, r1⟩ := trodAll_cons r0
  obtain ⟨v2, vs2, d2, ds2, p2, q2, rfl, rfl, rfl, h2, r2⟩ := trodAll_cons r1
  obtain ⟨rfl, rfl, rfl⟩ := trodAll_nil r2
  obtain rfl : args = #[v0, v1, v2] := by cases args; simp_all
  obtain ⟨rfl, rfl⟩ := trodVars_none hV
  have k0 := h0
  have lt0 : ∀ x ∈ p0, x.block < W.heap.size := by obtain ⟨m, hm⟩ := k0; exact DataW.trod_lt m _ _ _ hm
  have aux0 : ∃ (A : Option Addr) (n c : Nat) (ss : List ByteArray), v0 = .slice A n c ∧ n ≤ maxLen ∧ n ≤ c ∧ Strs W A n ss ∧ (∀ s ∈ ss, s.size ≤ maxLen) := by
    obtain ⟨m, hm⟩ := h0
    rcases open_strings Tryd.underlying29 Tryd.underlying9 cellsStr hm with ⟨hcs, hx⟩ | ⟨a, n, c, ss, hcs, _, hl, hm2, hz, hx, hcell, hws⟩
    · obtain ⟨A, n, c, rfl⟩ := okWide_slice Tryd.underlying29 (hval 0 29 v0 rfl rfl)
      simp [Value.cells] at hcs
      obtain ⟨rfl, rfl, rfl⟩ := hcs
      exact ⟨none, 0, 0, [], rfl, Nat.zero_le _, Nat.le_refl _, Reads.none_, fun s hs => by cases hs⟩
    · obtain ⟨A, n', c', rfl⟩ := okWide_slice Tryd.underlying29 (hval 0 29 v0 rfl rfl)
      simp [Value.cells] at hcs
      obtain ⟨rfl, rfl, rfl⟩ := hcs
      have hln : n' ≤ ss.length := by rw [hz]; split <;> omega
      refine ⟨some a, n', c', ss.take n', rfl, by omega, hl, ⟨by simp; omega, fun hn => ⟨a, rfl, ?_, fun j u hu => ?_⟩⟩, fun s hs => hws s (List.mem_of_mem_take hs)⟩
      · have h0 := hcell 0 (by omega)
        rcases Nat.lt_or_ge a.block W.heap.size with hlt | hge
        · exact hlt
        · exfalso
          have : (a.add 0).block = a.block := block_of_add a 0
          simp [World.cell?, this, Array.getElem?_eq_none hge] at h0
      · rw [List.getElem?_map, List.getElem?_take] at hu
        split at hu
        · rename_i hj
          rw [hcell j (by omega), ← hu, List.getD_eq_getElem?_getD, List.getElem?_eq_getElem (by omega)]
          rfl
        · simp at hu
  obtain ⟨A0, n0, c0, s0, rfl, g0, gc0, S0, L0⟩ := aux0
  have k1 := h1
  have lt1 : ∀ x ∈ p1, x.block < W.heap.size := by obtain ⟨m, hm⟩ := k1; exact DataW.trod_lt m _ _ _ hm
  obtain ⟨a1, rfl, -, -, w1⟩ := open_int Tryd.underlying5 (hval 1 5 v1 rfl rfl) h1
  have k2 := h2
  have lt2 : ∀ x ∈ p2, x.block < W.heap.size := by obtain ⟨m, hm⟩ := k2; exact DataW.trod_lt m _ _ _ hm
  obtain ⟨a2, rfl, -, -, w2⟩ := open_int Tryd.underlying22 (hval 2 22 v2 rfl rfl) h2
  clear hA0 hval0
  refine (walk A0 n0 c0 s0 a1 a2 W S0 g0 gc0 L0 w1 w2 (table hL)).mono fun e W' ⟨he, bel⟩ => ?_
  subst he
  exact ⟨_, rfl, _, _, _, [], _, [], hW', trodAll_mk1 (shut_bool Tryd.underlying4 _), (trodAll_cons_mk (Below.trod laidOut (by kernel_rfl) (of_decide_eq_true (by kernel_rfl)) k0 bel lt0) (trodAll_cons_mk (Below.trod laidOut (by kernel_rfl) (of_decide_eq_true (by kernel_rfl)) k1 bel lt1) (trodAll_cons_mk (Below.trod laidOut (by kernel_rfl) (of_decide_eq_true (by kernel_rfl)) k2 bel lt2) trodAll_mk0))), rfl, bel.frame _, fun h => by cases h⟩

set_option maxRecDepth 100000 in
theorem lifted (os : Os) (started : os.Started) (H : Type) (enc : TypeId × Value → H) (F : Stop.Interp) :
    ReturnsInHanded {} Tryd.checked os 8 .any ((OpenSpec.ofChange Rows.checksumAddsSpec).preRow enc Tryd.prog Tryd.f8 Rows.checksumAddsRow.domain false Rows.checksumAddsRow.laid) (((OpenSpec.ofChange Rows.checksumAddsSpec).at F).post enc Tryd.prog Tryd.f8 false true false false) := by
  obtain ⟨places, hx⟩ := reads os enc
  refine returnsInHanded_of_row (C := Tryd.checked) (s := OpenSpec.ofChange Rows.checksumAddsSpec) own started (by kernel_rfl) Tryd.func8
    (witness_row_at (enc := enc) (C := Tryd.checked) false (laidWorld os) #[.slice none 0 0, .int .u8 0, .int .u64 0] rfl (by kernel_rfl) (by kernel_rfl) (by kernel_rfl)
      (OpenSpec.preRow_of_cond 8 hx (by kernel_rfl) (fun k hk => by cases hk) (by kernel_rfl) (laid_met os))) ?_
  intro W base args ds gs before hval hW _ _ _ hL _ _
  exact contract H enc W base args ds gs before hval hW hL
theorem said : Rows.ChecksumAddsSaid :=
  OpenClaim.holds_of_cond 8 Tryd.f8 rfl rfl rfl rfl rfl rfl rfl ⟨rfl, rfl, rfl, rfl, rfl⟩ rfl rfl rfl rfl rfl (by kernel_rfl) Tryd.func8 (by kernel_rfl)
    (of_decide_eq_true (by kernel_rfl)) (by unfold Func.isWrapper; first | (rw [if_pos (by decide +kernel)]; kernel_rfl) | (rw [if_neg (by decide +kernel)]; exact ⟨rfl, rfl⟩))
    (fun os started H enc _ F => by rw [OpenClaim.pre_eq_preRow]; exact lifted os started H enc F)
/-- No parameter wants a stand-in; the program's own looks are off. -/
theorem plain (f : FuncId) (fn : Func) (hf : Tryd.pinned.checked.prog.funcNamed "cardnet/cardnetlaw07.ChecksumAdds" = some f) (hfn : Tryd.pinned.checked.prog.funcs[f]? = some fn) :
    false = Tryd.pinned.checked.prog.looks [] ∧ ∀ (j : Nat) t, fn.params[j]? = some t → Tryd.pinned.checked.prog.wantsStandIn t = false := by
  obtain rfl : f = 8 := Option.some.inj ((show Tryd.prog.funcNamed "cardnet/cardnetlaw07.ChecksumAdds" = some 8 by kernel_rfl).symm.trans hf) |>.symm
  obtain rfl : fn = Tryd.f8 := (Option.some.inj (Tryd.func8.symm.trans hfn)).symm
  refine ⟨by kernel_rfl, fun j t ht => ?_⟩
  rw [Tryd.params8] at ht
  have hm : t ∈ [29, 5, 22] := by simpa using Array.mem_of_getElem? ht
  have hall : ([29, 5, 22].all fun u => !Tryd.prog.wantsStandIn u) = true := by kernel_rfl
  exact (show Tryd.prog.wantsStandIn t = false by simpa using List.all_eq_true.1 hall t hm)
/-- THE CARD: the statement. -/
theorem proved : Rows.ChecksumAddsCardSaid :=
  Claim7.holds_tied_plain_at .later [] _ _ _ _ said (fun _ h => by cases h) (by kernel_rfl) (fun _ h => by cases h) checksumAdds_row_tie rfl ⟨rfl, rfl⟩ (by kernel_rfl) rfl plain (by kernel_rfl)
#print axioms proved
end Go.Proofs.YtfchpobjepdpgaaDoor.checksumAdds
