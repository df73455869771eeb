/-
  PROVED: for every string, every place and every mask, the law ChecksumBursts returns true: a change of bits within 32 consecutive ones changes the checksum, and the examples hold; the card ties the listed tables to the program's text. Conditions: none besides the form's own reach.
-/
import Derived.Test.YtfchpobjepdpgaaDoorCards
import Derived.Test.YtfchpobjepdpgaaDoorTie
import Derived.WalkKit
import Derived.ProofKit
import Derived.OpenShut
import Derived.ShutString
import Derived.ChangeOld
import Derived.Below
import Derived.Deep.DeepHandedRow
import Derived.Lib.LaidTab
import Derived.LaidMore
import Derived.Stop.LaidErr
import Derived.Stop.Joined
import Derived.Test.YtfchpobjepdpgaaDoorSum9
namespace Go.Proofs.YtfchpobjepdpgaaDoor.checksumBursts
open Go.ChangeShapes Go.WideShapes Go.ChangeAt Go.RowKit
open Go.ChangeMaps (open_string shut_string)
set_option linter.unusedVariables false
theorem tab_of_cell {W : World} (h : W.cell? ⟨2, 15, none⟩ = some (.int .u8 4)) : Tab W := by
  refine ⟨?_, h⟩
  rcases Nat.lt_or_ge 2 W.heap.size with hl | hl
  · exact hl
  · simp [World.cell?, Array.getElem?_eq_none hl] at h

theorem bit_one (v k : Nat) (hv : v < 4294967296) : bits .and .u32 ((v : Int) / 2 ^ k) 1 = ((v / 2 ^ k % 2 : Nat) : Int) := by
  have e : (v : Int) / 2 ^ k = ((v / 2 ^ k : Nat) : Int) := by rw [Int.natCast_ediv, Int.natCast_pow]; rfl
  rw [e]
  exact x1 (v / 2 ^ k) (Nat.lt_of_le_of_lt (Nat.div_le_self _ _) hv)
theorem flip_val (x : UInt8) (r : Nat) (hr : r < 8) : bits .xor .u8 (x.toNat : Int) (2 ^ r % 256) = ((x ^^^ UInt8.ofNat (2 ^ r)).toNat : Int) := by
  have hlt : 2 ^ r < 256 := by
    have : 2 ^ r ≤ 2 ^ 7 := Nat.pow_le_pow_right (by decide) (by omega)
    omega
  have e0 : (2 : Int) ^ r = ((2 ^ r : Nat) : Int) := (Int.natCast_pow 2 r).symm
  have e : (2 : Int) ^ r % 256 = ((2 ^ r : Nat) : Int) := by
    rw [e0]
    exact Int.emod_eq_of_lt (Int.natCast_nonneg _) (Int.ofNat_lt.2 hlt)
  rw [e, u8_xor_nat _ _ x.toNat_lt hlt, UInt8.toNat_xor, UInt8.toNat_ofNat', Nat.mod_eq_of_lt (by simpa using hlt)]
set_option maxHeartbeats 1000000 in
theorem walk (s : ByteArray) (a v : Int) (w : World) (hs : s.size ≤ maxLen) (w1 : (Lit.int .u16 a).wf = true) (w2 : (Lit.int .u32 v).wf = true) (hT : Tab w) :
    Calls Tryd.prog 6 #[.string s, .int .u16 a, .int .u32 v] w fun e w' => e = .returned (.bool true) ∧ Below w.heap.size w w' := by
  obtain ⟨at_, rfl⟩ : ∃ p : Nat, a = p := ⟨a.toNat, by simp [Lit.wf, IntKind.min, IntKind.max, IntKind.signed, IntKind.bits] at w1; omega⟩
  obtain ⟨m, rfl⟩ : ∃ p : Nat, v = p := ⟨v.toNat, by simp [Lit.wf, IntKind.min, IntKind.max, IntKind.signed, IntKind.bits] at w2; omega⟩
  have ha : at_ < 65536 := by simp [Lit.wf, IntKind.min, IntKind.max, IntKind.signed, IntKind.bits] at w1; omega
  have hm : m < 4294967296 := by simp [Lit.wf, IntKind.min, IntKind.max, IntKind.signed, IntKind.bits] at w2; omega
  have HT := Lib.hid hT
  have HM := Lib.hid hs
  unfold maxLen at hs
  clear hT w1 w2
  by_cases hl : 300 < s.size
  · go_enter Tryd.func6, Tryd.ntmps6
    go_wp2_with (go_at_call 9; refine (awake_any _ HT.out).mono ?_; rintro e w1 ⟨rfl, hb⟩)
    go_ret
    exact ⟨rfl, by assumption⟩
  have hl2 : s.size ≤ 300 := by omega
  clear hl
  by_cases h0 : s.size = 0
  · go_enter Tryd.func6, Tryd.ntmps6
    go_wp2_with (go_at_call 9; refine (awake_any _ HT.out).mono ?_; rintro e w1 ⟨rfl, hb⟩)
    go_ret
    exact ⟨rfl, by assumption⟩
  have hpos : 0 < s.size := by omega
  have hne : ((s.size : Int) == 0) = false := by rw [beq_eq_false_iff_ne]; omega
  clear h0
  have hcv := conv_bytes w s
  go_enter Tryd.func6, Tryd.ntmps6
  go_wp2_with fail
  clear hcv
  obtain ⟨t, htt⟩ : ∃ t, t = at_ % (8 * s.size) := ⟨_, rfl⟩
  have ht : (at_ : Int) % (8 * (s.size : Int)) = (t : Int) := by rw [htt]; rfl
  have htl : t < 8 * s.size := by rw [htt]; exact Nat.mod_lt _ (by omega)
  clear htt
  go_loopw [8, 9] (fun c i wr => ∃ (k : Nat) (l : List UInt8), k ≤ 32 ∧ i = .int .i64 k ∧ c = .bool (changedB m t (8 * s.size) k) ∧ Row wr w.heap.size l ∧ l.length = s.size ∧ bigN l = bigN s.data.toList ^^^ 2 ^ t * winN m t (8 * s.size) k ∧ Below w.heap.size w wr) (fun _ i _ => 32 - (intOf i).toNat)
  case atStart => exact ⟨0, s.data.toList, Nat.zero_le _, rfl, rfl, Row.new w s _, rfl, by simp [winN], ((Below.refl _ w).drew).alloc (Nat.le_refl _) _⟩
  case round =>
    obtain ⟨k, l, hk, rfl, rfl, hR, hln, hB, hb⟩ := hrel
    have HL := Lib.hid hln
    have HB := Lib.hid hB
    have HR := Lib.hid hR
    clear hB
    by_cases hlt : k < 32
    · have hbit := bit_one m k hm
      by_cases hw : m / 2 ^ k % 2 = 1 ∧ t + k < 8 * s.size
      · obtain ⟨hw1, hw2⟩ := hw
        have HW : Hid (winN m t (8 * s.size) (k + 1) = winN m t (8 * s.size) k ^^^ 2 ^ k) := Lib.hid (by rw [winN, if_pos ⟨hw1, hw2⟩])
        rw [hw1] at hbit
        clear hw1
        obtain ⟨j, hjj⟩ : ∃ j, j = (t + k) / 8 := ⟨_, rfl⟩
        obtain ⟨r, hrr⟩ : ∃ r, r = (t + k) % 8 := ⟨_, rfl⟩
        have hj : ((t : Int) + (k : Int)) / 8 = (j : Int) := by omega
        have hr : ((t : Int) + (k : Int)) % 8 = (r : Int) := by omega
        have hjl : j < s.size := by omega
        have hr8 : r < 8 := by omega
        have HJ : Hid (t + k = 8 * j + r) := Lib.hid (by omega)
        clear hjj hrr
        have hjl2 : j < l.length := by omega
        have hC := hR.cell j hjl2
        have hF := hR.frozen j hjl2
        have hfl := flip_val l[j] r hr8
        have HC1 : Hid (changedB m t (8 * s.size) (k + 1) = true) := Lib.hid (by unfold changedB; rw [HW.out]; exact decide_eq_true winN_set)
        have HBN : Hid (bigN (l.set j (l[j] ^^^ UInt8.ofNat (2 ^ r))) = bigN s.data.toList ^^^ 2 ^ t * winN m t (8 * s.size) (k + 1)) := Lib.hid (by rw [HW.out]; exact big_flip hjl2 hr8 HJ.out HB.out)
        have HRN := Lib.hid (hR.set j hjl2 (l[j] ^^^ UInt8.ofNat (2 ^ r)))
        have HLN : Hid ((l.set j (l[j] ^^^ UInt8.ofNat (2 ^ r))).length = s.size) := Lib.hid (by rw [List.length_set, HL.out])
        clear hln hR HW HB HR
        go_wp2
        refine ⟨⟨k + 1, l.set j (l[j] ^^^ UInt8.ofNat (2 ^ r)), by omega, y5 k, ?_, HRN.out, HLN.out, HBN.out, hb.setCell (Nat.le_refl _) _⟩, by simp [intOf]; omega⟩
        rw [HC1.out]
      · have HW : Hid (winN m t (8 * s.size) (k + 1) = winN m t (8 * s.size) k) := Lib.hid (by rw [winN, if_neg hw])
        have HC1 : Hid (changedB m t (8 * s.size) (k + 1) = changedB m t (8 * s.size) k) := Lib.hid (by unfold changedB; rw [HW.out])
        clear hln hR
        by_cases hw1 : m / 2 ^ k % 2 = 1
        · have hw2 : 8 * s.size ≤ t + k := by omega
          rw [hw1] at hbit
          clear hw1 hw
          go_wp2
          exact ⟨⟨k + 1, l, by omega, y5 k, by rw [HC1.out], HR.out, HL.out, by rw [HW.out]; exact HB.out, hb⟩, by simp [intOf]; omega⟩
        · rw [show m / 2 ^ k % 2 = 0 by omega] at hbit
          clear hw1 hw
          go_wp2
          exact ⟨⟨k + 1, l, by omega, y5 k, by rw [HC1.out], HR.out, HL.out, by rw [HW.out]; exact HB.out, hb⟩, by simp [intOf]; omega⟩
    · obtain rfl : k = 32 := by omega
      have hstr := hR.str s.size (grownCap w s.size 0 5) hln
      have HT1 := Lib.hid (HT.out.below hb HT.out.1)
      have hsz : (⟨l.toArray⟩ : ByteArray).size ≤ maxLen := by show l.toArray.size ≤ _; have := HM.out; simp; omega
      have HZ := Lib.hid hsz
      clear hsz
      cases hch : changedB m t (8 * s.size) 32 with
      | false =>
        have hw0 : winN m t (8 * s.size) 32 = 0 := by simpa [changedB] using hch
        have heq : ((crcN ⟨l.toArray⟩ : Int) == (crcN s : Int)) = true := by
          rw [crc_same hln (by rw [HB.out, hw0]; simp)]; simp
        have heq2 : ((crcN ⟨l.toArray⟩ : Int) != (crcN s : Int)) = false := by rw [bne, heq]; rfl
        clear hw0 hch hln hR
        go_wp2_with fail
        refine (crc_any _ HZ.out _).mono ?_
        rintro e w1 ⟨rfl, rfl⟩
        go_wp2_with fail
        refine (crc_any s HM.out _).mono ?_
        rintro e w1 ⟨rfl, rfl⟩
        go_wp2_with fail
        refine (awake_any _ HT1.out).mono ?_
        rintro e w2 ⟨rfl, hb2⟩
        go_wp2
        go_ret
        exact ⟨rfl, hb.trans (hb2.mono hb.size)⟩
      | true =>
        have hw0 : winN m t (8 * s.size) 32 ≠ 0 := by simpa [changedB] using hch
        have hne2 : crcN ⟨l.toArray⟩ ≠ crcN s := crc_other hln (by omega) (winN_lt _ _ _ 32) hw0 HB.out
        have heq : ((crcN ⟨l.toArray⟩ : Int) == (crcN s : Int)) = false := by rw [beq_eq_false_iff_ne]; intro e; exact hne2 (by omega)
        have heq2 : ((crcN ⟨l.toArray⟩ : Int) != (crcN s : Int)) = true := by rw [bne, heq]; rfl
        clear hw0 hch hln hR hne2
        go_wp2_with fail
        refine (crc_any _ HZ.out _).mono ?_
        rintro e w1 ⟨rfl, rfl⟩
        go_wp2_with fail
        refine (crc_any s HM.out _).mono ?_
        rintro e w1 ⟨rfl, rfl⟩
        go_wp2_with fail
        refine (awake_any _ HT1.out).mono ?_
        rintro e w2 ⟨rfl, hb2⟩
        go_wp2
        go_ret
        exact ⟨rfl, hb.trans (hb2.mono hb.size)⟩

theorem own : ownKnob Tryd.prog.godebug = none := by kernel_rfl
theorem laidOut : laidOutB Tryd.prog = true := by kernel_rfl
theorem gTab : Tryd.prog.globalNamed "math/bits.deBruijn64tab" = some 2 := by kernel_rfl
theorem gTabType : (Tryd.prog.globals[2]?).map (·.type) = some 61 := by kernel_rfl
theorem cellsTab : Tryd.prog.cellsOf 61 = 64 := by kernel_rfl
theorem cellsOne : Tryd.prog.cellsOf 5 = 1 := by kernel_rfl
theorem table {W : World} (h : laidMetH Tryd.prog Rows.checksumBurstsRow.laid W) : Tab W := by
  rw [MakeChecks.laidMetH_plain _ _ _ (by kernel_rfl)] at h
  have hc := (Lib.tabIs_of_head (k := .u8) (zs := [0, 1, 56, 2, 57, 49, 28, 3, 61, 58, 42, 50, 38, 29, 17, 4, 62, 47, 59, 36, 45, 43, 51, 22, 53, 39, 33, 30, 24, 18, 12, 5, 63, 55, 48, 27, 60, 41, 37, 16, 46, 35, 44, 21, 52, 32, 23, 11, 54, 26, 40, 15, 34, 20, 31, 10, 25, 14, 19, 9, 13, 8, 7, 6]) gTab gTabType Tryd.underlying61 Tryd.underlying5 cellsOne cellsTab h.tail).cell gTab 15 (by decide)
  exact tab_of_cell hc

noncomputable def laidWorld (os : Os) : World := World.doorLaid Tryd.prog 400 os
theorem laid_met (os : Os) : laidMet Tryd.prog Rows.checksumBurstsRow.laid ((laidWorld os).forCall (fun _ _ => 0) ⟨#[], #[.string ByteArray.empty, .int .u16 0, .int .u32 0], []⟩).memory :=
  laidMet_of_run' 8 (by kernel_rfl) (by kernel_rfl)
theorem reads (os : Os) {H : Type} (enc : TypeId × Value → H) : ∃ places, DataW.whole enc Tryd.prog ((laidWorld os).forCall (fun _ _ => 0) ⟨#[], #[.string ByteArray.empty, .int .u16 0, .int .u32 0], []⟩).memory Tryd.f6.params.toList Rows.checksumBurstsSpec.vars false (#[.string ByteArray.empty, .int .u16 0, .int .u32 0] : Array Value).toList 8 = some ([.lit (.string []), .lit (.int .u16 0), .lit (.int .u32 0)], [], places) :=
  ⟨[], by kernel_rfl⟩
theorem contract (H : Type) (enc : TypeId × Value → H) (W : World) (base : Nat) (args : Array Value) (ds gs : List (DataW H)) (before : List MemPlace)
    (hval0 : ∀ (j : Nat) t v, Tryd.f6.params[j]? = some t → args[j]? = some v → Value.okWide Tryd.prog W .any base t v)
    (hW : DataW.Whole enc Tryd.prog Tryd.f6.params.toList Rows.checksumBurstsSpec.vars false W args.toList ds gs before) (hL : laidMetH Tryd.prog Rows.checksumBurstsRow.laid W) :
    Calls Tryd.prog 6 args W fun e W' => ∃ v, e = .returned v ∧ Rows.checksumBurstsSpec.post enc Tryd.prog Tryd.f6 false true false false W args v W' := by
  have hval : ∀ (j : Nat) t v, Tryd.f6.params[j]? = some t → args[j]? = some v → Value.okWide Tryd.prog W .any base t v := hval0
  have hW' := hW
  obtain ⟨p, q, hA0, hV, rfl, hfz, hnd⟩ := hW
  have hA : DataW.TrodAll enc Tryd.prog W 0 (fun _ => true) true Tryd.f6.params.toList args.toList ds p := hA0
  rw [Tryd.params6] at hA hval
  obtain ⟨v0, vs0, d0, ds0, p0, q0, hargs, rfl, rfl, h0, r0⟩ := trodAll_cons hA
  obtain ⟨v1, vs1, d1, ds1, p1, q1, rfl, rfl, rfl, h1, r1⟩ := trodAll_cons r0
  obtain ⟨v2, vs2, d2, ds2, p2, q2, rfl, rfl, rfl, h2, r2⟩ := trodAll_cons r1
  obtain ⟨rfl, rfl, rfl⟩ := trodAll_nil r2
  obtain rfl : args = #[v0, v1, v2] := by cases args; simp_all
  obtain ⟨rfl, rfl⟩ := trodVars_none hV
  have k0 := h0
  have lt0 : ∀ x ∈ p0, x.block < W.heap.size := by obtain ⟨m, hm⟩ := k0; exact DataW.trod_lt m _ _ _ hm
  obtain ⟨a0, rfl, -, -, w0⟩ := open_string Tryd.underlying9 (hval 0 9 v0 rfl rfl) h0
  have k1 := h1
  have lt1 : ∀ x ∈ p1, x.block < W.heap.size := by obtain ⟨m, hm⟩ := k1; exact DataW.trod_lt m _ _ _ hm
  obtain ⟨a1, rfl, -, -, w1⟩ := open_int Tryd.underlying37 (hval 1 37 v1 rfl rfl) h1
  have k2 := h2
  have lt2 : ∀ x ∈ p2, x.block < W.heap.size := by obtain ⟨m, hm⟩ := k2; exact DataW.trod_lt m _ _ _ hm
  obtain ⟨a2, rfl, -, -, w2⟩ := open_int Tryd.underlying24 (hval 2 24 v2 rfl rfl) h2
  clear hA0 hval0
  refine (walk a0 a1 a2 W w0 w1 w2 (table hL)).mono fun e W' ⟨he, bel⟩ => ?_
  subst he
  exact ⟨_, rfl, _, _, _, [], _, [], hW', trodAll_mk1 (shut_bool Tryd.underlying4 _), (trodAll_cons_mk (Below.trod laidOut (by kernel_rfl) (of_decide_eq_true (by kernel_rfl)) k0 bel lt0) (trodAll_cons_mk (Below.trod laidOut (by kernel_rfl) (of_decide_eq_true (by kernel_rfl)) k1 bel lt1) (trodAll_cons_mk (Below.trod laidOut (by kernel_rfl) (of_decide_eq_true (by kernel_rfl)) k2 bel lt2) trodAll_mk0))), rfl, bel.frame _, fun h => by cases h⟩

set_option maxRecDepth 100000 in
theorem lifted (os : Os) (started : os.Started) (H : Type) (enc : TypeId × Value → H) (F : Stop.Interp) :
    ReturnsInHanded {} Tryd.checked os 6 .any ((OpenSpec.ofChange Rows.checksumBurstsSpec).preRow enc Tryd.prog Tryd.f6 Rows.checksumBurstsRow.domain false Rows.checksumBurstsRow.laid) (((OpenSpec.ofChange Rows.checksumBurstsSpec).at F).post enc Tryd.prog Tryd.f6 false true false false) := by
  obtain ⟨places, hx⟩ := reads os enc
  refine returnsInHanded_of_row (C := Tryd.checked) (s := OpenSpec.ofChange Rows.checksumBurstsSpec) own started (by kernel_rfl) Tryd.func6
    (witness_row_at (enc := enc) (C := Tryd.checked) false (laidWorld os) #[.string ByteArray.empty, .int .u16 0, .int .u32 0] rfl (by kernel_rfl) (by kernel_rfl) (by kernel_rfl)
      (OpenSpec.preRow_of_cond 8 hx (by kernel_rfl) (fun k hk => by cases hk) (by kernel_rfl) (laid_met os))) ?_
  intro W base args ds gs before hval hW _ _ _ hL _ _
  exact contract H enc W base args ds gs before hval hW hL
theorem said : Rows.ChecksumBurstsSaid :=
  OpenClaim.holds_of_cond 6 Tryd.f6 rfl rfl rfl rfl rfl rfl rfl ⟨rfl, rfl, rfl, rfl, rfl⟩ rfl rfl rfl rfl rfl (by kernel_rfl) Tryd.func6 (by kernel_rfl)
    (of_decide_eq_true (by kernel_rfl)) (by unfold Func.isWrapper; first | (rw [if_pos (by decide +kernel)]; kernel_rfl) | (rw [if_neg (by decide +kernel)]; exact ⟨rfl, rfl⟩))
    (fun os started H enc _ F => by rw [OpenClaim.pre_eq_preRow]; exact lifted os started H enc F)
/-- No parameter wants a stand-in; the program's own looks are off. -/
theorem plain (f : FuncId) (fn : Func) (hf : Tryd.pinned.checked.prog.funcNamed "cardnet/cardnetlaw07.ChecksumBursts" = some f) (hfn : Tryd.pinned.checked.prog.funcs[f]? = some fn) :
    false = Tryd.pinned.checked.prog.looks [] ∧ ∀ (j : Nat) t, fn.params[j]? = some t → Tryd.pinned.checked.prog.wantsStandIn t = false := by
  obtain rfl : f = 6 := Option.some.inj ((show Tryd.prog.funcNamed "cardnet/cardnetlaw07.ChecksumBursts" = some 6 by kernel_rfl).symm.trans hf) |>.symm
  obtain rfl : fn = Tryd.f6 := (Option.some.inj (Tryd.func6.symm.trans hfn)).symm
  refine ⟨by kernel_rfl, fun j t ht => ?_⟩
  rw [Tryd.params6] at ht
  have hm : t ∈ [9, 37, 24] := by simpa using Array.mem_of_getElem? ht
  have hall : ([9, 37, 24].all fun u => !Tryd.prog.wantsStandIn u) = true := by kernel_rfl
  exact (show Tryd.prog.wantsStandIn t = false by simpa using List.all_eq_true.1 hall t hm)
/-- THE CARD: the statement. -/
theorem proved : Rows.ChecksumBurstsCardSaid :=
  Claim7.holds_tied_plain_at .later [] _ _ _ _ said (fun _ h => by cases h) (by kernel_rfl) (fun _ h => by cases h) checksumBursts_row_tie rfl ⟨rfl, rfl⟩ (by kernel_rfl) rfl plain (by kernel_rfl)
#print axioms proved
end Go.Proofs.YtfchpobjepdpgaaDoor.checksumBursts
