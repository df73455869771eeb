/-
  PROVED: for every list of changes, number of steps and mask, the law DiskArmed returns true: an armed disk crashes at exactly the step that was named. Conditions: none besides the form's own reach.
-/
import Derived.Test.YtkfiekpinojahaaDK11
import Derived.ChangeSlices
import Derived.Test.YtkfiekpinojahaaRows
import Derived.WalkKit
import Derived.ProofKit
import Derived.OpenShut
import Derived.ShutString
import Derived.ChangeOld
import Derived.Below
namespace Go.Proofs.Ytkfiekpinojahaa.diskArmed
open Go.ChangeShapes Go.WideShapes Go.ChangeAt Go.RowKit
open Go.ChangeMaps (open_string shut_string)
set_option linter.unusedVariables false
def stA (m n : Nat) (W : List (Nat × ByteArray)) (k : Nat) : DSt := if k < n then ⟨blank8, W.take k, false, n - k, m⟩ else ⟨surv m blank8 W k, [], true, 0, m⟩
def nowA (m n : Nat) (W : List (Nat × ByteArray)) (k : Nat) : List ByteArray := if W.length < n then appl blank8 (W.take k) else surv m blank8 W k
theorem surv_pre (m : Nat) (l : List ByteArray) (W : List (Nat × ByteArray)) (k j : Nat) (h : j ≤ k) : surv m l (W.take k) j = surv m l W j := by
  induction j with
  | zero => rfl
  | succ j ih =>
    cases hx : W[j]? with
    | some x =>
      rw [surv_succ m l W hx, surv_succ m l (W.take k) (x := x) (by rw [List.getElem?_take_of_lt (by omega)]; exact hx), ih (by omega)]
    | none =>
      have h1 : (W.take k)[j]? = none := by rw [List.getElem?_take_of_lt (by omega)]; exact hx
      have a : ∀ V : List (Nat × ByteArray), V[j]? = none → surv m l V (j + 1) = surv m l V j := fun V hV => by
        unfold surv
        rw [List.range_succ, List.foldl_append]
        simp only [List.foldl_cons, List.foldl_nil, hV, ite_self]
      rw [a _ h1, a _ hx, ih (by omega)]
theorem is_any2 {K D B : Nat} {v : Value} {s : DSt} {w : World} {l : List ByteArray} (hr : Rep w K D B v s) (hnow : l.length = 8) (hd : s.down = false) (hc : curS s = l) {ys : Array Value} (hy : ys = strs l) : Calls Try.prog 20 #[.pointer (some ⟨D, 0, none⟩), .agg ys] w fun e w' => e = .returned (.bool true) ∧ ∃ v', Left w w' K D B v v' s := by
  subst hy
  exact (is_any hr hnow hd hc).mono fun e w' ⟨he, hb⟩ => ⟨he, v, Left.same hr hb⟩
theorem nowA_len (m n : Nat) (W : List (Nat × ByteArray)) (k : Nat) : (nowA m n W k).length = 8 := by
  unfold nowA
  split
  · rw [appl_len]; rfl
  · rw [surv_len]; rfl
theorem nowA_succ {m n : Nat} {W : List (Nat × ByteArray)} {k : Nat} {x : Nat × ByteArray} (hx : W[k]? = some x) (hk : k < 64) : nowA m n W (k + 1) = if W.length < n ∨ m.testBit k = true then (nowA m n W k).set x.1 x.2 else nowA m n W k := by
  unfold nowA
  by_cases h : W.length < n
  · rw [if_pos h, if_pos h, if_pos (.inl h), appl_take blank8 W hx]
  · rw [if_neg h, if_neg h, surv_succ m blank8 W hx, Nat.mod_eq_of_lt hk]
    simp [h]
theorem stA_write {m n : Nat} {W : List (Nat × ByteArray)} {k : Nat} {q : Nat} {t : ByteArray} (hx : W[k]? = some (q, t)) (hk : k < n) (hn : n ≤ 64) (hq : q < 8) (ht : t.size ≤ 64) : writeE (stA m n W k) (q : Int) t = (if k + 1 = n then 13 else 0) ∧ writeS (stA m n W k) (q : Int) t = stA m n W (k + 1) := by
  have hkl : k < W.length := (List.getElem?_eq_some_iff.1 hx).1
  have h0 : stA m n W k = ⟨blank8, W.take k, false, n - k, m⟩ := by unfold stA; rw [if_pos hk]
  rw [h0]
  have hc : chkS ⟨blank8, W.take k, false, n - k, m⟩ (q : Int) = 0 := by
    unfold chkS
    simp only
    rw [if_neg (by simp), if_neg (by simp [blank8]; omega)]
  have hl : (W.take k).length = k := by simp; omega
  have htk : W.take k ++ [(q, t)] = W.take (k + 1) := by rw [List.take_add_one, hx]; rfl
  constructor
  · unfold writeE
    simp only
    rw [if_neg (by simp [hc]), if_neg (by omega), if_neg (by omega)]
    by_cases h : k + 1 = n
    · rw [if_pos (by omega), if_pos h]
    · rw [if_neg (by omega), if_neg h]
  · unfold writeS
    simp only
    rw [if_neg (by simp [hc]; omega)]
    by_cases h : k + 1 = n
    · rw [if_pos (by omega)]
      unfold stA crashS pushS
      simp only [Int.toNat_natCast, htk]
      rw [if_neg (by omega)]
      have hl1 : (W.take (k + 1)).length = k + 1 := by simp; omega
      rw [hl1, surv_pre m blank8 W (k + 1) (k + 1) (Nat.le_refl _)]
    · rw [if_neg (by omega)]
      unfold stA pushS
      simp only [Int.toNat_natCast, htk]
      rw [if_pos (by omega)]
      rfl
set_option maxHeartbeats 3200000 in
set_option maxRecDepth 5000 in
theorem walk0 (A0 : Option Addr) (k0 c0 : Nat) (L0 : List CR) (s8 : Nat) (hs8 : s8 < 256) (m : Nat) (hm : m < 18446744073709551616) (w : World) (lk0 : k0 ≤ maxLen) (lc0 : k0 ≤ c0) (lS0 : CRs w w.heap.size A0 k0 L0) (lL0 : ∀ r ∈ L0, okCR r) :
    Calls Try.prog 6 #[.slice A0 k0 c0, .int .u8 (s8 : Int), .int .u64 (m : Int)] w fun e w' => e = .returned (.bool true) ∧ Below w.heap.size w w' := by
  have HMM := Lib.hid hm
  obtain ⟨p, hp⟩ : ∃ p : Nat, p = s8 % 64 := ⟨_, rfl⟩
  obtain ⟨n, hn⟩ : ∃ n : Nat, n = 1 + p := ⟨_, rfl⟩
  have hn0 : (s8 : Int) % 64 = (p : Int) := by omega
  have hn1 : 1 + (p : Int) = (n : Int) := by omega
  have hn2 : n ≤ 64 := by omega
  have hn3 : 1 ≤ n := by omega
  have HN := Lib.hid (And.intro hn3 hn2)
  have AW := Lib.hid awake_any
  have S0 := Lib.hid (short_any A0 k0 c0 L0 w lS0 lk0)
  have HS0 := Lib.hid lS0
  have N0 : Hid (∀ r ∈ L0, 0 ≤ r.n ∧ r.n < 256) := Lib.hid fun r hr => u8_in (lL0 r hr).1
  clear hm hn hp lk0 lc0 lS0 lL0
  go_enter Try.func6, Try.ntmps6
  go_wp2_with fail
  refine S0.out.mono ?_
  rintro e w1 ⟨b, rfl, hb0, rfl⟩
  cases b
  case false =>
    clear hb0
    go_wp2_with fail
    refine (AW.out _).mono ?_
    rintro e w1 ⟨rfl, hB⟩
    go_wp2
    go_ret
    exact ⟨rfl, hB⟩
  obtain ⟨h60, h64⟩ := hb0 rfl
  have P0 := Lib.hid h60
  have Q0 := Lib.hid h64
  clear hb0 h60 h64
  go_wp2_with fail
  refine (new_mk w (Nat.le_refl _)).mono ?_
  rintro e w1 ⟨D, B, rfl, hr, hB⟩
  have HB := Lib.hid hB
  have HR := Lib.hid hr
  have HL := Lib.hid (Left.same hr (Below.refl _ _))
  clear hr hB
  go_wp2_with fail
  have HA0 : Hid (armE (mk blank8 []) (n : Int) = 0 ∧ armS (mk blank8 []) (n : Int) m = stA m n (L0.map mp) 0) := Lib.hid (by
    obtain ⟨h1, h2⟩ := HN.out
    refine ⟨?_, ?_⟩
    · unfold armE mk
      simp only
      rw [if_neg (by simp), if_neg (by omega)]
    · unfold armS mk stA
      simp only
      rw [if_neg (by simp; omega), if_pos (by omega)]
      rfl)
  have HBL : Hid (Blk (w1.alloc (.cells #[]  40)) w1.heap.size 40 #[]) := Lib.hid (Blk.new _ _ _)
  clear HBL
  refine (arm_eq (s' := stA m n (L0.map mp) 0) HL.out.rep HMM.out rfl HA0.out.1 HA0.out.2).mono ?_
  rintro e w2 ⟨rfl, v2, hL⟩
  have HL2 := Lib.hid (HL.out.trans hL)
  clear HL hL
  have HL := HL2
  clear HL2
  go_wp2_with fail
  have hSt := St.new HL.out (strs (nowA m n (L0.map mp) 0))
  rw [show strs (nowA m n (L0.map mp) 0) = strs blank8 by unfold nowA; split <;> rfl] at hSt
  have hM : w.heap.size ≤ w2.heap.size := Nat.le_trans HB.out.size HL.out.kp.size
  have hSt1 : St w1 (w2.alloc (.cells #[.string ⟨#[]⟩, .string ⟨#[]⟩, .string ⟨#[]⟩, .string ⟨#[]⟩, .string ⟨#[]⟩, .string ⟨#[]⟩, .string ⟨#[]⟩, .string ⟨#[]⟩] 40)) w.heap.size D B (.slice none 0 0) v2 (stA m n (L0.map mp) 0) w2.heap.size (strs (nowA m n (L0.map mp) 0)) := by
    rw [show strs (nowA m n (L0.map mp) 0) = strs blank8 by unfold nowA; split <;> rfl]
    exact hSt
  clear hSt
  generalize w2.alloc (.cells #[.string ⟨#[]⟩, .string ⟨#[]⟩, .string ⟨#[]⟩, .string ⟨#[]⟩, .string ⟨#[]⟩, .string ⟨#[]⟩, .string ⟨#[]⟩, .string ⟨#[]⟩] 40) = W, w2.heap.size = M at hSt1 hM ⊢
  have HS := Lib.hid hSt1
  have HM := Lib.hid hM
  have HLEN : Hid ((L0.map mp).length = k0) := Lib.hid (by rw [List.length_map]; exact HS0.out.1)
  clear hSt1 hM HL
  go_loopw [11] (fun i wr => ∃ k : Nat, k ≤ k0 ∧ k ≤ n ∧ i = .int .i64 (k : Int) ∧ ∃ v', St w1 wr w.heap.size D B (.slice none 0 0) v' (stA m n (L0.map mp) k) M (strs (nowA m n (L0.map mp) k))) (fun i _ => k0 - (intOf i).toNat)
  case atStart => exact ⟨0, by omega, by omega, rfl, _, HS.out⟩
  case round =>
    obtain ⟨k, hk, hkn', rfl, v', hSt⟩ := hrel
    clear HS
    have HS := Lib.hid hSt
    clear hSt
    by_cases hlt : k < k0
    · by_cases hkn : k < n
      · have hbk : Below w.heap.size w wr := (HB.out.trans (HS.out.left.below HR.out (Nat.le_refl _) HB.out.size))
        obtain ⟨ad, x, p2, rfl, hx, hp, hpb, c0, c1⟩ := CRs.at (HS0.out.below hbk) hlt
        have HX := Lib.hid hx
        have hx1 := N0.out x (cr_mem hx)
        obtain ⟨q, hq⟩ : ∃ q : Nat, q = (x.n % 8).toNat := ⟨_, rfl⟩
        have hq1 : x.n % 8 = (q : Int) := by omega
        have hq2 : q < 8 := by omega
        have hq3 : x.n.tmod 8 = (q : Int) := by rw [Int.tmod_eq_emod_of_nonneg hx1.1]; exact hq1
        have hq4 : IntKind.i64.wrap (q : Int) = (q : Int) := IntWalk.i64_in _ (by omega)
        have hmp : mp x = (q, x.t) := by rw [hq]; rfl
        have hxw : (L0.map mp)[k]? = some (q, x.t) := by rw [List.getElem?_map, HX.out]; exact congrArg some hmp
        have HXW := Lib.hid hxw
        have HTZ := Lib.hid (Q0.out x (cr_mem hx))
        have HAW := Lib.hid (stA_write (m := m) hxw hkn HN.out.2 hq2 HTZ.out)
        have HPB := Lib.hid (And.intro hpb hp)
        have hpl : p2.block < wr.heap.size := by have := hbk.size; omega
        have HRD : Hid (Rep wr.drew w.heap.size D B v' (stA m n (L0.map mp) k)) := Lib.hid (HS.out.left.rep.below (Below.refl _ _).drew)
        have hbit := bit_and m k HMM.out
        have hk6 : k < 60 := by have := P0.out; omega
        have HNW := Lib.hid (nowA_succ (m := m) (n := n) hxw (by omega))
        obtain ⟨hx2, hx3⟩ := hx1
        clear hmp hx hxw hq hbk
        by_cases hlast : k + 1 = n
        · have hl1 : ((k : Int) == (n : Int) - 1) = true := by have : (k : Int) = (n : Int) - 1 := by omega
                                                               simp [this]
          have HE : Hid (writeE (stA m n (L0.map mp) k) (q : Int) x.t = 13) := Lib.hid (by rw [HAW.out.1, if_pos hlast])
          go_wp2_with fail
          go_region_with (first | ((with_reducible refine (write_eq HRD.out (by have := HTZ.out; omega) HE.out HAW.out.2).mono ?_); rintro e w3 ⟨rfl, v3, hL⟩))
          all_goals
            have HS2 := Lib.hid (HS.out.drew.step hL)
            have hb1 : Below w.heap.size w wr := (HB.out.trans (HS.out.left.below HR.out (Nat.le_refl _) HB.out.size))
            have hb2 : Below w.heap.size w w3 := (HB.out.trans (HS2.out.left.below HR.out (Nat.le_refl _) HB.out.size))
            have q0 : w3.cell? p2 = some (.int .u8 x.n) := by rw [hb2.cell HPB.out.1, ← hb1.cell HPB.out.1]; exact c0
            have q1 : w3.cell? ⟨p2.block, p2.off + 1, none⟩ = some (.string x.t) := by rw [hb2.cell (p := ⟨p2.block, p2.off + 1, none⟩) HPB.out.1, ← hb1.cell (p := ⟨p2.block, p2.off + 1, none⟩) HPB.out.1]; exact c1
            obtain ⟨y, hy⟩ : ∃ y, w3.cell? ⟨M, q, none⟩ = some y := by
              rw [HS2.out.blk.cell q, strs_get, List.getElem?_eq_getElem (by rw [nowA_len]; exact hq2)]
              exact ⟨_, rfl⟩
            have hyf := HS2.out.blk.frozen q
            have hyl := HS2.out.blk.lt
            have hpl3 : p2.block < w3.heap.size := by have := hb2.size; have := HPB.out.1; omega
            clear HS hL hb1 hb2 c0 c1 hpl
            by_cases hkk : k0 < n
            · exfalso; omega
            · have hdk : decide ((k0 : Int) < (n : Int)) = false := decide_eq_false (by omega)
              cases hb : m.testBit k
              · rw [hb] at hbit
                have HN2 := Lib.hid (HNW.out.trans (if_neg (by rw [HLEN.out, hb]; simp; omega)))
                clear hb
                go_wp2_with fail
                go_round
                case rel => exact ⟨k + 1, by omega, by omega, by go_num, v3, by rw [HN2.out]; exact HS2.out⟩
                case measure => simp [intOf]; omega
              · rw [hb] at hbit
                have HN2 := Lib.hid (HNW.out.trans (if_pos (.inr hb)))
                clear hb
                go_wp2_with fail
                go_simp
                go_region
                go_wp2
                go_round
                case rel => exact ⟨k + 1, by omega, by omega, by go_num, v3, by rw [HN2.out, ← strs_set]; exact (HS2.out.set q _).drew⟩
                case measure => simp [intOf]; omega
        · have hl1 : ((k : Int) == (n : Int) - 1) = false := beq_false_of_ne (by omega)
          have HE : Hid (writeE (stA m n (L0.map mp) k) (q : Int) x.t = 0) := Lib.hid (by rw [HAW.out.1, if_neg hlast])
          go_wp2_with fail
          go_region_with (first | ((with_reducible refine (write_eq HRD.out (by have := HTZ.out; omega) HE.out HAW.out.2).mono ?_); rintro e w3 ⟨rfl, v3, hL⟩))
          all_goals
            have HS2 := Lib.hid (HS.out.drew.step hL)
            have hb1 : Below w.heap.size w wr := (HB.out.trans (HS.out.left.below HR.out (Nat.le_refl _) HB.out.size))
            have hb2 : Below w.heap.size w w3 := (HB.out.trans (HS2.out.left.below HR.out (Nat.le_refl _) HB.out.size))
            have q0 : w3.cell? p2 = some (.int .u8 x.n) := by rw [hb2.cell HPB.out.1, ← hb1.cell HPB.out.1]; exact c0
            have q1 : w3.cell? ⟨p2.block, p2.off + 1, none⟩ = some (.string x.t) := by rw [hb2.cell (p := ⟨p2.block, p2.off + 1, none⟩) HPB.out.1, ← hb1.cell (p := ⟨p2.block, p2.off + 1, none⟩) HPB.out.1]; exact c1
            obtain ⟨y, hy⟩ : ∃ y, w3.cell? ⟨M, q, none⟩ = some y := by
              rw [HS2.out.blk.cell q, strs_get, List.getElem?_eq_getElem (by rw [nowA_len]; exact hq2)]
              exact ⟨_, rfl⟩
            have hyf := HS2.out.blk.frozen q
            have hyl := HS2.out.blk.lt
            have hpl3 : p2.block < w3.heap.size := by have := hb2.size; have := HPB.out.1; omega
            clear HS hL hb1 hb2 c0 c1 hpl
            by_cases hkk : k0 < n
            · have HN2 := Lib.hid (HNW.out.trans (if_pos (.inl (by rw [HLEN.out]; exact hkk))))
              have hdk : decide ((k0 : Int) < (n : Int)) = true := decide_eq_true (by omega)
              clear hbit
              go_wp2_with fail
              go_simp
              go_region
              go_wp2
              go_round
              case rel => exact ⟨k + 1, by omega, by omega, by go_num, v3, by rw [HN2.out, ← strs_set]; exact (HS2.out.set q _).drew⟩
              case measure => simp [intOf]; omega
            · have hdk : decide ((k0 : Int) < (n : Int)) = false := decide_eq_false (by omega)
              cases hb : m.testBit k
              · rw [hb] at hbit
                have HN2 := Lib.hid (HNW.out.trans (if_neg (by rw [HLEN.out, hb]; simp; omega)))
                clear hb
                go_wp2_with fail
                go_round
                case rel => exact ⟨k + 1, by omega, by omega, by go_num, v3, by rw [HN2.out]; exact HS2.out⟩
                case measure => simp [intOf]; omega
              · rw [hb] at hbit
                have HN2 := Lib.hid (HNW.out.trans (if_pos (.inr hb)))
                clear hb
                go_wp2_with fail
                go_simp
                go_region
                go_wp2
                go_round
                case rel => exact ⟨k + 1, by omega, by omega, by go_num, v3, by rw [HN2.out, ← strs_set]; exact (HS2.out.set q _).drew⟩
                case measure => simp [intOf]; omega
      · obtain rfl : k = n := by omega
        have hkn2 : k ≤ k := by omega
        have hS1 := HS.out
        obtain ⟨z0, z1, z2, z3, z4, z5, z6, z7, hz⟩ := eight (l := nowA m k (L0.map mp) k) (nowA_len _ _ _ _)
        rw [hz] at hS1
        have hsA : stA m k (L0.map mp) k = ⟨surv m blank8 (L0.map mp) k, [], true, 0, m⟩ := by unfold stA; rw [if_neg (by omega)]
        have hnA : nowA m k (L0.map mp) k = surv m blank8 (L0.map mp) k := by unfold nowA; rw [if_neg (by rw [HLEN.out]; omega)]
        rw [hnA] at hz
        rw [hsA, hz] at hS1
        rw [show strs [z0, z1, z2, z3, z4, z5, z6, z7] = #[.string z0, .string z1, .string z2, .string z3, .string z4, .string z5, .string z6, .string z7] from rfl] at hS1
        have HZ := Lib.hid hz
        clear HS
        have HS := Lib.hid hS1
        clear hS1 hsA hnA hz
        have hdk : decide ((k0 : Int) < (k : Int)) = false := decide_eq_false (by omega)
        clear hk hkn'
        have c0 := HS.out.blk.cell 0
        have cf0 := HS.out.blk.frozen 0
        have c1 := HS.out.blk.cell 1
        have cf1 := HS.out.blk.frozen 1
        have c2 := HS.out.blk.cell 2
        have cf2 := HS.out.blk.frozen 2
        have c3 := HS.out.blk.cell 3
        have cf3 := HS.out.blk.frozen 3
        have c4 := HS.out.blk.cell 4
        have cf4 := HS.out.blk.frozen 4
        have c5 := HS.out.blk.cell 5
        have cf5 := HS.out.blk.frozen 5
        have c6 := HS.out.blk.cell 6
        have cf6 := HS.out.blk.frozen 6
        have c7 := HS.out.blk.cell 7
        have cf7 := HS.out.blk.frozen 7
        simp at c0 c1 c2 c3 c4 c5 c6 c7
        have cl := HS.out.blk.lt
        go_wp2_with fail
        clear cl c0 cf0 c1 cf1 c2 cf2 c3 cf3 c4 cf4 c5 cf5 c6 cf6 c7 cf7
        refine (down_eq HS.out.left.rep (b := true) rfl).mono ?_
        rintro e w2 ⟨rfl, rfl⟩
        go_wp2_with fail
        refine (arm_eq (m := 0) (s' := ⟨[z0, z1, z2, z3, z4, z5, z6, z7], [], true, 0, m⟩) HS.out.left.rep (by decide) rfl (c := 13) rfl rfl).mono ?_
        rintro e w2 ⟨rfl, v2, hL⟩
        have HS2 := Lib.hid (HS.out.step hL)
        clear HS hL
        have HS := HS2
        clear HS2
        have c0 := HS.out.blk.cell 0
        have cf0 := HS.out.blk.frozen 0
        have c1 := HS.out.blk.cell 1
        have cf1 := HS.out.blk.frozen 1
        have c2 := HS.out.blk.cell 2
        have cf2 := HS.out.blk.frozen 2
        have c3 := HS.out.blk.cell 3
        have cf3 := HS.out.blk.frozen 3
        have c4 := HS.out.blk.cell 4
        have cf4 := HS.out.blk.frozen 4
        have c5 := HS.out.blk.cell 5
        have cf5 := HS.out.blk.frozen 5
        have c6 := HS.out.blk.cell 6
        have cf6 := HS.out.blk.frozen 6
        have c7 := HS.out.blk.cell 7
        have cf7 := HS.out.blk.frozen 7
        simp at c0 c1 c2 c3 c4 c5 c6 c7
        have cl := HS.out.blk.lt
        go_wp2_with fail
        clear cl c0 cf0 c1 cf1 c2 cf2 c3 cf3 c4 cf4 c5 cf5 c6 cf6 c7 cf7
        refine (recover_eq (s' := ⟨[z0, z1, z2, z3, z4, z5, z6, z7], [], false, 0, m⟩) HS.out.left.rep (c := 0) rfl rfl).mono ?_
        rintro e w2 ⟨rfl, v2, hL⟩
        have HS2 := Lib.hid (HS.out.step hL)
        clear HS hL
        have HS := HS2
        clear HS2
        have c0 := HS.out.blk.cell 0
        have cf0 := HS.out.blk.frozen 0
        have c1 := HS.out.blk.cell 1
        have cf1 := HS.out.blk.frozen 1
        have c2 := HS.out.blk.cell 2
        have cf2 := HS.out.blk.frozen 2
        have c3 := HS.out.blk.cell 3
        have cf3 := HS.out.blk.frozen 3
        have c4 := HS.out.blk.cell 4
        have cf4 := HS.out.blk.frozen 4
        have c5 := HS.out.blk.cell 5
        have cf5 := HS.out.blk.frozen 5
        have c6 := HS.out.blk.cell 6
        have cf6 := HS.out.blk.frozen 6
        have c7 := HS.out.blk.cell 7
        have cf7 := HS.out.blk.frozen 7
        simp at c0 c1 c2 c3 c4 c5 c6 c7
        have cl := HS.out.blk.lt
        go_wp2_with fail
        clear cl c0 cf0 c1 cf1 c2 cf2 c3 cf3 c4 cf4 c5 cf5 c6 cf6 c7 cf7
        refine (flush_eq (s' := ⟨[z0, z1, z2, z3, z4, z5, z6, z7], [], false, 0, m⟩) HS.out.left.rep (c := 0) rfl rfl).mono ?_
        rintro e w2 ⟨rfl, v2, hL⟩
        have HS2 := Lib.hid (HS.out.step hL)
        clear HS hL
        have HS := HS2
        clear HS2
        have c0 := HS.out.blk.cell 0
        have cf0 := HS.out.blk.frozen 0
        have c1 := HS.out.blk.cell 1
        have cf1 := HS.out.blk.frozen 1
        have c2 := HS.out.blk.cell 2
        have cf2 := HS.out.blk.frozen 2
        have c3 := HS.out.blk.cell 3
        have cf3 := HS.out.blk.frozen 3
        have c4 := HS.out.blk.cell 4
        have cf4 := HS.out.blk.frozen 4
        have c5 := HS.out.blk.cell 5
        have cf5 := HS.out.blk.frozen 5
        have c6 := HS.out.blk.cell 6
        have cf6 := HS.out.blk.frozen 6
        have c7 := HS.out.blk.cell 7
        have cf7 := HS.out.blk.frozen 7
        simp at c0 c1 c2 c3 c4 c5 c6 c7
        have cl := HS.out.blk.lt
        go_wp2_with fail
        clear cl c0 cf0 c1 cf1 c2 cf2 c3 cf3 c4 cf4 c5 cf5 c6 cf6 c7 cf7
        refine (is_any2 (l := [z0, z1, z2, z3, z4, z5, z6, z7]) HS.out.left.rep rfl rfl rfl rfl).mono ?_
        rintro e w2 ⟨rfl, v2, hL⟩
        have HS2 := Lib.hid (HS.out.step hL)
        clear HS hL
        have HS := HS2
        clear HS2
        have c0 := HS.out.blk.cell 0
        have cf0 := HS.out.blk.frozen 0
        have c1 := HS.out.blk.cell 1
        have cf1 := HS.out.blk.frozen 1
        have c2 := HS.out.blk.cell 2
        have cf2 := HS.out.blk.frozen 2
        have c3 := HS.out.blk.cell 3
        have cf3 := HS.out.blk.frozen 3
        have c4 := HS.out.blk.cell 4
        have cf4 := HS.out.blk.frozen 4
        have c5 := HS.out.blk.cell 5
        have cf5 := HS.out.blk.frozen 5
        have c6 := HS.out.blk.cell 6
        have cf6 := HS.out.blk.frozen 6
        have c7 := HS.out.blk.cell 7
        have cf7 := HS.out.blk.frozen 7
        simp at c0 c1 c2 c3 c4 c5 c6 c7
        have cl := HS.out.blk.lt
        go_wp2_with fail
        clear cl c0 cf0 c1 cf1 c2 cf2 c3 cf3 c4 cf4 c5 cf5 c6 cf6 c7 cf7
        refine (AW.out _).mono ?_
        rintro e w3 ⟨rfl, hB3⟩
        go_wp2
        go_ret
        have hb := (HB.out.trans (HS.out.left.below HR.out (Nat.le_refl _) HB.out.size))
        exact ⟨rfl, hb.trans (hB3.mono hb.size)⟩
    · obtain rfl : k = k0 := by omega
      by_cases hkk : k < n
      · have hS1 := HS.out
        obtain ⟨z0, z1, z2, z3, z4, z5, z6, z7, hz⟩ := eight (l := nowA m n (L0.map mp) k) (nowA_len _ _ _ _)
        rw [hz] at hS1
        have htk : (L0.map mp).take k = L0.map mp := List.take_of_length_le (Nat.le_of_eq HLEN.out)
        have hsA : stA m n (L0.map mp) k = ⟨blank8, L0.map mp, false, n - k, m⟩ := by unfold stA; rw [if_pos hkk, htk]
        have hnA : nowA m n (L0.map mp) k = appl blank8 (L0.map mp) := by unfold nowA; rw [if_pos (by rw [HLEN.out]; exact hkk), htk]
        rw [hnA] at hz
        rw [hsA] at hS1
        rw [show strs [z0, z1, z2, z3, z4, z5, z6, z7] = #[.string z0, .string z1, .string z2, .string z3, .string z4, .string z5, .string z6, .string z7] from rfl] at hS1
        have HZ := Lib.hid hz
        clear HS
        have HS := Lib.hid hS1
        clear hS1 hsA hnA hz
        have hdk : decide ((k : Int) < (n : Int)) = true := decide_eq_true (by omega)
        clear hk hkn'
        have c0 := HS.out.blk.cell 0
        have cf0 := HS.out.blk.frozen 0
        have c1 := HS.out.blk.cell 1
        have cf1 := HS.out.blk.frozen 1
        have c2 := HS.out.blk.cell 2
        have cf2 := HS.out.blk.frozen 2
        have c3 := HS.out.blk.cell 3
        have cf3 := HS.out.blk.frozen 3
        have c4 := HS.out.blk.cell 4
        have cf4 := HS.out.blk.frozen 4
        have c5 := HS.out.blk.cell 5
        have cf5 := HS.out.blk.frozen 5
        have c6 := HS.out.blk.cell 6
        have cf6 := HS.out.blk.frozen 6
        have c7 := HS.out.blk.cell 7
        have cf7 := HS.out.blk.frozen 7
        simp at c0 c1 c2 c3 c4 c5 c6 c7
        have cl := HS.out.blk.lt
        go_wp2_with fail
        clear cl c0 cf0 c1 cf1 c2 cf2 c3 cf3 c4 cf4 c5 cf5 c6 cf6 c7 cf7
        refine (down_eq HS.out.left.rep (b := false) rfl).mono ?_
        rintro e w2 ⟨rfl, rfl⟩
        go_wp2_with fail
        refine (arm_eq (m := 0) (s' := mk blank8 (L0.map mp)) HS.out.left.rep (by decide) rfl (c := 0) rfl rfl).mono ?_
        rintro e w2 ⟨rfl, v2, hL⟩
        have HS2 := Lib.hid (HS.out.step hL)
        clear HS hL
        have HS := HS2
        clear HS2
        have c0 := HS.out.blk.cell 0
        have cf0 := HS.out.blk.frozen 0
        have c1 := HS.out.blk.cell 1
        have cf1 := HS.out.blk.frozen 1
        have c2 := HS.out.blk.cell 2
        have cf2 := HS.out.blk.frozen 2
        have c3 := HS.out.blk.cell 3
        have cf3 := HS.out.blk.frozen 3
        have c4 := HS.out.blk.cell 4
        have cf4 := HS.out.blk.frozen 4
        have c5 := HS.out.blk.cell 5
        have cf5 := HS.out.blk.frozen 5
        have c6 := HS.out.blk.cell 6
        have cf6 := HS.out.blk.frozen 6
        have c7 := HS.out.blk.cell 7
        have cf7 := HS.out.blk.frozen 7
        simp at c0 c1 c2 c3 c4 c5 c6 c7
        have cl := HS.out.blk.lt
        go_wp2_with fail
        clear cl c0 cf0 c1 cf1 c2 cf2 c3 cf3 c4 cf4 c5 cf5 c6 cf6 c7 cf7
        refine (flush_mk2 (N' := [z0, z1, z2, z3, z4, z5, z6, z7]) HS.out.left.rep HZ.out).mono ?_
        rintro e w2 ⟨rfl, v2, hL⟩
        have HS2 := Lib.hid (HS.out.step hL)
        clear HS hL
        have HS := HS2
        clear HS2
        have c0 := HS.out.blk.cell 0
        have cf0 := HS.out.blk.frozen 0
        have c1 := HS.out.blk.cell 1
        have cf1 := HS.out.blk.frozen 1
        have c2 := HS.out.blk.cell 2
        have cf2 := HS.out.blk.frozen 2
        have c3 := HS.out.blk.cell 3
        have cf3 := HS.out.blk.frozen 3
        have c4 := HS.out.blk.cell 4
        have cf4 := HS.out.blk.frozen 4
        have c5 := HS.out.blk.cell 5
        have cf5 := HS.out.blk.frozen 5
        have c6 := HS.out.blk.cell 6
        have cf6 := HS.out.blk.frozen 6
        have c7 := HS.out.blk.cell 7
        have cf7 := HS.out.blk.frozen 7
        simp at c0 c1 c2 c3 c4 c5 c6 c7
        have cl := HS.out.blk.lt
        go_wp2_with fail
        clear cl c0 cf0 c1 cf1 c2 cf2 c3 cf3 c4 cf4 c5 cf5 c6 cf6 c7 cf7
        refine (is_mk2 (l := [z0, z1, z2, z3, z4, z5, z6, z7]) HS.out.left.rep rfl rfl rfl).mono ?_
        rintro e w2 ⟨rfl, v2, hL⟩
        have HS2 := Lib.hid (HS.out.step hL)
        clear HS hL
        have HS := HS2
        clear HS2
        have c0 := HS.out.blk.cell 0
        have cf0 := HS.out.blk.frozen 0
        have c1 := HS.out.blk.cell 1
        have cf1 := HS.out.blk.frozen 1
        have c2 := HS.out.blk.cell 2
        have cf2 := HS.out.blk.frozen 2
        have c3 := HS.out.blk.cell 3
        have cf3 := HS.out.blk.frozen 3
        have c4 := HS.out.blk.cell 4
        have cf4 := HS.out.blk.frozen 4
        have c5 := HS.out.blk.cell 5
        have cf5 := HS.out.blk.frozen 5
        have c6 := HS.out.blk.cell 6
        have cf6 := HS.out.blk.frozen 6
        have c7 := HS.out.blk.cell 7
        have cf7 := HS.out.blk.frozen 7
        simp at c0 c1 c2 c3 c4 c5 c6 c7
        have cl := HS.out.blk.lt
        go_wp2_with fail
        clear cl c0 cf0 c1 cf1 c2 cf2 c3 cf3 c4 cf4 c5 cf5 c6 cf6 c7 cf7
        refine (AW.out _).mono ?_
        rintro e w3 ⟨rfl, hB3⟩
        go_wp2
        go_ret
        have hb := (HB.out.trans (HS.out.left.below HR.out (Nat.le_refl _) HB.out.size))
        exact ⟨rfl, hb.trans (hB3.mono hb.size)⟩
      · obtain rfl : k = n := by omega
        have hkn2 : k ≤ k := by omega
        have hS1 := HS.out
        obtain ⟨z0, z1, z2, z3, z4, z5, z6, z7, hz⟩ := eight (l := nowA m k (L0.map mp) k) (nowA_len _ _ _ _)
        rw [hz] at hS1
        have hsA : stA m k (L0.map mp) k = ⟨surv m blank8 (L0.map mp) k, [], true, 0, m⟩ := by unfold stA; rw [if_neg (by omega)]
        have hnA : nowA m k (L0.map mp) k = surv m blank8 (L0.map mp) k := by unfold nowA; rw [if_neg (by rw [HLEN.out]; omega)]
        rw [hnA] at hz
        rw [hsA, hz] at hS1
        rw [show strs [z0, z1, z2, z3, z4, z5, z6, z7] = #[.string z0, .string z1, .string z2, .string z3, .string z4, .string z5, .string z6, .string z7] from rfl] at hS1
        have HZ := Lib.hid hz
        clear HS
        have HS := Lib.hid hS1
        clear hS1 hsA hnA hz
        have hdk : decide ((k : Int) < (k : Int)) = false := decide_eq_false (by omega)
        clear hk hkn'
        have c0 := HS.out.blk.cell 0
        have cf0 := HS.out.blk.frozen 0
        have c1 := HS.out.blk.cell 1
        have cf1 := HS.out.blk.frozen 1
        have c2 := HS.out.blk.cell 2
        have cf2 := HS.out.blk.frozen 2
        have c3 := HS.out.blk.cell 3
        have cf3 := HS.out.blk.frozen 3
        have c4 := HS.out.blk.cell 4
        have cf4 := HS.out.blk.frozen 4
        have c5 := HS.out.blk.cell 5
        have cf5 := HS.out.blk.frozen 5
        have c6 := HS.out.blk.cell 6
        have cf6 := HS.out.blk.frozen 6
        have c7 := HS.out.blk.cell 7
        have cf7 := HS.out.blk.frozen 7
        simp at c0 c1 c2 c3 c4 c5 c6 c7
        have cl := HS.out.blk.lt
        go_wp2_with fail
        clear cl c0 cf0 c1 cf1 c2 cf2 c3 cf3 c4 cf4 c5 cf5 c6 cf6 c7 cf7
        refine (down_eq HS.out.left.rep (b := true) rfl).mono ?_
        rintro e w2 ⟨rfl, rfl⟩
        go_wp2_with fail
        refine (arm_eq (m := 0) (s' := ⟨[z0, z1, z2, z3, z4, z5, z6, z7], [], true, 0, m⟩) HS.out.left.rep (by decide) rfl (c := 13) rfl rfl).mono ?_
        rintro e w2 ⟨rfl, v2, hL⟩
        have HS2 := Lib.hid (HS.out.step hL)
        clear HS hL
        have HS := HS2
        clear HS2
        have c0 := HS.out.blk.cell 0
        have cf0 := HS.out.blk.frozen 0
        have c1 := HS.out.blk.cell 1
        have cf1 := HS.out.blk.frozen 1
        have c2 := HS.out.blk.cell 2
        have cf2 := HS.out.blk.frozen 2
        have c3 := HS.out.blk.cell 3
        have cf3 := HS.out.blk.frozen 3
        have c4 := HS.out.blk.cell 4
        have cf4 := HS.out.blk.frozen 4
        have c5 := HS.out.blk.cell 5
        have cf5 := HS.out.blk.frozen 5
        have c6 := HS.out.blk.cell 6
        have cf6 := HS.out.blk.frozen 6
        have c7 := HS.out.blk.cell 7
        have cf7 := HS.out.blk.frozen 7
        simp at c0 c1 c2 c3 c4 c5 c6 c7
        have cl := HS.out.blk.lt
        go_wp2_with fail
        clear cl c0 cf0 c1 cf1 c2 cf2 c3 cf3 c4 cf4 c5 cf5 c6 cf6 c7 cf7
        refine (recover_eq (s' := ⟨[z0, z1, z2, z3, z4, z5, z6, z7], [], false, 0, m⟩) HS.out.left.rep (c := 0) rfl rfl).mono ?_
        rintro e w2 ⟨rfl, v2, hL⟩
        have HS2 := Lib.hid (HS.out.step hL)
        clear HS hL
        have HS := HS2
        clear HS2
        have c0 := HS.out.blk.cell 0
        have cf0 := HS.out.blk.frozen 0
        have c1 := HS.out.blk.cell 1
        have cf1 := HS.out.blk.frozen 1
        have c2 := HS.out.blk.cell 2
        have cf2 := HS.out.blk.frozen 2
        have c3 := HS.out.blk.cell 3
        have cf3 := HS.out.blk.frozen 3
        have c4 := HS.out.blk.cell 4
        have cf4 := HS.out.blk.frozen 4
        have c5 := HS.out.blk.cell 5
        have cf5 := HS.out.blk.frozen 5
        have c6 := HS.out.blk.cell 6
        have cf6 := HS.out.blk.frozen 6
        have c7 := HS.out.blk.cell 7
        have cf7 := HS.out.blk.frozen 7
        simp at c0 c1 c2 c3 c4 c5 c6 c7
        have cl := HS.out.blk.lt
        go_wp2_with fail
        clear cl c0 cf0 c1 cf1 c2 cf2 c3 cf3 c4 cf4 c5 cf5 c6 cf6 c7 cf7
        refine (flush_eq (s' := ⟨[z0, z1, z2, z3, z4, z5, z6, z7], [], false, 0, m⟩) HS.out.left.rep (c := 0) rfl rfl).mono ?_
        rintro e w2 ⟨rfl, v2, hL⟩
        have HS2 := Lib.hid (HS.out.step hL)
        clear HS hL
        have HS := HS2
        clear HS2
        have c0 := HS.out.blk.cell 0
        have cf0 := HS.out.blk.frozen 0
        have c1 := HS.out.blk.cell 1
        have cf1 := HS.out.blk.frozen 1
        have c2 := HS.out.blk.cell 2
        have cf2 := HS.out.blk.frozen 2
        have c3 := HS.out.blk.cell 3
        have cf3 := HS.out.blk.frozen 3
        have c4 := HS.out.blk.cell 4
        have cf4 := HS.out.blk.frozen 4
        have c5 := HS.out.blk.cell 5
        have cf5 := HS.out.blk.frozen 5
        have c6 := HS.out.blk.cell 6
        have cf6 := HS.out.blk.frozen 6
        have c7 := HS.out.blk.cell 7
        have cf7 := HS.out.blk.frozen 7
        simp at c0 c1 c2 c3 c4 c5 c6 c7
        have cl := HS.out.blk.lt
        go_wp2_with fail
        clear cl c0 cf0 c1 cf1 c2 cf2 c3 cf3 c4 cf4 c5 cf5 c6 cf6 c7 cf7
        refine (is_any2 (l := [z0, z1, z2, z3, z4, z5, z6, z7]) HS.out.left.rep rfl rfl rfl rfl).mono ?_
        rintro e w2 ⟨rfl, v2, hL⟩
        have HS2 := Lib.hid (HS.out.step hL)
        clear HS hL
        have HS := HS2
        clear HS2
        have c0 := HS.out.blk.cell 0
        have cf0 := HS.out.blk.frozen 0
        have c1 := HS.out.blk.cell 1
        have cf1 := HS.out.blk.frozen 1
        have c2 := HS.out.blk.cell 2
        have cf2 := HS.out.blk.frozen 2
        have c3 := HS.out.blk.cell 3
        have cf3 := HS.out.blk.frozen 3
        have c4 := HS.out.blk.cell 4
        have cf4 := HS.out.blk.frozen 4
        have c5 := HS.out.blk.cell 5
        have cf5 := HS.out.blk.frozen 5
        have c6 := HS.out.blk.cell 6
        have cf6 := HS.out.blk.frozen 6
        have c7 := HS.out.blk.cell 7
        have cf7 := HS.out.blk.frozen 7
        simp at c0 c1 c2 c3 c4 c5 c6 c7
        have cl := HS.out.blk.lt
        go_wp2_with fail
        clear cl c0 cf0 c1 cf1 c2 cf2 c3 cf3 c4 cf4 c5 cf5 c6 cf6 c7 cf7
        refine (AW.out _).mono ?_
        rintro e w3 ⟨rfl, hB3⟩
        go_wp2
        go_ret
        have hb := (HB.out.trans (HS.out.left.below HR.out (Nat.le_refl _) HB.out.size))
        exact ⟨rfl, hb.trans (hB3.mono hb.size)⟩
theorem walk (A0 : Option Addr) (k0 c0 : Nat) (L0 : List CR) (s m : Int) (w : World) (lk0 : k0 ≤ maxLen) (lc0 : k0 ≤ c0) (lS0 : CRs w w.heap.size A0 k0 L0) (lL0 : ∀ r ∈ L0, okCR r) (hs : (Lit.int .u8 s).wf = true) (hm : (Lit.int .u64 m).wf = true) :
    Calls Try.prog 6 #[.slice A0 k0 c0, .int .u8 s, .int .u64 m] w fun e w' => e = .returned (.bool true) ∧ Below w.heap.size w w' := by
  obtain ⟨h1, h2⟩ := u64_in hm
  obtain ⟨h3, h4⟩ := u8_in hs
  obtain ⟨n, rfl⟩ : ∃ n : Nat, m = (n : Int) := ⟨m.toNat, by omega⟩
  obtain ⟨t, rfl⟩ : ∃ n : Nat, s = (n : Int) := ⟨s.toNat, by omega⟩
  exact walk0 A0 k0 c0 L0 t (by omega) n (by omega) w lk0 lc0 lS0 lL0

theorem own : ownKnob Try.prog.godebug = none := by kernel_rfl
theorem laidOut : laidOutB Try.prog = true := by kernel_rfl
set_option maxRecDepth 100000 in
theorem lifted (os : Os) (started : os.Started) (H : Type) (enc : TypeId × Value → H) :
    ReturnsInHanded {} Try.checked os 6 .any (Rows.diskArmedSpec.pre6 enc Try.prog Try.f6 Rows.diskArmedRow.domain false) (Rows.diskArmedSpec.post enc Try.prog Try.f6 false true false false) := by
  refine returnsInHanded_of_change (C := Try.checked) own started (by kernel_rfl) Try.func6
    (ChangeSpec.witness6 (enc := enc) (C := Try.checked) false ⟨#[], #[.slice none 0 0, .int .u8 0, .int .u64 0], []⟩ 8 (by kernel_rfl) (by kernel_rfl) (by kernel_rfl) (by kernel_rfl)) ?_
  intro W base args ds gs before hval0 hW hcnd _
  have hval : ∀ (j : Nat) t v, Try.f6.params[j]? = some t → args[j]? = some v → Value.okWide Try.prog W .any base t v := hval0
  have hW' := hW
  obtain ⟨p, q, hA0, hV, rfl, hfz, hnd⟩ := hW
  have hA : DataW.TrodAll enc Try.prog W 0 (fun _ => true) true Try.f6.params.toList args.toList ds p := hA0
  rw [Try.params6] at hA hval
  obtain ⟨v0, vs0, d0, ds0, p0, q0, hargs, rfl, rfl, h0, r0⟩ := trodAll_cons hA
  obtain ⟨v1, vs1, d1, ds1, p1, q1, rfl, rfl, rfl, h1, r1⟩ := trodAll_cons r0
  obtain ⟨v2, vs2, d2, ds2, p2, q2, rfl, rfl, rfl, h2, r2⟩ := trodAll_cons r1
  obtain ⟨rfl, rfl, rfl⟩ := trodAll_nil r2
  obtain rfl : args = #[v0, v1, v2] := by cases args; simp_all
  obtain ⟨rfl, rfl⟩ := trodVars_none hV
  have k0 := h0
  have lt0 : ∀ x ∈ p0, x.block < W.heap.size := by obtain ⟨m, hm⟩ := k0; exact DataW.trod_lt m _ _ _ hm
  obtain ⟨zA0, zk0, zc0, zL0, rfl, lk0, lc0, lS0, lL0⟩ := open_CRT (hval 0 38 v0 rfl rfl) h0
  have k1 := h1
  have lt1 : ∀ x ∈ p1, x.block < W.heap.size := by obtain ⟨m, hm⟩ := k1; exact DataW.trod_lt m _ _ _ hm
  obtain ⟨a1, rfl, -, -, w1⟩ := open_int Try.underlying5 (hval 1 5 v1 rfl rfl) h1
  have k2 := h2
  have lt2 : ∀ x ∈ p2, x.block < W.heap.size := by obtain ⟨m, hm⟩ := k2; exact DataW.trod_lt m _ _ _ hm
  obtain ⟨a2, rfl, -, -, w2⟩ := open_int Try.underlying33 (hval 2 33 v2 rfl rfl) h2
  clear hA0 hval0
  refine (walk zA0 zk0 zc0 zL0 a1 a2 W lk0 lc0 lS0 lL0 w1 w2).mono fun e W' ⟨he, bel⟩ => ?_
  subst he
  exact ⟨_, rfl, _, _, _, [], _, [], hW', trodAll_mk1 (shut_bool Try.underlying4 _), (trodAll_cons_mk (Below.trod laidOut (by kernel_rfl) (of_decide_eq_true (by kernel_rfl)) k0 bel lt0) (trodAll_cons_mk (Below.trod laidOut (by kernel_rfl) (of_decide_eq_true (by kernel_rfl)) k1 bel lt1) (trodAll_cons_mk (Below.trod laidOut (by kernel_rfl) (of_decide_eq_true (by kernel_rfl)) k2 bel lt2) trodAll_mk0))), rfl, bel.frame _, fun h => by cases h⟩

theorem over : Rows.diskArmedRow.holds Try.pinned (OpenSpec.ofChange Rows.diskArmedSpec) :=
  OpenClaim.holds_of_wide 6 Try.f6 rfl rfl rfl rfl rfl rfl rfl ⟨rfl, rfl, rfl, rfl, rfl⟩ rfl rfl rfl rfl rfl (by kernel_rfl) Try.func6 (by kernel_rfl)
    (of_decide_eq_true (by kernel_rfl)) (by unfold Func.isWrapper; first | (rw [if_pos (by decide +kernel)]; kernel_rfl) | (rw [if_neg (by decide +kernel)]; exact ⟨rfl, rfl⟩))
    (fun os started H enc _ => lifted os started H enc)
/-- THE STATEMENT. -/
theorem proved : Rows.DiskArmedSaid := over
#print axioms proved
end Go.Proofs.Ytkfiekpinojahaa.diskArmed
