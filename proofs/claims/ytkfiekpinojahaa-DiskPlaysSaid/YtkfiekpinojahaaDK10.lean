/-
  CONTRACTS of the disk's laws: short, write, is.
-/
import Derived.Test.YtkfiekpinojahaaDK9
namespace Go.Proofs.Ytkfiekpinojahaa
open Go.RowKit
set_option linter.unusedVariables false
set_option linter.unusedSimpArgs false
theorem cr_mem {L : List CR} {k : Nat} {x : CR} (h : L[k]? = some x) : x ∈ L := List.mem_of_getElem? h
def ShP (n : Nat) (L : List CR) (w : World) (e : Ending) (w' : World) : Prop := ∃ b, e = .returned (.bool b) ∧ (b = true → n ≤ 60 ∧ ∀ r ∈ L, r.t.size ≤ 64) ∧ w = w'
theorem short_any (A : Option Addr) (n c : Nat) (L : List CR) (w : World) (hS : CRs w w.heap.size A n L) (hn : n ≤ maxLen) : Calls Try.prog 18 #[.slice A n c] w fun e w' => ShP n L w e w' := by
  have HS := Lib.hid hS
  have HN := Lib.hid hn
  clear hS hn
  go_enter Try.func18, Try.ntmps18
  go_wp2
  go_loop [3] (fun i => ∃ k : Nat, k ≤ n ∧ k ≤ 60 ∧ i = .int .i64 (k : Int) ∧ ∀ j x, j < k → L[j]? = some x → x.t.size ≤ 64) (fun i => n - (intOf i).toNat)
  case atStart => exact ⟨0, Nat.zero_le _, by omega, rfl, fun j x hj => absurd hj (by omega)⟩
  case round =>
    obtain ⟨k, hk, hk60, rfl, hno⟩ := hrel
    have HK := Lib.hid (And.intro hk hk60)
    have HO := Lib.hid hno
    clear hno
    by_cases hlt : k < n
    · obtain ⟨ad, x, p, rfl, hx, hp, hpb, c0, c1⟩ := CRs.at HS.out hlt
      have HX := Lib.hid hx
      clear hx
      by_cases h60 : k < 60
      · have g1 : decide ((60 : Int) ≤ (k : Int)) = false := decide_eq_false (by omega)
        clear hk60
        by_cases hs : x.t.size ≤ 64
        · have g2 : decide ((64 : Int) < (x.t.size : Int)) = false := decide_eq_false (by omega)
          have HZ := Lib.hid hs
          have H60 := Lib.hid h60
          clear hs hk
          go_wp2
          go_round
          case rel =>
            refine ⟨k + 1, by omega, by have := H60.out; omega, by go_num, fun j y hj hy => ?_⟩
            rcases Nat.lt_or_ge j k with h | h
            · exact HO.out j y h hy
            · obtain rfl : j = k := by omega
              rw [HX.out] at hy
              cases hy
              exact HZ.out
          case measure => simp [intOf]; omega
        · have g2 : decide ((64 : Int) < (x.t.size : Int)) = true := decide_eq_true (by omega)
          clear hs h60 hk
          go_wp2
          go_ret
          exact ⟨false, rfl, (fun h => by cases h), rfl⟩
      · have g1 : decide ((60 : Int) ≤ (k : Int)) = true := decide_eq_true (by omega)
        clear h60 hk60 hk
        go_wp2
        go_ret
        exact ⟨false, rfl, (fun h => by cases h), rfl⟩
    · obtain rfl : k = n := by omega
      clear hk hk60
      go_wp2
      go_ret
      refine ⟨true, rfl, fun _ => ⟨HK.out.2, fun r hr => ?_⟩, rfl⟩
      obtain ⟨j, hj, rfl⟩ := List.getElem_of_mem hr
      exact HO.out j _ (by have := HS.out.1; omega) (List.getElem?_eq_getElem hj)
def mp (r : CR) : Nat × ByteArray := ((r.n % 8).toNat, r.t)
theorem eight {l : List ByteArray} (h : l.length = 8) : ∃ a0 a1 a2 a3 a4 a5 a6 a7, l = [a0, a1, a2, a3, a4, a5, a6, a7] := by
  match l, h with
  | [a0, a1, a2, a3, a4, a5, a6, a7], _ => exact ⟨a0, a1, a2, a3, a4, a5, a6, a7, rfl⟩
theorem cur_read {s : DSt} {l : List ByteArray} (hd : s.down = false) (hc : curS s = l) {i : Nat} (hi : i < l.length) : chkS s (i : Int) = 0 ∧ readT s (i : Int) = l[i] := by
  have hl : s.bl.length = l.length := by rw [← hc, curS, appl_len]
  have h0 : chkS s (i : Int) = 0 := by
    unfold chkS
    rw [hd, if_neg (by simp), if_neg (by omega)]
  refine ⟨h0, ?_⟩
  rw [readT, h0, if_pos rfl, hc, show ((i : Int)).toNat = i by omega, List.getElem?_eq_getElem hi]
  rfl
set_option maxHeartbeats 1600000 in
theorem is_any {K D B : Nat} {v : Value} {s : DSt} {w : World} {l : List ByteArray} (hr : Rep w K D B v s) (hnow : l.length = 8) (hd : s.down = false) (hc : curS s = l) : Calls Try.prog 20 #[.pointer (some ⟨D, 0, none⟩), .agg (strs l)] w fun e w' => e = .returned (.bool true) ∧ Below w.heap.size w w' := by
  obtain ⟨a0, a1, a2, a3, a4, a5, a6, a7, rfl⟩ := eight hnow
  have HQ : Hid (∀ (i : Nat) (h : i < 8), chkS s (i : Int) = 0 ∧ readT s (i : Int) = [a0, a1, a2, a3, a4, a5, a6, a7][i]) := Lib.hid fun i h => cur_read hd hc (by simpa using h)
  rw [show strs [a0, a1, a2, a3, a4, a5, a6, a7] = #[.string a0, .string a1, .string a2, .string a3, .string a4, .string a5, .string a6, .string a7] from rfl]
  have hN : Blk (w.alloc (.cells #[.string a0, .string a1, .string a2, .string a3, .string a4, .string a5, .string a6, .string a7] 40)) w.heap.size 40 #[.string a0, .string a1, .string a2, .string a3, .string a4, .string a5, .string a6, .string a7] := Blk.new _ _ _
  have hB : Below w.heap.size w (w.alloc (.cells #[.string a0, .string a1, .string a2, .string a3, .string a4, .string a5, .string a6, .string a7] 40)) := (Below.refl _ _).alloc (Nat.le_refl _) _
  have hr1 := hr.below hB
  clear hr hd hc hnow
  go_enter Try.func20, Try.ntmps20
  go_wp2_with fail
  generalize w.alloc (.cells #[.string a0, .string a1, .string a2, .string a3, .string a4, .string a5, .string a6, .string a7] 40) = V at *
  have HR := Lib.hid hr1
  have HN := Lib.hid hN
  have HB := Lib.hid hB
  have c0 := hN.cell 0
  have c1 := hN.cell 1
  have c2 := hN.cell 2
  have c3 := hN.cell 3
  have c4 := hN.cell 4
  have c5 := hN.cell 5
  have c6 := hN.cell 6
  have c7 := hN.cell 7
  simp at c0 c1 c2 c3 c4 c5 c6 c7
  clear hr1 hN hB
  refine wp_loop_rounds 9 ?_
  rw [rounds_succ]
  go_wp2_with fail
  refine (read_eq HR.out (n := 0) (c := 0) (t := a0) (HQ.out 0 (by decide)).1 (HQ.out 0 (by decide)).2).mono ?_
  rintro e w2 ⟨rfl, rfl⟩
  go_wp2_with fail
  rw [rounds_succ]
  go_wp2_with fail
  refine (read_eq HR.out (n := 1) (c := 0) (t := a1) (HQ.out 1 (by decide)).1 (HQ.out 1 (by decide)).2).mono ?_
  rintro e w2 ⟨rfl, rfl⟩
  go_wp2_with fail
  rw [rounds_succ]
  go_wp2_with fail
  refine (read_eq HR.out (n := 2) (c := 0) (t := a2) (HQ.out 2 (by decide)).1 (HQ.out 2 (by decide)).2).mono ?_
  rintro e w2 ⟨rfl, rfl⟩
  go_wp2_with fail
  rw [rounds_succ]
  go_wp2_with fail
  refine (read_eq HR.out (n := 3) (c := 0) (t := a3) (HQ.out 3 (by decide)).1 (HQ.out 3 (by decide)).2).mono ?_
  rintro e w2 ⟨rfl, rfl⟩
  go_wp2_with fail
  rw [rounds_succ]
  go_wp2_with fail
  refine (read_eq HR.out (n := 4) (c := 0) (t := a4) (HQ.out 4 (by decide)).1 (HQ.out 4 (by decide)).2).mono ?_
  rintro e w2 ⟨rfl, rfl⟩
  go_wp2_with fail
  rw [rounds_succ]
  go_wp2_with fail
  refine (read_eq HR.out (n := 5) (c := 0) (t := a5) (HQ.out 5 (by decide)).1 (HQ.out 5 (by decide)).2).mono ?_
  rintro e w2 ⟨rfl, rfl⟩
  go_wp2_with fail
  rw [rounds_succ]
  go_wp2_with fail
  refine (read_eq HR.out (n := 6) (c := 0) (t := a6) (HQ.out 6 (by decide)).1 (HQ.out 6 (by decide)).2).mono ?_
  rintro e w2 ⟨rfl, rfl⟩
  go_wp2_with fail
  rw [rounds_succ]
  go_wp2_with fail
  refine (read_eq HR.out (n := 7) (c := 0) (t := a7) (HQ.out 7 (by decide)).1 (HQ.out 7 (by decide)).2).mono ?_
  rintro e w2 ⟨rfl, rfl⟩
  go_wp2_with fail
  rw [rounds_succ]
  go_wp2_with fail
  go_ret
  exact ⟨rfl, HB.out⟩
def adv (s : DSt) (W : List (Nat × ByteArray)) : DSt := { s with pe := s.pe ++ W }
theorem adv_write {s : DSt} (hd : s.down = false) (hb : s.bl.length = 8) (hs : s.steps = 0) {W : List (Nat × ByteArray)} (hp : s.pe.length + W.length < 4096) {q : Nat} (hq : q < 8) {t : ByteArray} (ht : t.size ≤ 64) : writeE (adv s W) (q : Int) t = 0 ∧ writeS (adv s W) (q : Int) t = adv s (W ++ [(q, t)]) := by
  have hc : chkS (adv s W) (q : Int) = 0 := by
    unfold chkS adv
    simp only
    rw [hd, if_neg (by simp), if_neg (by omega)]
  have hl : (adv s W).pe.length = s.pe.length + W.length := by simp [adv]
  have hs1 : (adv s W).steps = 0 := hs
  constructor
  · unfold writeE
    rw [if_neg (by simp [hc]), if_neg (by omega), if_neg (by omega), if_neg (by omega)]
  · unfold writeS
    rw [if_neg (by simp [hc]; omega), if_neg (by omega)]
    unfold pushS adv
    simp only [hs, List.append_assoc, Int.toNat_natCast]
theorem mp_take {L : List CR} {k : Nat} {x : CR} (h : L[k]? = some x) : (L.map mp).take (k + 1) = (L.map mp).take k ++ [mp x] := by
  rw [List.take_add_one, List.getElem?_map, h]
  rfl
def blank8 : List ByteArray := [⟨#[]⟩, ⟨#[]⟩, ⟨#[]⟩, ⟨#[]⟩, ⟨#[]⟩, ⟨#[]⟩, ⟨#[]⟩, ⟨#[]⟩]
structure WrI (w wr : World) (K D B : Nat) (v : Value) (s : DSt) (now : List ByteArray) (W : List (Nat × ByteArray)) (k : Nat) (v' : Value) : Prop where
  rep : Rep wr K D B v' (adv s (W.take k))
  kp : Kp (Own D B v) w wr
  own : ∀ i, v'.ownBlock = some i → v.ownBlock = some i ∨ w.heap.size + 2 ≤ i
  now : Blk wr w.heap.size 40 (strs (appl now (W.take k)))
  res : Blk wr (w.heap.size + 1) 40 (strs blank8)
set_option maxHeartbeats 3200000 in
theorem wloop_any {A : Option Addr} {n c : Nat} {L : List CR} {w : World} {now : List ByteArray} (hnow : now.length = 8) {K D B : Nat} {v : Value} {s : DSt} (hr : Rep w K D B v s) (hS : CRs w K A n L) (hn : n ≤ 60) (hL : ∀ r ∈ L, r.t.size ≤ 64) (hLn : ∀ r ∈ L, 0 ≤ r.n ∧ r.n < 256) (hd : s.down = false) (hb : s.bl.length = 8) (hs : s.steps = 0) (hp : s.pe.length + n ≤ 4096) : Calls Try.prog 19 #[.pointer (some ⟨D, 0, none⟩), .agg (strs now), .slice A n c] w fun e w' => e = .returned (.tuple #[.agg (strs (appl now (L.map mp))), .bool true]) ∧ ∃ v', Left w w' K D B v v' (adv s (L.map mp)) := by
  have hW : (L.map mp).length = n := by rw [List.length_map]; exact hS.1
  have H0 : Hid (∃ V, V = (w.alloc (.cells (strs now) 40)).alloc (.cells (strs blank8) 40) ∧ V.heap.size = w.heap.size + 2 ∧ WrI w V K D B v s now (L.map mp) 0 v ∧ CRs w K A n L) := by
    refine Lib.hid ⟨_, rfl, by simp, ⟨?_, ((Kp.refl _ _).alloc _).alloc _, fun i hi => .inl hi, (Blk.new w _ _).alloc _, ?_⟩, hS⟩
    · have h1 := (hr.below ((Below.refl _ _).alloc (Nat.le_refl _) (.cells (strs now) 40)))
      have h2 := h1.below ((Below.refl _ _).alloc (Nat.le_refl _) (.cells (strs blank8) 40))
      simpa [adv] using h2
    · have := Blk.new (w.alloc (.cells (strs now) 40)) 40 (strs blank8)
      simpa using this
  have HF : Hid (∀ wr k v', WrI w wr K D B v s now (L.map mp) k v' → ∀ i, Own D B v' i → i ≠ w.heap.size ∧ i ≠ w.heap.size + 1) := Lib.hid fun wr k v' h i ho => by
    have h1 := hr.lt (i := i)
    rcases ho with e | e | e
    · have := h1 (.inl e); omega
    · have := h1 (.inr (.inl e)); omega
    · rcases h.own i e with h2 | h2
      · have := h1 (.inr (.inr h2)); omega
      · omega
  have HS := Lib.hid hS
  have HL := Lib.hid hL
  have HLn := Lib.hid hLn
  have HD := Lib.hid hd
  have HBL := Lib.hid hb
  have HST := Lib.hid hs
  have HP := Lib.hid hp
  have HW := Lib.hid hW
  have HNW := Lib.hid hnow
  have HRW := Lib.hid hr
  have e0 : ∃ a0 a1 a2 a3 a4 a5 a6 a7, now = [a0, a1, a2, a3, a4, a5, a6, a7] := eight hnow
  obtain ⟨a0, a1, a2, a3, a4, a5, a6, a7, hnw⟩ := e0
  have hst : strs now = #[.string a0, .string a1, .string a2, .string a3, .string a4, .string a5, .string a6, .string a7] := by rw [hnw]; rfl
  have HST8 := Lib.hid hst
  rw [hst]
  clear hr hS hL hLn hd hb hs hp hW hnow hst hnw
  go_enter Try.func19, Try.ntmps19
  go_wp2_with fail
  obtain ⟨V, hV, hVs, hI, -⟩ := H0.out
  rw [HST8.out, show strs blank8 = #[.string ⟨#[]⟩, .string ⟨#[]⟩, .string ⟨#[]⟩, .string ⟨#[]⟩, .string ⟨#[]⟩, .string ⟨#[]⟩, .string ⟨#[]⟩, .string ⟨#[]⟩] from rfl] at hV
  rw [← hV]
  have HI := Lib.hid hI
  clear hI hV H0
  go_loopw [8] (fun i wr => ∃ k : Nat, k ≤ n ∧ i = .int .i64 (k : Int) ∧ ∃ v', WrI w wr K D B v s now (L.map mp) k v') (fun i _ => n - (intOf i).toNat)
  case atStart => exact ⟨0, by omega, rfl, v, HI.out⟩
  case round =>
    obtain ⟨k, hk, rfl, v', hI⟩ := hrel
    have HJ := Lib.hid hI
    clear hI HI
    have hKW : K ≤ w.heap.size := Nat.le_of_lt (Nat.lt_of_le_of_lt HRW.out.kd HRW.out.disk.lt)
    have HBK : Hid (∀ W, Kp (Own D B v) w W → Below K w W) := Lib.hid fun W h => h.below (fun i hi ho => by have := (HRW.out.lt ho).1; omega) hKW
    by_cases hlt : k < n
    · obtain ⟨ad, x, p, rfl, hx, hp, hpb, c0, c1⟩ := CRs.at (HS.out.below (HBK.out wr HJ.out.kp)) hlt
      have HX := Lib.hid hx
      have hxm := cr_mem hx
      obtain ⟨q, hq⟩ : ∃ q : Nat, q = (x.n % 8).toNat := ⟨_, rfl⟩
      have hx1 := HLn.out x hxm
      have hq1 : x.n % 8 = (q : Int) := by omega
      have hq2 : q < 8 := by omega
      have hq3 : x.n.tmod 8 = (q : Int) := by rw [Int.tmod_eq_emod_of_nonneg hx1.1]; exact hq1
      have hq4 : IntKind.i64.wrap (q : Int) = (q : Int) := IntWalk.i64_in _ (by omega)
      have hmp : mp x = (q, x.t) := by rw [hq]; rfl
      have HAW : Hid (writeE (adv s ((L.map mp).take k)) (q : Int) x.t = 0 ∧ writeS (adv s ((L.map mp).take k)) (q : Int) x.t = adv s ((L.map mp).take (k + 1))) := Lib.hid (by
        rw [mp_take HX.out, hmp]
        exact adv_write HD.out HBL.out HST.out (W := (L.map mp).take k) (by have := HP.out; simp; omega) hq2 (HL.out x hxm))
      have HRD : Hid (Rep wr.drew K D B v' (adv s ((L.map mp).take k))) := Lib.hid (HJ.out.rep.below (Below.refl _ _).drew)
      have HTZ := Lib.hid (HL.out x hxm)
      have hpl : p.block < wr.heap.size := by have := HJ.out.kp.size; omega
      have HPB := Lib.hid (And.intro hpb hp)
      obtain ⟨hx2, hx3⟩ := hx1
      clear hx hxm hq
      have HMP := Lib.hid hmp
      clear hmp
      go_wp2_with fail
      go_region_with (first | ((with_reducible refine (write_eq HRD.out (by have := HTZ.out; omega) HAW.out.1 HAW.out.2).mono ?_); rintro e w1 ⟨rfl, v2, hL⟩))
      all_goals
        have hK1 : Kp (Own D B v) w w1 := HJ.out.kp.then ((Kp.refl _ wr).drew.trans hL.kp) (fun i hi ho => by
          rcases ho with e | e | e
          · exact .inl e
          · exact .inr (.inl e)
          · rcases HJ.out.own i e with h2 | h2
            · exact .inr (.inr h2)
            · omega)
        have hsz : wr.heap.size ≤ w1.heap.size := hL.kp.size
        have hNo : ¬ Own D B v' w.heap.size := fun ho => (HF.out wr k v' HJ.out _ ho).1 rfl
        have hRo : ¬ Own D B v' (w.heap.size + 1) := fun ho => (HF.out wr k v' HJ.out _ ho).2 rfl
        have hN1 : Blk w1 w.heap.size 40 (strs (appl now ((L.map mp).take k))) := hL.kp.blk HJ.out.now.drew hNo
        have hR1 : Blk w1 (w.heap.size + 1) 40 (strs blank8) := hL.kp.blk HJ.out.res.drew hRo
        have hown : ∀ i, v2.ownBlock = some i → v.ownBlock = some i ∨ w.heap.size + 2 ≤ i := fun i hi => by
          rcases hL.own i hi with h1 | h1
          · exact HJ.out.own i h1
          · right
            have h2 : wr.drew.heap.size = wr.heap.size := rfl
            have h3 := HJ.out.res.lt
            omega
        have hb1 := (HBK.out wr HJ.out.kp)
        have hb2 := (HBK.out w1 hK1)
        have q0 : w1.cell? p = some (.int .u8 x.n) := by rw [hb2.cell HPB.out.1, ← hb1.cell HPB.out.1]; exact c0
        have q1 : w1.cell? ⟨p.block, p.off + 1, none⟩ = some (.string x.t) := by rw [hb2.cell (p := ⟨p.block, p.off + 1, none⟩) HPB.out.1, ← hb1.cell (p := ⟨p.block, p.off + 1, none⟩) HPB.out.1]; exact c1
        obtain ⟨y, hy⟩ : ∃ y, w1.cell? ⟨w.heap.size, q, none⟩ = some y := by
          rw [hN1.cell q, strs_get, List.getElem?_eq_getElem (by rw [appl_len, HNW.out]; exact hq2)]
          exact ⟨_, rfl⟩
        have hyf := hN1.frozen q
        have hNl := hN1.lt
        have HL2 := Lib.hid hL
        have HK1 := Lib.hid hK1
        have HN1 := Lib.hid hN1
        have HR1 := Lib.hid hR1
        have HOW := Lib.hid hown
        clear hL hK1 hN1 hR1 hown hb1 hb2 c0 c1 hNo hRo
        go_wp2_with fail
        go_simp
        go_region
        go_wp2
        go_round
        case rel =>
          have hnx : appl now ((L.map mp).take (k + 1)) = (appl now ((L.map mp).take k)).set q x.t := by
            rw [mp_take HX.out, appl_snoc, HMP.out]
          refine ⟨k + 1, by omega, by go_num, v2, ?_, ?_, HOW.out, ?_, ?_⟩
          · refine HL2.out.rep.kp (S := fun i => i = w.heap.size) ((Kp.refl (fun i => i = w.heap.size) w1).set (.inl rfl) _).drew (fun i ho e => ?_)
            have h1 := HRW.out.lt (i := i)
            rcases ho with e' | e' | e'
            · have := h1 (.inl e'); omega
            · have := h1 (.inr (.inl e')); omega
            · rcases HOW.out i e' with h2 | h2
              · have := h1 (.inr (.inr h2)); omega
              · omega
          · exact (HK1.out.set (.inr (Nat.le_refl _)) _).drew
          · rw [hnx, ← strs_set]
            exact (HN1.out.set_ q _).drew
          · exact (HR1.out.far (by dsimp only; omega) _).drew
        case measure => simp [intOf]; omega
    · obtain rfl : k = n := by omega
      have htk : (L.map mp).take k = L.map mp := List.take_of_length_le (Nat.le_of_eq HW.out)
      have hN := HJ.out.now
      have hR := HJ.out.res
      have hK := HJ.out.kp
      have hRp := HJ.out.rep
      rw [htk] at hN hRp
      obtain ⟨z0, z1, z2, z3, z4, z5, z6, z7, hz⟩ := eight (l := appl now (L.map mp)) (by rw [appl_len]; exact HNW.out)
      rw [hz] at hN
      have HZ := Lib.hid hz
      have hN' : Blk wr w.heap.size 40 #[.string z0, .string z1, .string z2, .string z3, .string z4, .string z5, .string z6, .string z7] := hN
      have hR' : Blk wr (w.heap.size + 1) 40 #[.string ⟨#[]⟩, .string ⟨#[]⟩, .string ⟨#[]⟩, .string ⟨#[]⟩, .string ⟨#[]⟩, .string ⟨#[]⟩, .string ⟨#[]⟩, .string ⟨#[]⟩] := hR
      have c0 := hN'.cell 0
      have c1 := hN'.cell 1
      have c2 := hN'.cell 2
      have c3 := hN'.cell 3
      have c4 := hN'.cell 4
      have c5 := hN'.cell 5
      have c6 := hN'.cell 6
      have c7 := hN'.cell 7
      have r0 := hR'.cell 0
      have r1 := hR'.cell 1
      have r2 := hR'.cell 2
      have r3 := hR'.cell 3
      have r4 := hR'.cell 4
      have r5 := hR'.cell 5
      have r6 := hR'.cell 6
      have r7 := hR'.cell 7
      have rf0 := hR'.frozen 0
      have rf1 := hR'.frozen 1
      have rf2 := hR'.frozen 2
      have rf3 := hR'.frozen 3
      have rf4 := hR'.frozen 4
      have rf5 := hR'.frozen 5
      have rf6 := hR'.frozen 6
      have rf7 := hR'.frozen 7
      simp at c0 r0 c1 r1 c2 r2 c3 r3 c4 r4 c5 r5 c6 r6 c7 r7
      have hl1 := hN.lt
      have hl2 := hR.lt
      have HK := Lib.hid hK
      have HRP := Lib.hid hRp
      have HR' := Lib.hid hR'
      clear hN hR hN' hR' hK hRp htk hz
      go_wp2
      have hRR := (((((((HR'.out.set_ 0 (.string z0)).set_ 1 (.string z1)).set_ 2 (.string z2)).set_ 3 (.string z3)).set_ 4 (.string z4)).set_ 5 (.string z5)).set_ 6 (.string z6)).set_ 7 (.string z7)
      refine world_of (fun W => Blk W (w.heap.size + 1) 40 #[.string z0, .string z1, .string z2, .string z3, .string z4, .string z5, .string z6, .string z7] ∧ Kp (fun i => i = w.heap.size + 1) wr W) ⟨hRR, (by (repeat (first | with_reducible exact Kp.refl _ _ | with_reducible refine Kp.set ?_ (.inl ?_) _)) <;> rfl)⟩ ?_
      rintro wz ⟨hRZ, hKK⟩
      clear hRR
      have s0 := hRZ.cell 0
      have s1 := hRZ.cell 1
      have s2 := hRZ.cell 2
      have s3 := hRZ.cell 3
      have s4 := hRZ.cell 4
      have s5 := hRZ.cell 5
      have s6 := hRZ.cell 6
      have s7 := hRZ.cell 7
      simp at s0 s1 s2 s3 s4 s5 s6 s7
      refine bodyPost_ret (v := .tuple #[.agg #[.string z0, .string z1, .string z2, .string z3, .string z4, .string z5, .string z6, .string z7], .bool true]) (by simp [results, Try.results19, go_sem, s0, s1, s2, s3, s4, s5, s6, s7]) rfl ⟨?_, v', ?_, ?_, ?_⟩
      · rw [HZ.out]
        rfl
      · exact HRP.out.kp hKK (fun i ho => (HF.out wr k v' HJ.out i ho).2)
      · exact HK.out.then hKK (fun i hi e => by omega)
      · intro i hi
        rcases HJ.out.own i hi with h | h
        · exact .inl h
        · right
          omega
end Go.Proofs.Ytkfiekpinojahaa
