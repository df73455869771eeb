/-
  OPENING a list of steps; few; a call of two nil disks.
-/
import Derived.Test.YtkfiekpinojahaaDR8
namespace Go.Proofs.Ytkfiekpinojahaa
open Go.Joins Go.ChangeShapes Go.WideShapes Go.RowKit Go.Deep
set_option linter.unusedVariables false
set_option linter.unusedSimpArgs false
theorem elem4 {H : Type} {enc : TypeId × Value → H} {P : Program} {w : World} {base : Nat} {spare : Nat → Bool} {held : Bool} {fuel : Nat} {t : TypeId} {f0 f1 f2 f3 : Field} {cs : List Value} {x : DataW H × List MemPlace} (hs : P.underlying t = some (.struct #[f0, f1, f2, f3])) (hone : oneCellFields P #[f0, f1, f2, f3] = true) (hl : cs.length = 4) (h : DataW.trod enc P w base spare held fuel t cs = some x) :
    ∃ (v0 v1 v2 v3 : Value) (y0 y1 y2 y3 : DataW H × List MemPlace) (n : Nat), cs = [v0, v1, v2, v3] ∧
      DataW.trod enc P w base spare held n f0.type [v0] = some y0 ∧ DataW.trod enc P w base spare held n f1.type [v1] = some y1 ∧ DataW.trod enc P w base spare held n f2.type [v2] = some y2 ∧ DataW.trod enc P w base spare held n f3.type [v3] = some y3 := by
  match cs, hl with
  | [c0, c1, c2, c3], _ =>
    obtain ⟨xs, n, _, hx, _, hlen, hg⟩ := DataW.trod_struct hs h
    obtain ⟨o0, k0⟩ := hone_of hone 0 f0 rfl
    obtain ⟨o1, k1⟩ := hone_of hone 1 f1 rfl
    obtain ⟨o2, k2⟩ := hone_of hone 2 f2 rfl
    obtain ⟨o3, k3⟩ := hone_of hone 3 f3 rfl
    match xs, hlen with
    | [y0, y1, y2, y3], _ =>
      exact ⟨c0, c1, c2, c3, y0, y1, y2, y3, n, rfl, by simpa [o0, k0] using hg 0 f0 rfl, by simpa [o1, k1] using hg 1 f1 rfl, by simpa [o2, k2] using hg 2 f2 rfl, by simpa [o3, k3] using hg 3 f3 rfl⟩
structure SR where
  c : Int
  n : Int
  t : ByteArray
  m : Int
/-- A slice holds these. -/
def SRs (w : World) (B : Nat) (A : Option Addr) (n : Nat) (L : List SR) : Prop :=
  L.length = n ∧ (0 < n → ∃ ad, A = some ad ∧ ad.block < B ∧ ∀ k r, L[k]? = some r → w.cell? (ad.add (k * 4)) = some (.int .u8 r.c) ∧ w.cell? ((ad.add (k * 4)).add 1) = some (.int .i64 r.n) ∧ w.cell? ((ad.add (k * 4)).add 2) = some (.string r.t) ∧ w.cell? ((ad.add (k * 4)).add 3) = some (.int .u64 r.m))
theorem SRs.keep {w w' : World} {B n : Nat} {A : Option Addr} {L : List SR} (h : SRs w B A n L) (hk : ∀ p : Addr, p.block < B → w'.cell? p = w.cell? p) : SRs w' B A n L :=
  ⟨h.1, fun hn => by
    obtain ⟨ad, e, hb, hc⟩ := h.2 hn
    refine ⟨ad, e, hb, fun k r hr => ?_⟩
    obtain ⟨c0, c1, c2, c3⟩ := hc k r hr
    refine ⟨?_, ?_, ?_, ?_⟩ <;> (rw [hk _ (by simp only [ad_block]; exact hb)]; assumption)⟩
theorem SRs.below {w w' : World} {B n : Nat} {A : Option Addr} {L : List SR} (h : SRs w B A n L) (hb : Below B w w') : SRs w' B A n L := h.keep fun _ hp => hb.cell hp
theorem SRs.at {w : World} {B n : Nat} {A : Option Addr} {L : List SR} (h : SRs w B A n L) {k : Nat} (hk : k < n) :
    ∃ ad r p, A = some ad ∧ L[k]? = some r ∧ ad.add (k * 4) = p ∧ p.block < B ∧ w.cell? p = some (.int .u8 r.c) ∧ w.cell? ⟨p.block, p.off + 1, none⟩ = some (.int .i64 r.n) ∧ w.cell? ⟨p.block, p.off + 2, none⟩ = some (.string r.t) ∧ w.cell? ⟨p.block, p.off + 3, none⟩ = some (.int .u64 r.m) := by
  obtain ⟨ad, e, hb, hc⟩ := h.2 (by omega)
  have hl : k < L.length := by have := h.1; omega
  obtain ⟨c0, c1, c2, c3⟩ := hc k L[k] (List.getElem?_eq_getElem hl)
  exact ⟨ad, L[k], _, e, List.getElem?_eq_getElem hl, rfl, by rw [ad_block]; exact hb, c0, c1, c2, c3⟩
theorem cells_SR : Try.prog.cellsOf 35 = 4 := by kernel_rfl
def okSR (r : SR) : Prop := (Lit.int .u8 r.c).wf = true ∧ (Lit.int .i64 r.n).wf = true ∧ r.t.size ≤ maxLen ∧ (Lit.int .u64 r.m).wf = true
set_option maxRecDepth 8000 in
theorem elem_SR {H : Type} {enc : TypeId × Value → H} {w : World} {base : Nat} {spare : Nat → Bool} {held : Bool} {fuel : Nat} {cs : List Value} {x : DataW H × List MemPlace} (hl : cs.length = 4) (h : DataW.trod enc Try.prog w base spare held fuel 35 cs = some x) :
    ∃ r : SR, cs = [.int .u8 r.c, .int .i64 r.n, .string r.t, .int .u64 r.m] ∧ okSR r := by
  obtain ⟨v0, v1, v2, v3, y0, y1, y2, y3, n, rfl, g0, g1, g2, g3⟩ := elem4 Try.underlying35 (by kernel_rfl) hl h
  obtain ⟨c', rfl, w0⟩ := one_int Try.underlying5 g0
  obtain ⟨n', rfl, w1⟩ := one_int Try.underlying3 g1
  obtain ⟨t', rfl, w2⟩ := one_string Try.underlying9 g2
  obtain ⟨m', rfl, w3⟩ := one_int Try.underlying33 g3
  exact ⟨⟨c', n', t', m'⟩, rfl, w0, w1, w2, w3⟩
set_option maxRecDepth 8000 in
theorem open_SR {H : Type} {enc : TypeId × Value → H} {w : World} {base : Nat} {spare : Nat → Bool} {held : Bool} {fuel : Nat} {u : Value} {x : DataW H × List MemPlace} (h : DataW.trod enc Try.prog w base spare held fuel 22 [u] = some x) :
    ∃ (A : Option Addr) (k c : Nat) (L : List SR), u = .slice A k c ∧ k ≤ maxLen ∧ k ≤ c ∧ SRs w w.heap.size A k L ∧ ∀ r ∈ L, okSR r := by
  rcases open_slice Try.underlying22 h with ⟨hcs, _⟩ | ⟨a, len, cap, m, n, D, Pl, hcs, hb, hl, hm, hmm, _, hi⟩
  · cases hcs
    exact ⟨none, 0, 0, [], rfl, Nat.zero_le _, Nat.le_refl _, ⟨rfl, fun h => absurd h (by omega)⟩, fun r hr => by cases hr⟩
  · cases hcs
    have each : ∀ i, ∃ r : SR, i < len → ((w.cell? (a.add (i * 4)) = some (.int .u8 r.c) ∧ w.cell? ((a.add (i * 4)).add 1) = some (.int .i64 r.n) ∧ w.cell? ((a.add (i * 4)).add 2) = some (.string r.t) ∧ w.cell? ((a.add (i * 4)).add 3) = some (.int .u64 r.m)) ∧ okSR r) := by
      intro i
      by_cases hlt : i < len
      · have him : i < m := by rw [hmm]; split <;> omega
        obtain ⟨cs, hc, ht⟩ := hi i him
        rw [cells_SR] at hc
        obtain ⟨_, hcl, hat⟩ := World.cells?_some hc
        obtain ⟨r, rfl, s1⟩ := elem_SR hcl ht
        exact ⟨r, fun _ => ⟨⟨by simpa [Addr.add] using hat 0 (by omega), hat 1 (by omega), hat 2 (by omega), hat 3 (by omega)⟩, s1⟩⟩
      · exact ⟨⟨0, 0, ⟨#[]⟩, 0⟩, fun h => absurd h hlt⟩
    obtain ⟨R, hR⟩ := Classical.axiomOfChoice each
    refine ⟨some a, len, cap, (List.range len).map R, rfl, by omega, hl, ⟨by simp, fun hn => ⟨a, rfl, ?_, fun k r hr => ?_⟩⟩, fun r hr => ?_⟩
    · have h0 := ((hR 0 hn).1).1
      rcases Nat.lt_or_ge a.block w.heap.size with hlt | hge
      · exact hlt
      · exfalso
        have : (a.add (0 * 4)).block = a.block := ad_block a _
        simp [World.cell?, this, Array.getElem?_eq_none hge] at h0
    · have hk : k < len := by
        have := (List.getElem?_eq_some_iff.1 hr).1
        simpa using this
      have : r = R k := by
        rw [List.getElem?_map, List.getElem?_range hk] at hr
        simpa using hr.symm
      subst this
      exact (hR k hk).1
    · obtain ⟨k, hk, rfl⟩ := List.mem_map.1 hr
      exact (hR k (List.mem_range.1 hk)).2
set_option maxRecDepth 8000 in
theorem open_SRT {H : Type} {enc : TypeId × Value → H} {w : World} {base : Nat} {spare : Nat → Bool} {held : Bool} {u : Value} {d : DataW H} {pl : List MemPlace} {rr : Reach} {b0 : Nat} (hv : Value.okWide Try.prog w rr b0 22 u) (h0 : DataW.Trod enc Try.prog w base spare held 22 u d pl) :
    ∃ (A : Option Addr) (k c : Nat) (L : List SR), u = .slice A k c ∧ k ≤ maxLen ∧ k ≤ c ∧ SRs w w.heap.size A k L ∧ ∀ r ∈ L, okSR r := by
  obtain ⟨A0, len, cap, rfl⟩ := okWide_slice Try.underlying22 hv
  obtain ⟨fuel, h⟩ := h0
  exact open_SR (u := .slice A0 len cap) (by simpa [Value.cells] using h)
def FwP (n : Nat) (L : List SR) (w : World) (e : Ending) (w' : World) : Prop := ∃ b, e = .returned (.bool b) ∧ (b = true → n ≤ 80 ∧ ∀ r ∈ L, r.t.size ≤ 200) ∧ w = w'
theorem few_any (A : Option Addr) (n c : Nat) (L : List SR) (w : World) (hS : SRs w w.heap.size A n L) (hn : n ≤ maxLen) : Calls Try.prog 7 #[.slice A n c] w fun e w' => FwP n L w e w' := by
  have HS := Lib.hid hS
  have HN := Lib.hid hn
  clear hS hn
  go_enter Try.func7, Try.ntmps7
  go_wp2
  go_loop [3] (fun i => ∃ k : Nat, k ≤ n ∧ k ≤ 80 ∧ i = .int .i64 (k : Int) ∧ ∀ j x, j < k → L[j]? = some x → x.t.size ≤ 200) (fun i => n - (intOf i).toNat)
  case atStart => exact ⟨0, Nat.zero_le _, by omega, rfl, fun j x hj => absurd hj (by omega)⟩
  case round =>
    obtain ⟨k, hk, hk60, rfl, hno⟩ := hrel
    have HK := Lib.hid (And.intro hk hk60)
    have HO := Lib.hid hno
    clear hno
    by_cases hlt : k < n
    · obtain ⟨ad, x, p, rfl, hx, hp, hpb, c0, c1, c2, c3⟩ := SRs.at HS.out hlt
      have HX := Lib.hid hx
      clear hx
      by_cases h60 : k < 80
      · have g1 : decide ((80 : Int) ≤ (k : Int)) = false := decide_eq_false (by omega)
        clear hk60
        by_cases hs : x.t.size ≤ 200
        · have g2 : decide ((200 : Int) < (x.t.size : Int)) = false := decide_eq_false (by omega)
          have HZ := Lib.hid hs
          have H60 := Lib.hid h60
          clear hs hk
          go_wp2
          go_round
          case rel =>
            refine ⟨k + 1, by omega, by have := H60.out; omega, by go_num, fun j y hj hy => ?_⟩
            rcases Nat.lt_or_ge j k with h | h
            · exact HO.out j y h hy
            · obtain rfl : j = k := by omega
              rw [HX.out] at hy
              cases hy
              exact HZ.out
          case measure => simp [intOf]; omega
        · have g2 : decide ((200 : Int) < (x.t.size : Int)) = true := decide_eq_true (by omega)
          clear hs h60 hk
          go_wp2
          go_ret
          exact ⟨false, rfl, (fun h => by cases h), rfl⟩
      · have g1 : decide ((80 : Int) ≤ (k : Int)) = true := decide_eq_true (by omega)
        clear h60 hk60 hk
        go_wp2
        go_ret
        exact ⟨false, rfl, (fun h => by cases h), rfl⟩
    · obtain rfl : k = n := by omega
      clear hk hk60
      go_wp2
      go_ret
      refine ⟨true, rfl, fun _ => ⟨HK.out.2, fun r hr => ?_⟩, rfl⟩
      obtain ⟨j, hj, rfl⟩ := List.getElem_of_mem hr
      exact HO.out j _ (by have := HS.out.1; omega) (List.getElem?_eq_getElem hj)
set_option maxRecDepth 5000 in
theorem playn0 (n : Int) (t : ByteArray) (m : Nat) (W : World) : Calls Try.prog 11 #[.pointer none, .pointer none, .agg #[.int .u8 0, .int .i64 n, .string t, .int .u64 (m : Int)]] W fun e W' => e = .returned (.bool true) ∧ Below W.heap.size W W' := by
  have hX : Blk (W.alloc (.cells #[.int .u8 0, .int .i64 n, .string t, .int .u64 (m : Int)] 35)) W.heap.size 35 #[.int .u8 0, .int .i64 n, .string t, .int .u64 (m : Int)] := Blk.new _ _ _
  have hB : Below W.heap.size W (W.alloc (.cells #[.int .u8 0, .int .i64 n, .string t, .int .u64 (m : Int)] 35)) := (Below.refl _ _).alloc (Nat.le_refl _) _
  go_enter Try.func11, Try.ntmps11
  go_wp2_with fail
  generalize W.alloc (.cells #[.int .u8 0, .int .i64 n, .string t, .int .u64 (m : Int)] 35) = V at *
  have HB := Lib.hid hB
  generalize hXX : W.heap.size = X at hX HB ⊢
  have HB : Hid (Below W.heap.size W V) := Lib.hid (by rw [hXX]; exact HB.out)
  clear hXX
  have e1 := hX.cell 1
  have e2 := hX.cell 2
  simp at e1 e2
  have xl := hX.lt
  clear hX hB
  have d1 : V.drew.cell? ⟨X, 1, none⟩ = some (.int .i64 n) := e1
  have d2 : V.drew.cell? ⟨X, 2, none⟩ = some (.string t) := e2
  go_region_held3 (fun W => W.cell? ⟨X, 1, none⟩ = some (.int .i64 n) ∧ W.cell? ⟨X, 2, none⟩ = some (.string t)) (exact ⟨by assumption, by assumption⟩) (first | (go_at_call 26; refine (nil_write _ _ _).mono ?_; rintro e w3 ⟨rfl, rfl⟩) | (go_at_call 27; refine (rnil_write _ _ _).mono ?_; rintro e w3 ⟨rfl, rfl⟩))
  go_wp2_with fail
  go_ret
  exact ⟨rfl, by repeat (first | with_reducible exact HB.out | with_reducible refine Below.drew ?_)⟩
set_option maxRecDepth 5000 in
theorem playn1 (n : Int) (t : ByteArray) (m : Nat) (W : World) : Calls Try.prog 11 #[.pointer none, .pointer none, .agg #[.int .u8 1, .int .i64 n, .string t, .int .u64 (m : Int)]] W fun e W' => e = .returned (.bool true) ∧ Below W.heap.size W W' := by
  have hX : Blk (W.alloc (.cells #[.int .u8 1, .int .i64 n, .string t, .int .u64 (m : Int)] 35)) W.heap.size 35 #[.int .u8 1, .int .i64 n, .string t, .int .u64 (m : Int)] := Blk.new _ _ _
  have hB : Below W.heap.size W (W.alloc (.cells #[.int .u8 1, .int .i64 n, .string t, .int .u64 (m : Int)] 35)) := (Below.refl _ _).alloc (Nat.le_refl _) _
  go_enter Try.func11, Try.ntmps11
  go_wp2_with fail
  generalize W.alloc (.cells #[.int .u8 1, .int .i64 n, .string t, .int .u64 (m : Int)] 35) = V at *
  have HB := Lib.hid hB
  generalize hXX : W.heap.size = X at hX HB ⊢
  have HB : Hid (Below W.heap.size W V) := Lib.hid (by rw [hXX]; exact HB.out)
  clear hXX
  have e1 := hX.cell 1
  simp at e1
  have xl := hX.lt
  clear hX hB
  go_wp2_with fail
  refine (nil_read _ _).mono ?_
  rintro e w3 ⟨rfl, rfl⟩
  go_wp2_with fail
  refine (rnil_read _ _).mono ?_
  rintro e w3 ⟨rfl, rfl⟩
  go_wp2_with fail
  go_ret
  exact ⟨rfl, HB.out⟩
set_option maxRecDepth 5000 in
theorem playn2 (n : Int) (t : ByteArray) (m : Nat) (W : World) : Calls Try.prog 11 #[.pointer none, .pointer none, .agg #[.int .u8 2, .int .i64 n, .string t, .int .u64 (m : Int)]] W fun e W' => e = .returned (.bool true) ∧ Below W.heap.size W W' := by
  have hX : Blk (W.alloc (.cells #[.int .u8 2, .int .i64 n, .string t, .int .u64 (m : Int)] 35)) W.heap.size 35 #[.int .u8 2, .int .i64 n, .string t, .int .u64 (m : Int)] := Blk.new _ _ _
  have hB : Below W.heap.size W (W.alloc (.cells #[.int .u8 2, .int .i64 n, .string t, .int .u64 (m : Int)] 35)) := (Below.refl _ _).alloc (Nat.le_refl _) _
  go_enter Try.func11, Try.ntmps11
  go_wp2_with fail
  generalize W.alloc (.cells #[.int .u8 2, .int .i64 n, .string t, .int .u64 (m : Int)] 35) = V at *
  have HB := Lib.hid hB
  generalize hXX : W.heap.size = X at hX HB ⊢
  have HB : Hid (Below W.heap.size W V) := Lib.hid (by rw [hXX]; exact HB.out)
  clear hXX
  have xl := hX.lt
  clear hX hB
  go_wp2_with fail
  refine (nil_flush _).mono ?_
  rintro e w3 ⟨rfl, rfl⟩
  go_wp2_with fail
  refine (rnil_flush _).mono ?_
  rintro e w3 ⟨rfl, rfl⟩
  go_wp2_with fail
  go_ret
  exact ⟨rfl, HB.out⟩
set_option maxRecDepth 5000 in
theorem playn3 (n : Int) (t : ByteArray) (m : Nat) (W : World) : Calls Try.prog 11 #[.pointer none, .pointer none, .agg #[.int .u8 3, .int .i64 n, .string t, .int .u64 (m : Int)]] W fun e W' => e = .returned (.bool true) ∧ Below W.heap.size W W' := by
  have hX : Blk (W.alloc (.cells #[.int .u8 3, .int .i64 n, .string t, .int .u64 (m : Int)] 35)) W.heap.size 35 #[.int .u8 3, .int .i64 n, .string t, .int .u64 (m : Int)] := Blk.new _ _ _
  have hB : Below W.heap.size W (W.alloc (.cells #[.int .u8 3, .int .i64 n, .string t, .int .u64 (m : Int)] 35)) := (Below.refl _ _).alloc (Nat.le_refl _) _
  go_enter Try.func11, Try.ntmps11
  go_wp2_with fail
  generalize W.alloc (.cells #[.int .u8 3, .int .i64 n, .string t, .int .u64 (m : Int)] 35) = V at *
  have HB := Lib.hid hB
  generalize hXX : W.heap.size = X at hX HB ⊢
  have HB : Hid (Below W.heap.size W V) := Lib.hid (by rw [hXX]; exact HB.out)
  clear hXX
  have e3 := hX.cell 3
  simp at e3
  have xl := hX.lt
  clear hX hB
  have d3 : V.drew.cell? ⟨X, 3, none⟩ = some (.int .u64 (m : Int)) := e3
  go_region_held3 (fun W => W.cell? ⟨X, 3, none⟩ = some (.int .u64 (m : Int))) (assumption) (first | (go_at_call 22; refine (nil_crash _ _).mono ?_; rintro e w3 ⟨rfl, rfl⟩) | (go_at_call 30; refine (rnil_crash _ _).mono ?_; rintro e w3 ⟨rfl, rfl⟩))
  go_wp2_with fail
  go_ret
  exact ⟨rfl, by repeat (first | with_reducible exact HB.out | with_reducible refine Below.drew ?_)⟩
set_option maxRecDepth 5000 in
theorem playn4 (n : Int) (t : ByteArray) (m : Nat) (W : World) : Calls Try.prog 11 #[.pointer none, .pointer none, .agg #[.int .u8 4, .int .i64 n, .string t, .int .u64 (m : Int)]] W fun e W' => e = .returned (.bool true) ∧ Below W.heap.size W W' := by
  have hX : Blk (W.alloc (.cells #[.int .u8 4, .int .i64 n, .string t, .int .u64 (m : Int)] 35)) W.heap.size 35 #[.int .u8 4, .int .i64 n, .string t, .int .u64 (m : Int)] := Blk.new _ _ _
  have hB : Below W.heap.size W (W.alloc (.cells #[.int .u8 4, .int .i64 n, .string t, .int .u64 (m : Int)] 35)) := (Below.refl _ _).alloc (Nat.le_refl _) _
  go_enter Try.func11, Try.ntmps11
  go_wp2_with fail
  generalize W.alloc (.cells #[.int .u8 4, .int .i64 n, .string t, .int .u64 (m : Int)] 35) = V at *
  have HB := Lib.hid hB
  generalize hXX : W.heap.size = X at hX HB ⊢
  have HB : Hid (Below W.heap.size W V) := Lib.hid (by rw [hXX]; exact HB.out)
  clear hXX
  have e1 := hX.cell 1
  have e3 := hX.cell 3
  simp at e1 e3
  have xl := hX.lt
  clear hX hB
  have d1 : V.drew.cell? ⟨X, 1, none⟩ = some (.int .i64 n) := e1
  have d3 : V.drew.cell? ⟨X, 3, none⟩ = some (.int .u64 (m : Int)) := e3
  go_region_held3 (fun W => W.cell? ⟨X, 1, none⟩ = some (.int .i64 n) ∧ W.cell? ⟨X, 3, none⟩ = some (.int .u64 (m : Int))) (exact ⟨by assumption, by assumption⟩) (first | (go_at_call 25; refine (nil_arm _ _ _).mono ?_; rintro e w3 ⟨rfl, rfl⟩) | (go_at_call 31; refine (rnil_arm _ _ _).mono ?_; rintro e w3 ⟨rfl, rfl⟩))
  go_wp2_with fail
  go_ret
  exact ⟨rfl, by repeat (first | with_reducible exact HB.out | with_reducible refine Below.drew ?_)⟩
set_option maxRecDepth 5000 in
theorem playn5 (c : Nat) (hc5 : 5 ≤ c) (hc : c < 256) (n : Int) (t : ByteArray) (m : Nat) (W : World) : Calls Try.prog 11 #[.pointer none, .pointer none, .agg #[.int .u8 (c : Int), .int .i64 n, .string t, .int .u64 (m : Int)]] W fun e W' => e = .returned (.bool true) ∧ Below W.heap.size W W' := by
  have hX : Blk (W.alloc (.cells #[.int .u8 (c : Int), .int .i64 n, .string t, .int .u64 (m : Int)] 35)) W.heap.size 35 #[.int .u8 (c : Int), .int .i64 n, .string t, .int .u64 (m : Int)] := Blk.new _ _ _
  have hB : Below W.heap.size W (W.alloc (.cells #[.int .u8 (c : Int), .int .i64 n, .string t, .int .u64 (m : Int)] 35)) := (Below.refl _ _).alloc (Nat.le_refl _) _
  have k0 : ((c : Int) == 0) = false := beq_false_of_ne (by omega)
  have k1 : ((c : Int) == 1) = false := beq_false_of_ne (by omega)
  have k2 : ((c : Int) == 2) = false := beq_false_of_ne (by omega)
  have k3 : ((c : Int) == 3) = false := beq_false_of_ne (by omega)
  have k4 : ((c : Int) == 4) = false := beq_false_of_ne (by omega)
  clear hc5 hc
  go_enter Try.func11, Try.ntmps11
  go_wp2_with fail
  generalize W.alloc (.cells #[.int .u8 (c : Int), .int .i64 n, .string t, .int .u64 (m : Int)] 35) = V at *
  have HB := Lib.hid hB
  generalize hXX : W.heap.size = X at hX HB ⊢
  have HB : Hid (Below W.heap.size W V) := Lib.hid (by rw [hXX]; exact HB.out)
  clear hXX
  have xl := hX.lt
  clear hX hB
  go_wp2_with fail
  refine (nil_recover _).mono ?_
  rintro e w3 ⟨rfl, rfl⟩
  go_wp2_with fail
  refine (rnil_recover _).mono ?_
  rintro e w3 ⟨rfl, rfl⟩
  go_wp2_with fail
  go_ret
  exact ⟨rfl, HB.out⟩
theorem playn_all (c : Nat) (hc : c < 256) (n : Int) (t : ByteArray) (m : Nat) (W : World) : Calls Try.prog 11 #[.pointer none, .pointer none, .agg #[.int .u8 (c : Int), .int .i64 n, .string t, .int .u64 (m : Int)]] W fun e W' => e = .returned (.bool true) ∧ Below W.heap.size W W' := by
  rcases (show c = 0 ∨ c = 1 ∨ c = 2 ∨ c = 3 ∨ c = 4 ∨ 5 ≤ c by omega) with rfl | rfl | rfl | rfl | rfl | h5
  · exact playn0 n t m W
  · exact playn1 n t m W
  · exact playn2 n t m W
  · exact playn3 n t m W
  · exact playn4 n t m W
  · exact playn5 c h5 hc n t m W
end Go.Proofs.Ytkfiekpinojahaa
