/-
  CONTRACTS of the hash total, the program's and the specification's: for every slice of short strings.
-/
import Derived.Test.YtfchpobjepdpgaaDoorSum1
import Derived.Laws.OwnMore
import Derived.Deep.AppendLies
import Derived.Deep.Draws
namespace Go.Proofs.YtfchpobjepdpgaaDoor
open Go.RowKit
set_option linter.unusedVariables false
theorem block_of_add (a : Addr) (n : Nat) : (a.add n).block = a.block := by unfold Addr.add; split <;> rfl
theorem add_of_add (a : Addr) (i j : Nat) : (a.add i).add j = a.add (i + j) := by
  unfold Addr.add
  by_cases hi : i = 0 <;> by_cases hj : j = 0 <;> simp [hi, hj, Nat.add_assoc]

def Reads (w : World) (B size : Nat) (A : Option Addr) (n : Nat) (xs : List Value) : Prop :=
  xs.length = n * size ∧ (0 < n → ∃ ad, A = some ad ∧ ad.block < B ∧ ∀ j u, xs[j]? = some u → w.cell? (ad.add j) = some u)

section
variable {w w' : World} {B B' size n : Nat} {A : Option Addr} {xs : List Value}
theorem Reads.none_ : Reads w B size A 0 [] := ⟨by simp, fun h => absurd h (by omega)⟩
theorem Reads.at_ {k : Nat} (h : Reads w B 1 A n xs) (hk : k < n) : ∃ ad u, A = some ad ∧ ad.block < B ∧ xs[k]? = some u ∧ w.cell? (ad.add k) = some u := by
  obtain ⟨ad, e, hb, hc⟩ := h.2 (by omega)
  have hl : k < xs.length := by have := h.1; omega
  exact ⟨ad, xs[k], e, hb, List.getElem?_eq_getElem hl, hc k _ (List.getElem?_eq_getElem hl)⟩
theorem Reads.keep (h : Reads w B size A n xs) (hk : ∀ p : Addr, p.block < B → w'.cell? p = w.cell? p) : Reads w' B size A n xs :=
  ⟨h.1, fun hn => by
    obtain ⟨ad, e, hb, hc⟩ := h.2 hn
    exact ⟨ad, e, hb, fun j u hu => (hk _ (by rw [block_of_add]; exact hb)).trans (hc j u hu)⟩⟩
theorem Reads.more (h : Reads w B size A n xs) (hB : B ≤ B') : Reads w B' size A n xs :=
  ⟨h.1, fun hn => by
    obtain ⟨ad, e, hb, hc⟩ := h.2 hn
    exact ⟨ad, e, by omega, hc⟩⟩
theorem Reads.below (h : Reads w B size A n xs) (hb : Below B w w') : Reads w' B size A n xs := h.keep fun _ hp => hb.cell hp
theorem Reads.drew (h : Reads w B size A n xs) : Reads w.drew B size A n xs := h
theorem Reads.drewN (h : Reads w B size A n xs) (k : Nat) : Reads (w.drewN k) B size A n xs := h
theorem Reads.alloc (h : Reads w B size A n xs) (hB : B ≤ w.heap.size) (o : Obj) : Reads (w.alloc o) B size A n xs := h.keep fun p hp => World.cell?_alloc_lt w o p (by omega)
theorem Reads.setCell (h : Reads w B size A n xs) {p : Addr} (hB : B ≤ p.block) (u : Value) : Reads (w.setCell p u) B size A n xs :=
  h.keep fun q hq => World.cell?_setCell_other w p q u (fun e => by subst e; omega)
theorem Reads.grown (h : Reads w B size A n xs) {row : Option Nat} (hg : w.grownBy w' row) (hB : B ≤ w.heap.size) (hr : ∀ g, row = some g → B ≤ g) : Reads w' B size A n xs :=
  h.keep fun p hp => World.cell?_of_block (hg.block p.block (by omega) (fun e => by have := hr _ e.symm; omega))
theorem Reads.cut (h : Reads w B size A n xs) {k cap : Nat} (hk : k ≤ n) (hc : n ≤ cap) :
    Reads w B size (if cap = k then A else A.map (·.add (k * size))) (n - k) (xs.drop (k * size)) := by
  refine ⟨by rw [List.length_drop, h.1, Nat.sub_mul], fun hn => ?_⟩
  obtain ⟨ad, rfl, hb, hcell⟩ := h.2 (by omega)
  rw [if_neg (by omega)]
  refine ⟨ad.add (k * size), rfl, by rw [block_of_add]; exact hb, fun j u hu => ?_⟩
  rw [add_of_add]
  exact hcell _ u (by rw [← hu, List.getElem?_drop])
theorem Reads.of_own {base : Nat} {e : TypeId} {c : Nat} (h : w.ownsRow base e size (.slice A n c) n xs) : Reads w w.heap.size size A n xs := by
  refine ⟨h.1, fun hn => ?_⟩
  obtain ⟨g, cap, hv, _, hlt⟩ := h.form hn
  have hA : A = some ⟨g, 0, none⟩ := by injection hv
  subst hA
  exact ⟨_, rfl, hlt, h.cells (g := g) rfl⟩
end

def digitB (c : Int) : Bool := decide (48 ≤ c ∧ c ≤ 57)
theorem digit_any (c : Int) (h0 : 0 ≤ c) (h1 : c ≤ 255) (w : World) :
    Calls Tryd.prog 26 #[.int .u8 c] w fun e w' => e = .returned (.bool (digitB c)) ∧ w = w' := by
  go_enter Tryd.func26, Tryd.ntmps26
  go_wp2
  all_goals go_ret
  all_goals exact ⟨ret_boolv (by unfold digitB; rw [Bool.eq_iff_iff]; simp; omega), rfl⟩
/-- What the bytes of a string denote, each byte that is no digit counting as 0. -/
def digN (b : Nat) : Nat := if 48 ≤ b ∧ b ≤ 57 then b - 48 else 0
def valAt (s : ByteArray) : Nat → Nat
  | 0 => 0
  | j + 1 => 10 * valAt s j + digN (s.data.toList.getD (s.size - 8 + j) 0).toNat
def valN (s : ByteArray) : Nat := valAt s (s.size - (s.size - 8))
theorem digN_le (b : Nat) : digN b ≤ 9 := by unfold digN; split <;> omega
theorem valAt_lt (s : ByteArray) : ∀ j, valAt s j < 10 ^ j
  | 0 => by simp [valAt]
  | j + 1 => by
    have := valAt_lt s j
    have := digN_le (s.data.toList.getD (s.size - 8 + j) 0).toNat
    rw [valAt, Nat.pow_succ]
    omega
theorem valN_lt (s : ByteArray) : valN s < 100000000 :=
  Nat.lt_of_lt_of_le (valAt_lt s _) (by rw [show (100000000 : Nat) = 10 ^ 8 from rfl]; exact Nat.pow_le_pow_right (by decide) (by omega))
theorem valAt_bd (s : ByteArray) (j : Nat) (h : j < 8) : valAt s j < 10000000 :=
  Nat.lt_of_lt_of_le (valAt_lt s _) (by rw [show (10000000 : Nat) = 10 ^ 7 from rfl]; exact Nat.pow_le_pow_right (by decide) (by omega))
theorem getD_at (s : ByteArray) (k : Nat) (h : k < s.size) : s.data.toList.getD k 0 = s[k] := by
  rw [List.getD_eq_getElem?_getD, List.getElem?_eq_getElem (by simpa using h)]; rfl
/-- The number read before the byte k. -/
def ValRel (s : ByteArray) (k : Nat) (n : Value) : Prop := ∃ j : Nat, k = s.size - 8 + j ∧ k ≤ s.size ∧ n = .int .i64 (valAt s j : Int)
theorem ValRel.start (s : ByteArray) : ValRel s (s.size - 8) (.int .i64 0) := ⟨0, rfl, by omega, rfl⟩
theorem ValRel.mk' (s : ByteArray) (k j : Nat) (h : k = s.size - 8 + j) (hk : k ≤ s.size) (x : Int) (hx : x = (valAt s j : Int)) : ValRel s k (.int .i64 x) := ⟨j, h, hk, by rw [hx]⟩
theorem valAt_step (s : ByteArray) (k j : Nat) (h : k = s.size - 8 + j) (hk : k < s.size) : valAt s (j + 1) = 10 * valAt s j + digN s[k].toNat := by
  subst h
  rw [valAt, getD_at s _ hk]
theorem valAt_end (s : ByteArray) (k j : Nat) (h : k = s.size - 8 + j) (h1 : k ≤ s.size) (hk : ¬ k < s.size) : (valAt s j : Int) = (valN s : Int) := by
  have : s.size - (s.size - 8) = j := by omega
  unfold valN
  rw [this]
theorem dig_in {c : Int} (h : digitB c = true) : 48 ≤ c ∧ c ≤ 57 := by unfold digitB at h; simpa using h
theorem val_no {a v b : Nat} (h : a = 10 * v + digN b) (hd : digitB (b : Int) = false) : (v : Int) * 10 = (a : Int) := by
  unfold digitB at hd
  unfold digN at h
  have : ¬ (48 ≤ b ∧ b ≤ 57) := by simp at hd; omega
  rw [if_neg this] at h
  omega
theorem val_yes {a v b : Nat} (h : a = 10 * v + digN b) (hd : digitB (b : Int) = true) : (v : Int) * 10 + ((b : Int) - 48) = (a : Int) := by
  have := dig_in hd
  unfold digN at h
  rw [if_pos (by omega)] at h
  omega
theorem value_any (s : ByteArray) (hs : s.size ≤ maxLen) (w : World) :
    Calls Tryd.prog 23 #[.string s] w fun e w' => e = .returned (.int .i64 (valN s : Int)) ∧ w = w' := by
  unfold maxLen at hs
  go_enter Tryd.func23, Tryd.ntmps23
  go_wp2_with fail
  all_goals
    go_loop [3, 4] (fun n i => ∃ k : Nat, ValRel s k n ∧ i = .int .i64 k) (fun _ i => s.size - (intOf i).toNat)
    case atStart => exact ⟨s.size - 8, ValRel.start s, val_eq (by omega)⟩
    case round =>
      obtain ⟨k, ⟨j, hkj, hk, rfl⟩, rfl⟩ := hrel
      have hkm : s.size - 8 ≤ k := by omega
      have HJ := Lib.hid hkj
      clear hkj
      by_cases hlt : k < s.size
      · have hb : s[k].toNat < 256 := s[k].toNat_lt
        have hv := valAt_bd s j (by have := HJ.out; omega)
        have HV := Lib.hid (valAt_step s k j HJ.out hlt)
        have HK := Lib.hid (ValRel.mk' s (k + 1) (j + 1) (by have := HJ.out; omega) hlt)
        generalize valAt s j = v at *
        cases hD : digitB ↑s[k].toNat
        · go_wp2_with (go_at_call 26; refine (digit_any _ (by omega) (by omega) _).mono ?_; rintro e w' ⟨rfl, rfl⟩)
          exact ⟨⟨k + 1, HK.out _ (val_no HV.out hD), y5 k⟩, by simp [intOf]; omega⟩
        · have hc := dig_in hD
          go_wp2_with (go_at_call 26; refine (digit_any _ (by omega) (by omega) _).mono ?_; rintro e w' ⟨rfl, rfl⟩)
          exact ⟨⟨k + 1, HK.out _ (val_yes HV.out hD), y5 k⟩, by simp [intOf]; omega⟩
      · have HE := Lib.hid (valAt_end s k j HJ.out hk hlt)
        go_wp2
        go_ret
        exact ⟨ret_val HE.out, rfl⟩
/-- A slice of strings as a list. -/
def Strs (w : World) (A : Option Addr) (n : Nat) (ss : List ByteArray) : Prop := Reads w w.heap.size 1 A n (ss.map Value.string)
theorem Strs.len {w : World} {A : Option Addr} {n : Nat} {ss : List ByteArray} (h : Strs w A n ss) : ss.length = n := by have := h.1; simpa using this
theorem Strs.at {w : World} {A : Option Addr} {n : Nat} {ss : List ByteArray} (h : Strs w A n ss) {k : Nat} (hk : k < n) :
    ∃ ad s, A = some ad ∧ ad.block < w.heap.size ∧ ss[k]? = some s ∧ w.cell? (ad.add k) = some (.string s) := by
  obtain ⟨ad, u, e, hb, hx, hc⟩ := h.at_ hk
  rw [List.getElem?_map] at hx
  obtain ⟨s, hs, rfl⟩ := Option.map_eq_some_iff.1 hx
  exact ⟨ad, s, e, hb, hs, hc⟩
theorem Strs.below {w w' : World} {A : Option Addr} {n : Nat} {ss : List ByteArray} (h : Strs w A n ss) (hb : Below w.heap.size w w') : Strs w' A n ss := (Reads.below h hb).more hb.size
/-- The total of the first strings. -/
def totL (l : List ByteArray) : Nat := l.foldl (fun sum s => (sum + valN s) % 100000000) 0
def totAt (ss : List ByteArray) (k : Nat) : Nat := totL (ss.take k)
theorem totL_snoc (l : List ByteArray) (s : ByteArray) : totL (l ++ [s]) = (totL l + valN s) % 100000000 := by simp [totL, List.foldl_append]
theorem totL_lt (l : List ByteArray) : totL l < 100000000 := by
  rcases List.eq_nil_or_concat l with rfl | ⟨m, s, rfl⟩
  · exact (by decide : (0 : Nat) < 100000000)
  · rw [List.concat_eq_append, totL_snoc]; exact Nat.mod_lt _ (by decide)
theorem totAt_succ {ss : List ByteArray} {k : Nat} {s : ByteArray} (h : ss[k]? = some s) : totAt ss (k + 1) = (totAt ss k + valN s) % 100000000 := by
  unfold totAt
  rw [List.take_add_one, h, Option.toList_some, totL_snoc]
theorem totAt_end {ss : List ByteArray} {n k : Nat} (hn : ss.length = n) (hk : ¬ k < n) : totAt ss k = totL ss := by
  unfold totAt
  rw [List.take_of_length_le (by omega)]
theorem total_any (A : Option Addr) (n c : Nat) (ss : List ByteArray) (w : World) (hS : Strs w A n ss) (hn : n ≤ maxLen) (hl : ∀ s ∈ ss, s.size ≤ maxLen) :
    Calls Tryd.prog 17 #[.slice A n c] w fun e w' => e = .returned (.int .i64 (totL ss : Int)) ∧ w = w' := by
  unfold maxLen at hn
  have HS := Lib.hid hS
  have HL := Lib.hid hl
  clear hS hl
  go_enter Tryd.func17, Tryd.ntmps17
  go_wp2_with fail
  go_loop [3, 8] (fun t i => ∃ k : Nat, k ≤ n ∧ i = .int .i64 k ∧ t = .int .i64 (totAt ss k : Int)) (fun _ i => n - (intOf i).toNat)
  case atStart => exact ⟨0, Nat.zero_le _, rfl, rfl⟩
  case round =>
    obtain ⟨k, hk, rfl, rfl⟩ := hrel
    have ht : totAt ss k < 100000000 := totL_lt _
    by_cases hlt : k < n
    · obtain ⟨ad, s, rfl, hb, hs, hc⟩ := HS.out.at hlt
      have hv := valN_lt s
      have hm : s ∈ ss := List.mem_of_getElem? hs
      have HT := Lib.hid (totAt_succ hs)
      have HZ := Lib.hid (HL.out s hm)
      clear hs hm
      go_wp2_with (go_at_call 23; refine (value_any _ HZ.out _).mono ?_; rintro e w' ⟨rfl, rfl⟩)
      exact ⟨⟨k + 1, by omega, y5 k, val_eq (by rw [HT.out]; rfl)⟩, by simp [intOf]; omega⟩
    · have HE := Lib.hid (totAt_end HS.out.len hlt)
      go_wp2
      go_ret
      exact ⟨ret_val (by rw [HE.out]), rfl⟩
theorem rtotal_any (A : Option Addr) (n c : Nat) (ss : List ByteArray) (w : World) (hS : Strs w A n ss) (hn : n ≤ maxLen) (hl : ∀ s ∈ ss, s.size ≤ maxLen) :
    Calls Tryd.prog 18 #[.slice A n c] w fun e w' => e = .returned (.int .i64 (totL ss : Int)) ∧ w = w' := by
  unfold maxLen at hn
  have HS := Lib.hid hS
  have HL := Lib.hid hl
  clear hS hl
  go_enter Tryd.func18, Tryd.ntmps18
  go_wp2_with fail
  go_loop [3, 4] (fun t i => ∃ k : Nat, k ≤ n ∧ i = .int .i64 k ∧ t = .int .i64 (totAt ss k : Int)) (fun _ i => n - (intOf i).toNat)
  case atStart => exact ⟨0, Nat.zero_le _, rfl, rfl⟩
  case round =>
    obtain ⟨k, hk, rfl, rfl⟩ := hrel
    have ht : totAt ss k < 100000000 := totL_lt _
    by_cases hlt : k < n
    · obtain ⟨ad, s, rfl, hb, hs, hc⟩ := HS.out.at hlt
      have hv := valN_lt s
      have hm : s ∈ ss := List.mem_of_getElem? hs
      have HT := Lib.hid (totAt_succ hs)
      have hz := HL.out s hm
      unfold maxLen at hz
      clear hs hm
      go_wp2_with fail
      all_goals
        go_loop [5, 6] (fun n i => ∃ k : Nat, ValRel s k n ∧ i = .int .i64 k) (fun _ i => s.size - (intOf i).toNat)
        case atStart => exact ⟨s.size - 8, ValRel.start s, val_eq (by omega)⟩
        case round =>
          obtain ⟨q, ⟨j, hkj, hk, rfl⟩, rfl⟩ := hrel
          have hkm : s.size - 8 ≤ q := by omega
          have HJ := Lib.hid hkj
          clear hkj
          by_cases hqt : q < s.size
          · have hb : s[q].toNat < 256 := s[q].toNat_lt
            have hv := valAt_bd s j (by have := HJ.out; omega)
            have HV := Lib.hid (valAt_step s q j HJ.out hqt)
            have HK := Lib.hid (ValRel.mk' s (q + 1) (j + 1) (by have := HJ.out; omega) hqt)
            generalize valAt s j = v at *
            by_cases hD : 48 ≤ s[q].toNat ∧ s[q].toNat ≤ 57
            · obtain ⟨hd1, hd2⟩ := hD
              have HD : Hid (digitB ↑s[q].toNat = true) := Lib.hid (by unfold digitB; simp; omega)
              go_wp2
              exact ⟨⟨q + 1, HK.out _ (by rw [← val_yes HV.out HD.out]; omega), y5 q⟩, by simp [intOf]; omega⟩
            · have HD : Hid (digitB ↑s[q].toNat = false) := Lib.hid (by unfold digitB; simp; omega)
              by_cases hd1 : 48 ≤ s[q].toNat
              · have hd2 : 57 < s[q].toNat := by omega
                clear hD
                go_wp2
                exact ⟨⟨q + 1, HK.out _ (by rw [← val_no HV.out HD.out]; omega), y5 q⟩, by simp [intOf]; omega⟩
              · clear hD
                have hd2 : s[q].toNat < 48 := by omega
                clear hd1
                go_wp2
                exact ⟨⟨q + 1, HK.out _ (by rw [← val_no HV.out HD.out]; omega), y5 q⟩, by simp [intOf]; omega⟩
          · have HE := Lib.hid (valAt_end s q j HJ.out hk hqt)
            have hv2 : valAt s j < 100000000 := by have h1 := HE.out; omega
            go_wp2
            exact ⟨⟨k + 1, by omega, y5 k, val_eq (by rw [HT.out, HE.out]; rfl)⟩, by simp [intOf]; omega⟩
    · have HE := Lib.hid (totAt_end HS.out.len hlt)
      go_wp2
      go_ret
      exact ⟨ret_val (by rw [HE.out]), rfl⟩
end Go.Proofs.YtfchpobjepdpgaaDoor
