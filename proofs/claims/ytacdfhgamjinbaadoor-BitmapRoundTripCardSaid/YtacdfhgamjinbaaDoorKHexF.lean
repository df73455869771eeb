/-
  CONTRACTS of the hexadecimal digits: strconv.FormatUint at base 16, the program's Hex and the specification's.
-/
import Derived.Test.YtacdfhgamjinbaaDoorKBase
import Derived.Laws.OwnMore
import Derived.Laws.Rows
import Derived.Laws.BytesArg
import Derived.Deep.Draws
import Derived.Lib.LaidTab
namespace Go.Proofs.YtacdfhgamjinbaaDoor
open Go.RowKit
set_option linter.unusedVariables false
def Blk (w : World) (g : Nat) (t : TypeId) (cs : Array Value) : Prop := w.heap[g]? = some (.cells cs t (0, 0))

section
variable {w w' : World} {g : Nat} {t : TypeId} {cs : Array Value}
theorem Blk.lt (h : Blk w g t cs) : g < w.heap.size := by
  rcases Nat.lt_or_ge g w.heap.size with hlt | hge
  · exact hlt
  · unfold Blk at h; rw [Array.getElem?_eq_none hge] at h; cases h
theorem Blk.cell (h : Blk w g t cs) (i : Nat) : w.cell? ⟨g, i, none⟩ = cs[i]? := cell_of_row w g i cs t (0, 0) h
theorem Blk.frozen (h : Blk w g t cs) (i : Nat) : w.frozen? ⟨g, i, none⟩ = false := by
  unfold Blk at h
  simp [World.frozen?, h]
theorem Blk.new (w : World) (t : TypeId) (cs : Array Value) : Blk (w.alloc (.cells cs t)) w.heap.size t cs := heap_alloc_new w _
theorem Blk.drew (h : Blk w g t cs) : Blk w.drew g t cs := h
theorem Blk.drewN (h : Blk w g t cs) (n : Nat) : Blk (w.drewN n) g t cs := h
theorem Blk.alloc (h : Blk w g t cs) (o : Obj) : Blk (w.alloc o) g t cs := (Below.heap_alloc w o g h.lt).trans h
theorem Blk.set_ (h : Blk w g t cs) (i : Nat) (u : Value) : Blk (w.setCell ⟨g, i, none⟩ u) g t (cs.setIfInBounds i u) := by
  unfold Blk at h ⊢
  simp [World.setCell, Array.getElem?_modify, h]
theorem Blk.far (h : Blk w g t cs) {p : Addr} (hp : g ≠ p.block) (u : Value) : Blk (w.setCell p u) g t cs := (Below.heap_setCell w p u g hp).trans h
theorem Blk.below {B : Nat} (h : Blk w g t cs) (hb : Below B w w') (hg : g < B) : Blk w' g t cs := (hb.block g hg).trans h
theorem Blk.grown {row : Option Nat} (h : Blk w g t cs) (hb : w.grownBy w' row) (hg : some g ≠ row) : Blk w' g t cs := (hb.block g h.lt hg).trans h
theorem Blk.ne_ {g' : Nat} {t' : TypeId} {cs' : Array Value} (h : Blk w g t cs) (h' : Blk w g' t' cs') (hne : t ≠ t') : g ≠ g' := by
  rintro rfl
  unfold Blk at h h'
  rw [h] at h'
  injection h' with h'
  injection h' with _ ht
  exact hne ht
theorem own_blk_ne {base : Nat} {e : TypeId} {size n : Nat} {v : Value} {xs : List Value} (h : w.ownsRow base e size v n xs) (hg : Blk w g t cs) (hne : e ≠ t) : v.ownBlock ≠ some g := by
  rcases h.2 with ⟨rfl, _⟩ | ⟨g', cap, cur, rfl, _, hh, _⟩
  · simp [Value.ownBlock]
  · intro he
    have : g' = g := by simpa [Value.ownBlock] using he
    subst this
    exact Blk.ne_ (t := e) hh hg hne rfl
end

/-- A hexadecimal digit. -/
def hdI (d : Nat) : Int := if d < 10 then 48 + d else 87 + d
/-- The last d hexadecimal digits of n. -/
def hexI (n : Nat) : Nat → List Int
  | 0 => []
  | d + 1 => hdI (n / 16 ^ d % 16) :: hexI n d
def hexS (n d : Nat) : ByteArray := strOfNums (hexI n d)
theorem hexI_len (n : Nat) : ∀ d, (hexI n d).length = d
  | 0 => rfl
  | d + 1 => by rw [hexI, List.length_cons, hexI_len n d]
theorem hexS_size (n d : Nat) : (hexS n d).size = d := by unfold hexS; rw [strOfNums_size, hexI_len]
theorem hexI_get (n : Nat) : ∀ (d i : Nat), i < d → (hexI n d).getD i 0 = hdI (n / 16 ^ (d - 1 - i) % 16)
  | 0, i, h => absurd h (by omega)
  | d + 1, 0, _ => by simp [hexI]
  | d + 1, i + 1, h => by
    have := hexI_get n d i (by omega)
    rw [hexI, List.getD_cons_succ, this, show d + 1 - 1 - (i + 1) = d - 1 - i by omega]
theorem hd_at : ∀ k : Nat, k < 16 → (([48, 49, 50, 51, 52, 53, 54, 55, 56, 57, 97, 98, 99, 100, 101, 102, 103, 104, 105, 106, 107, 108, 109, 110, 111, 112, 113, 114, 115, 116, 117, 118, 119, 120, 121, 122] : List UInt8).getD k 0).toNat = (hdI k : Int) := by decide
/-- The cell of the table that the count of the zeros of 16 reads. -/
def Tab (w : World) : Prop := 4 < w.heap.size ∧ w.cell? ⟨4, 15, none⟩ = some (.int .u8 4)
theorem Tab.below {w w' : World} {B : Nat} (h : Tab w) (hb : Below B w w') (hB : 4 < B) : Tab w' := ⟨Nat.lt_of_lt_of_le h.1 hb.size, (hb.cell (p := ⟨4, 15, none⟩) hB).trans h.2⟩
theorem tz_any (w : World) (hT : Tab w) :
    Calls Tryd.prog 64 #[.int .u64 16] w fun e w' => e = .returned (.int .i64 4) ∧ w = w' := by
  obtain ⟨hT1, hT2⟩ := hT
  go_enter Tryd.func64, Tryd.ntmps64
  have e1 : bits BinOp.and IntKind.u64 16 (IntKind.u64.wrap (-16)) = 16 := by decide +kernel
  have e2 : IntKind.u64.wrap (16 * 285870213051353865) = 4573923408821661840 := by decide +kernel
  go_wp2
  all_goals go_ret
  all_goals exact ⟨rfl, rfl⟩
theorem HexQ.big {U m j : Nat} (hU : U < 16 ^ m) (hm : m = 1 ∨ 16 ^ (m - 1) ≤ U) (hj : j + 1 < m) (h16 : m ≤ 16) : 16 ≤ U / 16 ^ j ∧ U / 16 ^ j < 18446744073709551616 := by
  have h2 : 16 ^ (m - 1) ≤ U := by rcases hm with h | h <;> omega
  constructor
  · rw [Nat.le_div_iff_mul_le (Nat.pow_pos (by decide)), ← Nat.pow_succ']
    exact Nat.le_trans (Nat.pow_le_pow_right (by decide) (by omega)) h2
  · refine Nat.lt_of_le_of_lt (Nat.div_le_self _ _) (Nat.lt_of_lt_of_le hU ?_)
    rw [show (18446744073709551616 : Nat) = 16 ^ 16 from rfl]
    exact Nat.pow_le_pow_right (by decide) h16
theorem HexQ.small {U m j : Nat} (hU : U < 16 ^ m) (hj : j + 1 ≤ m) (hj2 : ¬ j + 1 < m) : U / 16 ^ j < 16 := by
  obtain rfl : j + 1 = m := by omega
  rw [Nat.div_lt_iff_lt_mul (Nat.pow_pos (by decide)), ← Nat.pow_succ']
  exact hU
theorem and15 (q : Nat) (h : q < 18446744073709551616) : bits BinOp.and IntKind.u64 (q : Int) 15 = ((q % 16 : Nat) : Int) := by
  have := u64_and_nat q 15 h (by omega)
  rw [nat_mask4] at this
  exact this
theorem slice65 (w : World) (g p : Nat) (h1 : 1 ≤ p) (h2 : p ≤ 65) :
    (Instr.sliceAt 79 (.pointer (some ⟨g, 0, none⟩)) (some (.int .i64 ((p : Int) - 1))) none none).run Tryd.prog w = .ok (.slice (some ⟨g, p - 1, none⟩) (66 - p) (66 - p)) w := by
  have e1 : Tryd.prog.arrayLen 79 = 65 := by kernel_rfl
  have e2 : (sizeOf (Tryd.prog.elem 79)).run Tryd.prog w = .ok 1 w := by kernel_rfl
  rw [run_sliceAt_array_l w 79 ⟨g, 0, none⟩ (by kernel_rfl) .i64 ((p : Int) - 1) (by omega) (by rw [e1]; omega), e1, e2]
  have e3 : ((p : Int) - 1).toNat = p - 1 := by omega
  have e4 : ¬ 65 = p - 1 := by omega
  have e5 : 65 - (p - 1) = 66 - p := by omega
  simp only [Result.andThen_ok, slicedAt, e3, if_neg e4, e5, Nat.mul_one]
  congr 3
  unfold Addr.add
  split <;> simp_all
theorem hd_get (r : Nat) (h : r < 16) (h2 : r < (⟨#[48, 49, 50, 51, 52, 53, 54, 55, 56, 57, 97, 98, 99, 100, 101, 102, 103, 104, 105, 106, 107, 108, 109, 110, 111, 112, 113, 114, 115, 116, 117, 118, 119, 120, 121, 122]⟩ : ByteArray).size) :
    ((⟨#[48, 49, 50, 51, 52, 53, 54, 55, 56, 57, 97, 98, 99, 100, 101, 102, 103, 104, 105, 106, 107, 108, 109, 110, 111, 112, 113, 114, 115, 116, 117, 118, 119, 120, 121, 122]⟩ : ByteArray)[r].toNat : Int) = hdI r := by
  rw [← hd_at r h, List.getD_eq_getElem?_getD, List.getElem?_eq_getElem (show r < 36 by omega)]
  rfl
theorem HexDiv {U j q : Nat} (h : q = U / 16 ^ j) : (q : Int) / 16 = ((U / 16 ^ (j + 1) : Nat) : Int) := by
  rw [Nat.pow_succ, ← Nat.div_div_eq_div_mul, ← h]
  rfl
theorem HexRound {U m j p : Nat} {w wr : World} {cs : Array Value} {x : Int} (hpj : p + j = 65) (hj : j + 1 ≤ m) (h16 : m ≤ 16) (hB : Blk wr w.heap.size 79 cs) (hcs : cs.size = 65)
    (hD : ∀ t, t < j → cs[64 - t]? = some (.int .u8 (hdI (U / 16 ^ t % 16)))) (hb : Below w.heap.size w wr) (hx : x = hdI (U / 16 ^ j % 16)) :
    Blk (wr.setCell ⟨w.heap.size, p - 1, none⟩ (.int .u8 x)) w.heap.size 79 (cs.setIfInBounds (p - 1) (.int .u8 x)) ∧ (cs.setIfInBounds (p - 1) (.int .u8 x)).size = 65 ∧
      (∀ t, t < j + 1 → (cs.setIfInBounds (p - 1) (.int .u8 x))[64 - t]? = some (.int .u8 (hdI (U / 16 ^ t % 16)))) ∧ Below w.heap.size w (wr.setCell ⟨w.heap.size, p - 1, none⟩ (.int .u8 x)) := by
  refine ⟨hB.set_ _ _, by simpa using hcs, fun t ht => ?_, hb.setCell (Nat.le_refl _) _⟩
  rw [Array.getElem?_setIfInBounds]
  by_cases e : t = j
  · subst e
    rw [if_pos (by omega), if_pos (by omega), hx]
  · rw [if_neg (by omega)]
    exact hD t (by omega)
theorem hex_cells {U m j p g : Nat} {w : World} {cs : Array Value} (hpj : p + j = 65) (hp1 : 1 ≤ p) (hm : m = j + 1) (hB : Blk w g 79 cs)
    (hD : ∀ t, t < j + 1 → cs[64 - t]? = some (.int .u8 (hdI (U / 16 ^ t % 16)))) : ∀ i, i < 66 - p → w.cell? ⟨g, p - 1 + i, none⟩ = some (.int .u8 ((hexI U m).getD i 0)) := by
  intro i hi
  rw [hB.cell, hexI_get U m i (by omega), show p - 1 + i = 64 - (m - 1 - i) by omega]
  exact hD _ (by omega)
theorem pow_any (w : World) :
    Calls Tryd.prog 63 #[.int .i64 16] w fun e w' => e = .returned (.bool true) ∧ w = w' := by
  have e1 : bits BinOp.and IntKind.i64 16 15 = 0 := by decide +kernel
  go_enter Tryd.func63, Tryd.ntmps63
  go_wp2
  all_goals go_ret
  all_goals exact ⟨rfl, rfl⟩
theorem fmtBits_any (U m : Nat) (hU : U < 16 ^ m) (h1 : 1 ≤ m) (h16 : m ≤ 16) (hm : m = 1 ∨ 16 ^ (m - 1) ≤ U) (w : World) (hT : Tab w) :
    Calls Tryd.prog 57 #[.slice none 0 0, .int .u64 (U : Int), .int .i64 16, .bool false, .bool false] w fun e w' => e = .returned (.tuple #[.slice none 0 0, .string (hexS U m)]) ∧ Below w.heap.size w w' := by
  have HU := Lib.hid hU
  have HM := Lib.hid hm
  clear hU hm
  have HT := Lib.hid hT
  obtain ⟨hT1, hT2⟩ := hT
  have hz : ∀ w : World, (zeroValue 79).run Tryd.prog w = .ok (.agg (Array.replicate 65 (.int .u8 0))) w := fun _ => by kernel_rfl
  have HZ : Hid ((Array.replicate 65 (Value.int .u8 0)).size = 65) := Lib.hid rfl
  generalize Array.replicate 65 (Value.int .u8 0) = zs at *
  go_enter Tryd.func57, Tryd.ntmps57
  go_wp2_with (first | (go_at_call 63; refine (pow_any _).mono ?_; rintro e w1 ⟨rfl, rfl⟩) | (go_at_call 64; refine (tz_any _ (HT.out.below ((Below.refl _ _).alloc (Nat.le_refl _) _) hT1)).mono ?_; rintro e w1 ⟨rfl, rfl⟩))
  clear hz
  go_loopw [1, 13] (fun u i wr => ∃ (p j : Nat) (cs : Array Value), p + j = 65 ∧ j + 1 ≤ m ∧ i = .int .i64 (p : Int) ∧ u = .int .u64 ((U / 16 ^ j : Nat) : Int) ∧ Blk wr w.heap.size 79 cs ∧ cs.size = 65 ∧ (∀ t, t < j → cs[64 - t]? = some (.int .u8 (hdI (U / 16 ^ t % 16)))) ∧ Below w.heap.size w wr) (fun _ i _ => (intOf i).toNat)
  case atStart => exact ⟨65, 0, zs, rfl, h1, rfl, by simp, Blk.new _ _ _, HZ.out, fun t ht => absurd ht (by omega), (Below.refl _ _).alloc (Nat.le_refl _) _⟩
  case round =>
    obtain ⟨p, j, cs, hpj, hjm, rfl, rfl, hB, hcs, hD, hb⟩ := hrel
    have hp : 50 ≤ p ∧ p ≤ 65 := by omega
    obtain ⟨hp1, hp2⟩ := hp
    have hF := hB.frozen (p - 1)
    have hC := hB.cell (p - 1)
    obtain ⟨v0, hv0⟩ : ∃ v0, cs[p - 1]? = some v0 := ⟨_, Array.getElem?_eq_getElem (by omega)⟩
    rw [hv0] at hC
    clear hv0
    have HPJ := Lib.hid hpj
    have HCS := Lib.hid hcs
    have HD := Lib.hid hD
    have hz2 := hb.size
    clear hpj hcs hD
    by_cases hlt : j + 1 < m
    · have hq := HexQ.big HU.out HM.out hlt h16
      obtain ⟨q, hqq⟩ : ∃ q, q = U / 16 ^ j := ⟨_, rfl⟩
      have HQ := Lib.hid hqq
      rw [← hqq] at hq ⊢
      clear hqq
      obtain ⟨hq1, hq2⟩ := hq
      have hA := and15 q hq2
      obtain ⟨r, hr⟩ : ∃ r, q % 16 = r := ⟨_, rfl⟩
      have hr16 : r < 16 := by omega
      rw [hr] at hA
      have HR := Lib.hid hr
      clear hr
      go_wp2
      have R := HexRound HPJ.out hjm h16 hB HCS.out HD.out hb ((hd_get r hr16 (show r < 36 by omega)).trans (by rw [← HR.out, HQ.out]))
      exact ⟨⟨p - 1, j + 1, _, by have := HPJ.out; omega, hlt, val_eq (by omega), val_eq (HexDiv HQ.out), R⟩, by simp [intOf]; omega⟩
    · have hq := HexQ.small HU.out hjm hlt
      obtain ⟨q, hqq⟩ : ∃ q, q = U / 16 ^ j := ⟨_, rfl⟩
      have HQ := Lib.hid hqq
      rw [← hqq] at hq ⊢
      clear hqq
      have hsl := fun w' => slice65 w' w.heap.size p (by omega) hp2
      have hx : (((⟨#[48, 49, 50, 51, 52, 53, 54, 55, 56, 57, 97, 98, 99, 100, 101, 102, 103, 104, 105, 106, 107, 108, 109, 110, 111, 112, 113, 114, 115, 116, 117, 118, 119, 120, 121, 122]⟩ : ByteArray)[q]'(show q < 36 by omega)).toNat : Int) = hdI (U / 16 ^ j % 16) := (hd_get q hq (show q < 36 by omega)).trans (by rw [← HQ.out, Nat.mod_eq_of_lt hq])
      have R := HexRound HPJ.out hjm h16 hB HCS.out HD.out hb hx
      have hm : m = j + 1 := by omega
      have hcv := run_convert_bytes_arg (P := Tryd.prog) _ 62 5 Tryd.underlying62 Tryd.underlying5 w.heap.size (p - 1) (66 - p) (66 - p) (hexI U m) (by rw [hexI_len]; have := HPJ.out; omega) (hex_cells HPJ.out (by omega) hm R.1 R.2.2.1) 9 Tryd.underlying9
      have HR := Lib.hid R.2.2.2
      clear R hx hm hB
      go_wp2
      go_ret2
      exact ⟨rfl, HR.out⟩
theorem fmtInner_any (U m : Nat) (hU : U < 16 ^ m) (h1 : 1 ≤ m) (h16 : m ≤ 16) (hm : m = 1 ∨ 16 ^ (m - 1) ≤ U) (w : World) (hT : Tab w) :
    Calls Tryd.prog 47 #[.int .u64 (U : Int), .int .i64 16] w fun e w' => e = .returned (.string (hexS U m)) ∧ Below w.heap.size w w' := by
  have HC := Lib.hid (fmtBits_any U m hU h1 h16 hm w hT)
  clear hU hm hT
  go_enter Tryd.func47, Tryd.ntmps47
  go_wp2_with (go_at_call 57; refine HC.out.mono ?_; rintro e w1 ⟨rfl, hb⟩)
  go_ret
  exact ⟨rfl, by assumption⟩
theorem fmt_any (U m : Nat) (hU : U < 16 ^ m) (h1 : 1 ≤ m) (h16 : m ≤ 16) (hm : m = 1 ∨ 16 ^ (m - 1) ≤ U) (w : World) (hT : Tab w) :
    Calls Tryd.prog 43 #[.int .u64 (U : Int), .int .i64 16] w fun e w' => e = .returned (.string (hexS U m)) ∧ Below w.heap.size w w' := by
  have HC := Lib.hid (fmtInner_any U m hU h1 h16 hm w hT)
  clear hU hm hT
  go_enter Tryd.func43, Tryd.ntmps43
  go_wp2_with (go_at_call 47; refine HC.out.mono ?_; rintro e w1 ⟨rfl, hb⟩)
  go_ret
  exact ⟨rfl, by assumption⟩
/-- How many hexadecimal digits a number has. -/
theorem hex_digits : ∀ (k U : Nat), U < 16 ^ (k + 1) → ∃ m, U < 16 ^ m ∧ 1 ≤ m ∧ m ≤ k + 1 ∧ (m = 1 ∨ 16 ^ (m - 1) ≤ U)
  | 0, U, h => ⟨1, h, Nat.le_refl _, Nat.le_refl _, .inl rfl⟩
  | k + 1, U, h => by
    by_cases hk : U < 16 ^ (k + 1)
    · obtain ⟨m, a, b, c, d⟩ := hex_digits k U hk
      exact ⟨m, a, b, by omega, d⟩
    · exact ⟨k + 2, h, by omega, Nat.le_refl _, .inr (by simpa using hk)⟩
theorem hexS_pad {U m d : Nat} (hU : U < 16 ^ m) (hd : m ≤ d) : (⟨#[48]⟩ : ByteArray) ++ hexS U d = hexS U (d + 1) := by
  have e : U / 16 ^ d = 0 := Nat.div_eq_of_lt (Nat.lt_of_lt_of_le hU (Nat.pow_le_pow_right (by decide) hd))
  unfold hexS
  rw [hexI, e]
  apply ByteArray.ext
  simp [strOfNums, hdI]
theorem hex_any (U : Nat) (hU : U < 18446744073709551616) (w : World) (hT : Tab w) :
    Calls Tryd.prog 38 #[.int .u64 (U : Int)] w fun e w' => e = .returned (.string (hexS U 16)) ∧ Below w.heap.size w w' := by
  obtain ⟨m, a, h1, h16, d⟩ := hex_digits 15 U hU
  have HC := Lib.hid (fmt_any U m a h1 h16 d w hT)
  have HP := Lib.hid (fun d (hd : m ≤ d) => hexS_pad (d := d) a hd)
  clear a d hT
  go_enter Tryd.func38, Tryd.ntmps38
  go_wp2_with (first | (go_at_call 43; refine HC.out.mono ?_; rintro e w1 ⟨rfl, hb⟩) | fail)
  go_loop [3] (fun s => ∃ d : Nat, m ≤ d ∧ d ≤ 16 ∧ s = .string (hexS U d)) (fun s => match s with | .string x => 16 - x.size | _ => 0)
  case atStart => exact ⟨m, Nat.le_refl _, h16, rfl⟩
  case round =>
    obtain ⟨d, hd, hd2, rfl⟩ := hrel
    have hz := hexS_size U d
    by_cases hlt : d < 16
    · have HS := Lib.hid (HP.out d hd)
      have HZ := Lib.hid (hexS_size U (d + 1))
      go_wp2
      refine ⟨⟨d + 1, by omega, by omega, by rw [HS.out]⟩, ?_⟩
      rw [HS.out]
      simp only [hz, HZ.out]
      omega
    · obtain rfl : d = 16 := by omega
      go_wp2
      go_ret
      exact ⟨rfl, by assumption⟩
end Go.Proofs.YtacdfhgamjinbaaDoor
