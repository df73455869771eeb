/-
  MATHEMATICS of bitmaps: the count of the bits of a word.
-/
import Derived.Test.YtacdfhgamjinbaaDoorBMath
import Derived.Lib.BitFns
namespace Go.Proofs.YtacdfhgamjinbaaDoor
set_option linter.unusedVariables false
def cat : List Nat → Nat
  | [] => 0
  | b :: l => b + 256 * cat l
def rep (m n : Nat) : Nat := cat (List.replicate n m)
theorem rep_succ (m n : Nat) : rep m (n + 1) = m + 256 * rep m n := by simp [rep, List.replicate_succ, cat]
theorem and_cons {b y mb my : Nat} (hb : b < 256) (hm : mb < 256) : (b + 256 * y) &&& (mb + 256 * my) = (b &&& mb) + 256 * (y &&& my) := by
  refine Nat.eq_of_testBit_eq fun i => ?_
  have h1 := fun a => Nat.testBit_two_pow_mul_add (i := 8) a (show b < 2 ^ 8 from hb) i
  have h2 := fun a => Nat.testBit_two_pow_mul_add (i := 8) a (show mb < 2 ^ 8 from hm) i
  have h3 := fun a => Nat.testBit_two_pow_mul_add (i := 8) a (show b &&& mb < 2 ^ 8 from Nat.and_lt_two_pow _ hm) i
  rw [Nat.testBit_and, Nat.add_comm b, Nat.add_comm mb, Nat.add_comm (b &&& mb)]
  rw [show 256 = 2 ^ 8 from rfl, h1, h2, h3]
  split <;> simp
def f1 (b : Nat) : Nat := (b / 2 &&& 85) + (b &&& 85)
def f2 (b : Nat) : Nat := (b / 4 &&& 51) + (b &&& 51)
def f3 (b : Nat) : Nat := (b / 16 + b) &&& 15
theorem low1 : ∀ b : Fin 256, ∀ t : Fin 2, ((b.val / 2 + 128 * t.val) &&& 85) = (b.val / 2 &&& 85) := by decide +kernel
theorem low2 : ∀ b : Fin 256, ∀ t : Fin 4, ((b.val / 4 + 64 * t.val) &&& 51) = (b.val / 4 &&& 51) := by decide +kernel
theorem low3 : ∀ b : Fin 256, ∀ t : Fin 16, ((b.val / 16 + b.val + 16 * t.val) &&& 15) = ((b.val / 16 + b.val) &&& 15) := by decide +kernel
theorem cat_f1 : ∀ l : List Nat, (∀ b ∈ l, b < 256) → (cat l / 2 &&& rep 85 l.length) + (cat l &&& rep 85 l.length) = cat (l.map f1)
  | [], _ => rfl
  | b :: l, h => by
    have hb := h b (by simp)
    have ih := cat_f1 l fun c hc => h c (by simp [hc])
    have hl := low1 ⟨b, hb⟩ ⟨cat l % 2, Nat.mod_lt _ (by decide)⟩
    simp only at hl
    rw [List.length_cons, rep_succ, List.map_cons]
    show ((b + 256 * cat l) / 2 &&& _) + ((b + 256 * cat l) &&& _) = f1 b + 256 * cat (l.map f1)
    rw [show (b + 256 * cat l) / 2 = (b / 2 + 128 * (cat l % 2)) + 256 * (cat l / 2) by omega, and_cons (by omega) (by decide), and_cons hb (by decide), hl, ← ih, f1]
    omega
theorem cat_f2 : ∀ l : List Nat, (∀ b ∈ l, b < 256) → (cat l / 4 &&& rep 51 l.length) + (cat l &&& rep 51 l.length) = cat (l.map f2)
  | [], _ => rfl
  | b :: l, h => by
    have hb := h b (by simp)
    have ih := cat_f2 l fun c hc => h c (by simp [hc])
    have hl := low2 ⟨b, hb⟩ ⟨cat l % 4, Nat.mod_lt _ (by decide)⟩
    simp only at hl
    rw [List.length_cons, rep_succ, List.map_cons]
    show ((b + 256 * cat l) / 4 &&& _) + ((b + 256 * cat l) &&& _) = f2 b + 256 * cat (l.map f2)
    rw [show (b + 256 * cat l) / 4 = (b / 4 + 64 * (cat l % 4)) + 256 * (cat l / 4) by omega, and_cons (by omega) (by decide), and_cons hb (by decide), hl, ← ih, f2]
    omega
def Nib (b : Nat) : Prop := b % 16 ≤ 4 ∧ b / 16 ≤ 4
theorem cat_low : ∀ l : List Nat, (∀ b ∈ l, Nib b) → cat l % 16 ≤ 4
  | [], _ => by simp [cat]
  | b :: l, h => by
    have := (h b (by simp)).1
    show (b + 256 * cat l) % 16 ≤ 4
    omega
theorem cat_f3 : ∀ l : List Nat, (∀ b ∈ l, Nib b) → (cat l / 16 + cat l) &&& rep 15 l.length = cat (l.map f3)
  | [], _ => rfl
  | b :: l, h => by
    have hb := h b (by simp)
    have ih := cat_f3 l fun c hc => h c (by simp [hc])
    have hc := cat_low l fun c hc => h c (by simp [hc])
    have hl := low3 ⟨b, by unfold Nib at hb; omega⟩ ⟨cat l % 16, by omega⟩
    simp only at hl
    unfold Nib at hb
    rw [List.length_cons, rep_succ, List.map_cons]
    show ((b + 256 * cat l) / 16 + (b + 256 * cat l)) &&& _ = f3 b + 256 * cat (l.map f3)
    rw [show (b + 256 * cat l) / 16 + (b + 256 * cat l) = (b / 16 + b + 16 * (cat l % 16)) + 256 * (cat l / 16 + cat l) by omega, and_cons (by omega) (by decide), hl, ih, f3]
def bytes : Nat → Nat → List Nat
  | 0, _ => []
  | n + 1, x => x % 256 :: bytes n (x / 256)
theorem bytes_len : ∀ n x, (bytes n x).length = n
  | 0, _ => rfl
  | n + 1, x => by rw [bytes, List.length_cons, bytes_len n]
theorem bytes_lt : ∀ n x, ∀ b ∈ bytes n x, b < 256
  | 0, _ => by simp [bytes]
  | n + 1, x => by
    intro b hb
    rw [bytes, List.mem_cons] at hb
    rcases hb with rfl | hb
    · exact Nat.mod_lt _ (by decide)
    · exact bytes_lt n _ b hb
theorem cat_bytes : ∀ n x, x < 256 ^ n → cat (bytes n x) = x
  | 0, x, h => by simp at h; subst h; rfl
  | n + 1, x, h => by
    rw [bytes]
    show x % 256 + 256 * cat (bytes n (x / 256)) = x
    rw [cat_bytes n (x / 256) (by rw [Nat.pow_succ] at h; exact Nat.div_lt_of_lt_mul (by omega))]
    omega
theorem popAux_add : ∀ m k x, Lib.popAux (m + k) x = Lib.popAux m (x % 2 ^ m) + Lib.popAux k (x / 2 ^ m)
  | 0, k, x => by simp [Lib.popAux]
  | m + 1, k, x => by
    rw [show m + 1 + k = (m + k) + 1 by omega, Lib.popAux, Lib.popAux, popAux_add m k (x / 2), Nat.pow_succ, Nat.mul_comm (2 ^ m) 2, Nat.mod_mul_right_div_self, Nat.mod_mul_right_mod, Nat.div_div_eq_div_mul]
    omega
theorem pop_bytes : ∀ n x, Lib.popAux (8 * n) x = ((bytes n x).map (Lib.popAux 8)).sum
  | 0, x => rfl
  | n + 1, x => by
    rw [show 8 * (n + 1) = 8 + 8 * n by omega, popAux_add, bytes, List.map_cons, List.sum_cons, pop_bytes n]
theorem byte_all : ∀ b : Fin 256, f3 (f2 (f1 b.val)) = Lib.popAux 8 b.val ∧ f1 b.val < 256 ∧ Nib (f2 (f1 b.val)) ∧ Lib.popAux 8 b.val ≤ 8 := by unfold Nib; decide +kernel
theorem div_of {a q n x : Nat} (h : a < n) (hx : x = a + n * q) : x / n = q := by
  subst hx
  rw [Nat.add_mul_div_left _ _ (by omega), Nat.div_eq_of_lt h, Nat.zero_add]
theorem cat_sum (c0 c1 c2 c3 c4 c5 c6 c7 : Nat) (h0 : c0 ≤ 8) (h1 : c1 ≤ 8) (h2 : c2 ≤ 8) (h3 : c3 ≤ 8) (h4 : c4 ≤ 8) (h5 : c5 ≤ 8) (h6 : c6 ≤ 8) (h7 : c7 ≤ 8) (x y z : Nat)
    (hx : x = cat [c0, c1, c2, c3, c4, c5, c6, c7]) (hy : y = x + x / 256) (hz : z = y + y / 65536) : (z + z / 4294967296) % 128 = c0 + c1 + c2 + c3 + c4 + c5 + c6 + c7 := by
  simp only [cat] at hx
  have e1 : x / 256 = c1 + 256 * (c2 + 256 * (c3 + 256 * (c4 + 256 * (c5 + 256 * (c6 + 256 * c7))))) := div_of (a := c0) (by omega) (by rw [hx]; simp)
  obtain ⟨Y, hY⟩ : ∃ Y, Y = (c2 + c3) + 256 * ((c3 + c4) + 256 * ((c4 + c5) + 256 * ((c5 + c6) + 256 * ((c6 + c7) + 256 * c7)))) := ⟨_, rfl⟩
  have y1 : y = (c0 + c1) + 256 * (c1 + c2) + 65536 * Y := by rw [hy, e1, hx, hY]; omega
  have e2 : y / 65536 = Y := div_of (a := (c0 + c1) + 256 * (c1 + c2)) (by omega) y1
  obtain ⟨Z, hZ⟩ : ∃ Z, Z = (c4 + c5 + c6 + c7) + 256 * ((c5 + c6 + c7) + 256 * ((c6 + c7) + 256 * c7)) := ⟨_, rfl⟩
  have z1 : z = ((c0 + c1 + c2 + c3) + 256 * ((c1 + c2 + c3 + c4) + 256 * ((c2 + c3 + c4 + c5) + 256 * (c3 + c4 + c5 + c6)))) + 4294967296 * Z := by rw [hz, e2, y1, hY, hZ]; omega
  have e3 : z / 4294967296 = Z := div_of (a := (c0 + c1 + c2 + c3) + 256 * ((c1 + c2 + c3 + c4) + 256 * ((c2 + c3 + c4 + c5) + 256 * (c3 + c4 + c5 + c6)))) (by omega) z1
  rw [e3, z1]
  obtain ⟨Q, hQ⟩ : ∃ Q, Q = (c1 + c2 + c3 + c4) + 256 * ((c2 + c3 + c4 + c5) + 256 * (c3 + c4 + c5 + c6)) := ⟨_, rfl⟩
  obtain ⟨Q2, hQ2⟩ : ∃ Q, Q = (c5 + c6 + c7) + 256 * ((c6 + c7) + 256 * c7) := ⟨_, rfl⟩
  rw [← hQ]
  rw [← hQ2] at hZ
  clear hx hy hz e1 e2 e3 y1 z1 hY hQ hQ2 x y z Y
  omega
def pop1 (x : Nat) : Nat := (x / 2 &&& 6148914691236517205) + (x &&& 6148914691236517205)
def pop2 (x : Nat) : Nat := (x / 4 &&& 3689348814741910323) + (x &&& 3689348814741910323)
def pop3 (x : Nat) : Nat := (x / 16 + x) &&& 1085102592571150095
theorem len8 {l : List Nat} (h : l.length = 8) : ∃ b0 b1 b2 b3 b4 b5 b6 b7, l = [b0, b1, b2, b3, b4, b5, b6, b7] := by
  match l, h with
  | [b0, b1, b2, b3, b4, b5, b6, b7], _ => exact ⟨b0, b1, b2, b3, b4, b5, b6, b7, rfl⟩
theorem pop_all (x : Nat) (hx : x < 18446744073709551616) (y z : Nat) (hy : y = pop3 (pop2 (pop1 x)) + pop3 (pop2 (pop1 x)) / 256) (hz : z = y + y / 65536) : (z + z / 4294967296) % 128 = Lib.popAux 64 x := by
  have hl := bytes_len 8 x
  have hlt := bytes_lt 8 x
  have hc := cat_bytes 8 x hx
  have s1 := cat_f1 _ hlt
  have hb : ∀ b ∈ bytes 8 x, f3 (f2 (f1 b)) = Lib.popAux 8 b ∧ f1 b < 256 ∧ Nib (f2 (f1 b)) ∧ Lib.popAux 8 b ≤ 8 := fun b h => byte_all ⟨b, hlt b h⟩
  have s2 := cat_f2 ((bytes 8 x).map f1) (by intro c h; obtain ⟨b, h1, rfl⟩ := List.mem_map.1 h; exact (hb b h1).2.1)
  have s3 := cat_f3 (((bytes 8 x).map f1).map f2) (by intro c h; obtain ⟨d, h0, rfl⟩ := List.mem_map.1 h; obtain ⟨b, h1, rfl⟩ := List.mem_map.1 h0; exact (hb b h1).2.2.1)
  simp only [List.length_map, hl] at s1 s2 s3
  rw [show rep 85 8 = 6148914691236517205 by decide, hc] at s1
  rw [show rep 51 8 = 3689348814741910323 by decide, ← s1] at s2
  rw [show rep 15 8 = 1085102592571150095 by decide, ← s2] at s3
  have s4 : pop3 (pop2 (pop1 x)) = cat ((bytes 8 x).map (Lib.popAux 8)) := by
    rw [show (bytes 8 x).map (Lib.popAux 8) = (((bytes 8 x).map f1).map f2).map f3 by
      rw [List.map_map, List.map_map]
      exact List.map_congr_left fun b h => ((hb b h).1).symm]
    exact s3
  have hp := pop_bytes 8 x
  rw [show (8 * 8 : Nat) = 64 from rfl] at hp
  have hle : ∀ b ∈ bytes 8 x, Lib.popAux 8 b ≤ 8 := fun b h => (hb b h).2.2.2
  obtain ⟨b0, b1, b2, b3, b4, b5, b6, b7, he⟩ := len8 hl
  rw [he] at s4 hp hle
  have h := cat_sum (Lib.popAux 8 b0) (Lib.popAux 8 b1) (Lib.popAux 8 b2) (Lib.popAux 8 b3) (Lib.popAux 8 b4) (Lib.popAux 8 b5) (Lib.popAux 8 b6) (Lib.popAux 8 b7) (hle b0 (by simp)) (hle b1 (by simp)) (hle b2 (by simp)) (hle b3 (by simp)) (hle b4 (by simp)) (hle b5 (by simp)) (hle b6 (by simp)) (hle b7 (by simp)) _ y z s4 hy hz
  rw [h, hp]
  simp only [List.map_cons, List.map_nil, List.sum_cons, List.sum_nil]
  omega
theorem pop_mod : ∀ n x, Lib.popAux n (x % 2 ^ n) = Lib.popAux n x
  | 0, _ => rfl
  | n + 1, x => by
    rw [Lib.popAux, Lib.popAux, Nat.pow_succ, Nat.mul_comm (2 ^ n) 2, Nat.mod_mul_right_mod, Nat.mod_mul_right_div_self, pop_mod n]
theorem pop_top (n x : Nat) : Lib.popAux (n + 1) x = (if x.testBit n then 1 else 0) + Lib.popAux n x := by
  rw [popAux_add, pop_mod, Nat.testBit_eq_decide_div_mod_eq]
  simp only [Lib.popAux]
  have := Nat.mod_two_eq_zero_or_one (x / 2 ^ n)
  split <;> rename_i h <;> simp at h <;> omega
theorem cnt_down : ∀ n x, (List.range n).countP (fun i => x.testBit (n - 1 - i)) = Lib.popAux n x
  | 0, _ => rfl
  | n + 1, x => by
    rw [List.range_succ_eq_map, List.countP_cons, List.countP_map, pop_top, ← cnt_down n x]
    have : ∀ i, ((fun i => x.testBit (n + 1 - 1 - i)) ∘ Nat.succ) i = x.testBit (n - 1 - i) := fun i => by
      simp only [Function.comp]
      congr 1
      omega
    rw [List.countP_congr fun i _ => by rw [this i]]
    simp only [Nat.add_sub_cancel, Nat.sub_zero]
    omega
theorem fl_pop (a b : Nat) : (fl (hasN a b) 127).length = Lib.popAux 64 (clrN a) + Lib.popAux 64 b := by
  rw [fl, List.length_map, ← List.countP_eq_length_filter, show (127 : Nat) = 63 + 64 from rfl, List.range_add, List.countP_append, List.countP_map]
  have h1 : (List.range 63).countP (fun i => hasN a b (i + 2)) = (List.range 63).countP (fun i => (clrN a).testBit (63 - 1 - i)) := by
    refine List.countP_congr fun i hi => ?_
    have := List.mem_range.1 hi
    rw [hasN_lo _ _ _ (by omega), clrN_bit, show 64 - (i + 2) = 63 - 1 - i by omega]
    simp [show 63 - 1 - i ≤ 62 by omega]
  have h2 : (List.range 64).countP ((fun i => hasN a b (i + 2)) ∘ fun x => 63 + x) = (List.range 64).countP (fun i => b.testBit (64 - 1 - i)) := by
    refine List.countP_congr fun i hi => ?_
    have := List.mem_range.1 hi
    simp only [Function.comp]
    rw [hasN_hi _ _ _ (by omega), show 128 - (63 + i + 2) = 64 - 1 - i by omega]
  rw [h1, h2, cnt_down, cnt_down, show (64 : Nat) = 63 + 1 from rfl, pop_top 63 (clrN a), clrN_bit]
  simp
theorem pop_le : ∀ n x, Lib.popAux n x ≤ n
  | 0, _ => Nat.le_refl _
  | n + 1, x => by
    have := pop_le n (x / 2)
    rw [Lib.popAux]
    omega
end Go.Proofs.YtacdfhgamjinbaaDoor
