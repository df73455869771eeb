/-
  MATHEMATICS of the checksum: one step of the register, linear and injective; the register after a string as one big number, stepped; a burst is never lost.
-/
import Derived.Laws.BitsAllLaws
namespace Go.Proofs.YtfchpobjepdpgaaDoor
set_option linter.unusedVariables false
theorem xrc (a b c : Nat) : a ^^^ b ^^^ c = a ^^^ c ^^^ b := by rw [Nat.xor_assoc, Nat.xor_comm b, ← Nat.xor_assoc]
theorem mul_xor (i a b : Nat) : 2 ^ i * (a ^^^ b) = 2 ^ i * a ^^^ 2 ^ i * b := by
  have h := Nat.shiftLeft_xor_distrib (a := a) (b := b) (i := i)
  rw [Nat.shiftLeft_eq, Nat.shiftLeft_eq, Nat.shiftLeft_eq] at h
  rw [Nat.mul_comm, h, Nat.mul_comm a, Nat.mul_comm b]
/-- One step of the register. -/
def stepN (c : Nat) : Nat := if c % 2 = 1 then (c / 2) ^^^ 3988292384 else c / 2
def stepsN : Nat → Nat → Nat
  | 0, c => c
  | k + 1, c => stepsN k (stepN c)
theorem stepN_lt {c : Nat} (h : c < 4294967296) : stepN c < 4294967296 := by
  unfold stepN
  split
  · exact Nat.xor_lt_two_pow (n := 32) (by omega) (by decide)
  · omega
theorem stepsN_lt : ∀ (k : Nat) {c : Nat}, c < 4294967296 → stepsN k c < 4294967296
  | 0, _, h => h
  | k + 1, _, h => stepsN_lt k (stepN_lt h)
theorem stepsN_succ : ∀ (k c : Nat), stepsN (k + 1) c = stepN (stepsN k c)
  | 0, _ => rfl
  | k + 1, c => stepsN_succ k (stepN c)
theorem stepsN_add : ∀ (j k c : Nat), stepsN (j + k) c = stepsN j (stepsN k c)
  | j, 0, _ => rfl
  | j, k + 1, c => stepsN_add j k (stepN c)
theorem stepN_xor (x y : Nat) : stepN (x ^^^ y) = stepN x ^^^ stepN y := by
  have hd : (x ^^^ y) / 2 = x / 2 ^^^ y / 2 := Nat.xor_div_two
  have hm : (x ^^^ y) % 2 = (x % 2 + y % 2) % 2 := by
    have := Nat.xor_mod_two_eq_one (a := x) (b := y)
    have h1 := Nat.mod_two_eq_zero_or_one (x ^^^ y)
    omega
  unfold stepN
  rw [hd, hm]
  rcases Nat.mod_two_eq_zero_or_one x with hx | hx <;> rcases Nat.mod_two_eq_zero_or_one y with hy | hy <;> simp [hx, hy]
  · rw [Nat.xor_assoc]
  · rw [xrc]
  · rw [Nat.xor_assoc, Nat.xor_comm _ (y / 2 ^^^ 3988292384), Nat.xor_assoc (y / 2), Nat.xor_self, Nat.xor_zero]
theorem stepsN_xor : ∀ (k x y : Nat), stepsN k (x ^^^ y) = stepsN k x ^^^ stepsN k y
  | 0, _, _ => rfl
  | k + 1, x, y => by
    show stepsN k (stepN _) = stepsN k (stepN _) ^^^ stepsN k (stepN _)
    rw [stepN_xor, stepsN_xor k]
theorem stepsN_pow : ∀ (k x : Nat), stepsN k (2 ^ k * x) = x
  | 0, x => by simp [stepsN]
  | k + 1, x => by
    show stepsN k (stepN _) = x
    have e : 2 ^ (k + 1) * x = 2 * (2 ^ k * x) := by rw [Nat.pow_succ, Nat.mul_comm (2 ^ k) 2, Nat.mul_assoc]
    have : stepN (2 ^ (k + 1) * x) = 2 ^ k * x := by
      unfold stepN
      rw [e, if_neg (by omega)]
      omega
    rw [this, stepsN_pow k]
theorem stepN_pos {c : Nat} (h : c < 4294967296) (h0 : c ≠ 0) : stepN c ≠ 0 := by
  unfold stepN
  split
  · intro e
    have : c / 2 = 3988292384 := by
      have h1 : (c / 2 ^^^ 3988292384) ^^^ 3988292384 = 0 ^^^ 3988292384 := by rw [e]
      rwa [Nat.xor_assoc, Nat.xor_self, Nat.xor_zero, Nat.zero_xor] at h1
    omega
  · omega
theorem stepsN_pos : ∀ (k : Nat) {c : Nat}, c < 4294967296 → c ≠ 0 → stepsN k c ≠ 0
  | 0, _, _, h => h
  | k + 1, _, h, h0 => stepsN_pos k (stepN_lt h) (stepN_pos h h0)
/-- The register after one byte. -/
def byteN (c b : Nat) : Nat := stepsN 8 (c ^^^ b)
def foldN (c : Nat) (l : List UInt8) : Nat := l.foldl (fun c b => byteN c b.toNat) c
/-- The register before the byte k. -/
def regN (s : ByteArray) (k : Nat) : Nat := foldN 4294967295 (s.data.toList.take k)
/-- The checksum. -/
def crcN (s : ByteArray) : Nat := foldN 4294967295 s.data.toList ^^^ 4294967295
theorem byteN_lt {c b : Nat} (h : c < 4294967296) (hb : b < 256) : byteN c b < 4294967296 := stepsN_lt 8 (Nat.xor_lt_two_pow (n := 32) (by omega) (by omega))
theorem foldN_lt : ∀ (l : List UInt8) {c : Nat}, c < 4294967296 → foldN c l < 4294967296
  | [], _, h => h
  | b :: l, _, h => foldN_lt l (byteN_lt h b.toNat_lt)
theorem regN_lt (s : ByteArray) (k : Nat) : regN s k < 4294967296 := foldN_lt _ (by decide)
theorem regN_zero (s : ByteArray) : regN s 0 = 4294967295 := rfl
theorem regN_succ (s : ByteArray) (k : Nat) (h : k < s.size) : regN s (k + 1) = byteN (regN s k) s[k].toNat := by
  unfold regN foldN
  have : s.data.toList.take (k + 1) = s.data.toList.take k ++ [s[k]] := by
    rw [List.take_succ_eq_append_getElem (by simpa using h)]; rfl
  rw [this, List.foldl_append]; rfl
theorem regN_end (s : ByteArray) (k : Nat) (h : ¬ k < s.size) : regN s k ^^^ 4294967295 = crcN s := by
  unfold regN crcN
  rw [List.take_of_length_le (by simp only [Array.length_toList]; show s.size ≤ k; omega)]
theorem crcN_lt (s : ByteArray) : crcN s < 4294967296 := Nat.xor_lt_two_pow (n := 32) (foldN_lt _ (by decide)) (by decide)
theorem not_xor (c : Nat) (h : c < 4294967296) : c ^^^ 4294967295 = 4294967295 - c := by
  have hc : BitVec.toNat (~~~ (BitVec.ofNat 32 c)) = 4294967295 - c := by
    rw [BitVec.toNat_not, BitVec.toNat_ofNat, Nat.mod_eq_of_lt h]
  rw [← hc, ← BitVec.xor_allOnes, BitVec.toNat_xor, BitVec.toNat_ofNat, Nat.mod_eq_of_lt h]
  rfl
/-- A string as one number, its first byte the least. -/
def bigN : List UInt8 → Nat
  | [] => 0
  | b :: l => b.toNat ^^^ 256 * bigN l
theorem foldN_big : ∀ (l : List UInt8) (c : Nat), foldN c l = stepsN (8 * l.length) (c ^^^ bigN l)
  | [], c => by simp [foldN, bigN, stepsN]
  | b :: l, c => by
    show foldN (byteN c b.toNat) l = stepsN (8 * (l.length + 1)) (c ^^^ (b.toNat ^^^ 256 * bigN l))
    rw [foldN_big l, show 8 * (l.length + 1) = 8 * l.length + 8 from rfl, stepsN_add, ← Nat.xor_assoc, stepsN_xor 8 (c ^^^ b.toNat), stepsN_pow 8]
    rfl
theorem foldN_xor (l m : List UInt8) (h : l.length = m.length) (c : Nat) : foldN c l ^^^ foldN c m = stepsN (8 * l.length) (bigN l ^^^ bigN m) := by
  rw [foldN_big, foldN_big, ← h, ← stepsN_xor]
  congr 1
  rw [Nat.xor_comm c (bigN l), Nat.xor_assoc, ← Nat.xor_assoc c c, Nat.xor_self, Nat.zero_xor]
/-- A burst changes the checksum. -/
theorem burst (l m : List UInt8) (h : l.length = m.length) (t v : Nat) (ht : t ≤ 8 * l.length) (hv : v < 4294967296) (h0 : v ≠ 0) (hx : bigN l ^^^ bigN m = 2 ^ t * v) (c : Nat) : foldN c l ≠ foldN c m := by
  intro e
  have h1 := foldN_xor l m h c
  rw [e, Nat.xor_self, hx, show 8 * l.length = (8 * l.length - t) + t by omega, stepsN_add, stepsN_pow t] at h1
  exact stepsN_pos _ hv h0 h1.symm
theorem xor_cancel (a b c : Nat) (h : a ^^^ c = b ^^^ c) : a = b := by
  have : (a ^^^ c) ^^^ c = (b ^^^ c) ^^^ c := by rw [h]
  rwa [Nat.xor_assoc, Nat.xor_self, Nat.xor_zero, Nat.xor_assoc, Nat.xor_self, Nat.xor_zero] at this
/-- Changing a byte by exclusive or changes the number by its shifted value. -/
theorem big_set : ∀ (l : List UInt8) (j : Nat) (hj : j < l.length) (x : UInt8), bigN (l.set j (l[j] ^^^ x)) = bigN l ^^^ 2 ^ (8 * j) * x.toNat
  | b :: l, 0, _, x => by
    show (b ^^^ x).toNat ^^^ 256 * bigN l = (b.toNat ^^^ 256 * bigN l) ^^^ 2 ^ 0 * x.toNat
    rw [UInt8.toNat_xor, Nat.pow_zero, Nat.one_mul, xrc]
  | b :: l, j + 1, hj, x => by
    have ih := big_set l j (by simpa using hj) x
    show b.toNat ^^^ 256 * bigN (l.set j (l[j]'(by simpa using hj) ^^^ x)) = (b.toNat ^^^ 256 * bigN l) ^^^ 2 ^ (8 * (j + 1)) * x.toNat
    rw [ih, Nat.xor_assoc]
    congr 1
    rw [show 2 ^ (8 * (j + 1)) * x.toNat = 256 * (2 ^ (8 * j) * x.toNat) by rw [show 8 * (j + 1) = 8 + 8 * j by omega, Nat.pow_add, Nat.mul_assoc]]
    exact mul_xor 8 _ _
end Go.Proofs.YtfchpobjepdpgaaDoor
