/-
  MATHEMATICS of the lexer: what is printed is scanned back.
-/
import Derived.Test.YtklogijbdpghpaaDoorLXU
namespace Go.Proofs.YtklogijbdpghpaaDoor
set_option linter.unusedVariables false
/-- Each lexeme has its word. -/
def Wds : List Lx → List ByteArray → Prop
  | [], [] => True
  | x :: xs, w :: ws => WX x w ∧ Wds xs ws
  | _, _ => False
/-- From an offset on: a space and a word, and so on, up to the end. -/
def Tail (t : ByteArray) : Nat → List ByteArray → Prop
  | j, [] => j = t.size
  | j, w :: r => j < t.size ∧ byt t j = 32 ∧ At t (j + 1) w ∧ Tail t (j + 1 + w.size) r
theorem Tail.sep {t : ByteArray} {j : Nat} {r : List ByteArray} (h : Tail t j r) : Sep t j := by
  match r, h with
  | [], h => intro hh; have : j = t.size := h; omega
  | w :: r, h => intro _; exact h.2.1
theorem Tail.le {t : ByteArray} : ∀ {r : List ByteArray} {j : Nat}, Tail t j r → j ≤ t.size
  | [], j, h => Nat.le_of_eq h
  | w :: r, j, h => by have := h.1; omega
def keyX (x : Lx) : Int × ByteArray × Int := (x.k, x.t, x.n)
theorem skP_word {t w : ByteArray} {i : Nat} {x : Lx} (hW : WX x w) (hA : At t i w) : skP t false i = i := by
  have h0 : byt t i = byt w 0 := hA.2 0 hW.pos
  exact skP_stop t false i (by unfold go1; rw [h0, hW.sp, hW.hs]; rfl)
theorem skP_space {t : ByteArray} {j : Nat} (h : j < t.size) (hb : byt t j = 32) : skP t false j = skP t false (j + 1) := by
  rw [skP_go t false j h (by unfold go1; rw [hb]; rfl)]
  unfold go2
  rw [hb]
  rfl
/-- One word. -/
theorem scan_word {t w : ByteArray} {i : Nat} {x : Lx} (hW : WX x w) (hA : At t i w) (hS : Sep t (i + w.size)) (acc : List Lx) : scP t i acc = scP t (skP t false (i + w.size)) (acc ++ [{ x with p := (i : Int) }]) := by
  obtain ⟨hE, hN, hX⟩ := hW.st t i hA hS
  have hlt : i < t.size := by have h1 := hA.1; have h2 := hW.pos; omega
  rw [scP_go t i acc hlt hE, hN, hX]
theorem scan_tail (t : ByteArray) : ∀ (xs : List Lx) (ws : List ByteArray), Wds xs ws → ∀ j acc, Tail t j ws → ∃ ys, scP t (skP t false j) acc = ⟨acc ++ (ys ++ [endL t.size]), 0, 0⟩ ∧ ys.map keyX = xs.map keyX
  | [], [], _, j, acc, hT => by
    have hj : j = t.size := hT
    subst hj
    exact ⟨[], by rw [skP_end t false _ (Nat.le_refl _), scP_end]; rfl, rfl⟩
  | [], w :: ws, h, j, acc, hT => absurd h (by simp [Wds])
  | x :: xs, [], h, j, acc, hT => absurd h (by simp [Wds])
  | x :: xs, w :: ws, h, j, acc, hT => by
    obtain ⟨hW, hR⟩ := h
    obtain ⟨h1, h2, hA, hT2⟩ := hT
    rw [skP_space h1 h2, skP_word hW hA, scan_word hW hA hT2.sep]
    obtain ⟨ys, a, b⟩ := scan_tail t xs ws hR (j + 1 + w.size) (acc ++ [{ x with p := ((j + 1 : Nat) : Int) }]) hT2
    exact ⟨{ x with p := ((j + 1 : Nat) : Int) } :: ys, by rw [a]; simp, by rw [List.map_cons, List.map_cons, b]; rfl⟩
theorem byt_at {t : ByteArray} {pre suf : List UInt8} {c : UInt8} (h : t.data.toList = pre ++ c :: suf) : pre.length < t.size ∧ byt t pre.length = (c.toNat : Int) := by
  have hl : t.data.toList.length = t.size := rfl
  rw [h] at hl
  refine ⟨by rw [← hl]; simp, ?_⟩
  rw [byt, h, List.getD_eq_getElem?_getD, List.getElem?_append_right (Nat.le_refl _), Nat.sub_self]
  rfl
theorem at_at {t w : ByteArray} {pre suf : List UInt8} (h : t.data.toList = pre ++ (w.data.toList ++ suf)) : At t pre.length w := by
  have hl : t.data.toList.length = t.size := rfl
  have hw : w.data.toList.length = w.size := rfl
  rw [h] at hl
  simp only [List.length_append] at hl
  refine ⟨by omega, fun k hk => ?_⟩
  rw [byt, byt, h, List.getD_eq_getElem?_getD, List.getD_eq_getElem?_getD, List.getElem?_append_right (by omega), show pre.length + k - pre.length = k by omega, List.getElem?_append_left (by omega)]
theorem tail_of (t : ByteArray) : ∀ (r : List ByteArray) (pre : List UInt8), t.data.toList = pre ++ Lib.joinTail [32] (r.map (·.data.toList)) → Tail t pre.length r
  | [], pre, h => by
    have hl : t.data.toList.length = t.size := rfl
    rw [h] at hl
    show pre.length = t.size
    simpa [Lib.joinTail] using hl
  | w :: r, pre, h => by
    have hj : Lib.joinTail [32] ((w :: r).map (·.data.toList)) = 32 :: (w.data.toList ++ Lib.joinTail [32] (r.map (·.data.toList))) := by simp [Lib.joinTail]
    rw [hj] at h
    have hb := byt_at h
    have h2 : t.data.toList = (pre ++ [32]) ++ (w.data.toList ++ Lib.joinTail [32] (r.map (·.data.toList))) := by rw [h]; simp
    have hA := at_at h2
    have h3 : t.data.toList = ((pre ++ [32]) ++ w.data.toList) ++ Lib.joinTail [32] (r.map (·.data.toList)) := by rw [h2]; simp
    have hT := tail_of t r _ h3
    have hw : w.data.toList.length = w.size := rfl
    rw [List.length_append, List.length_singleton] at hA
    rw [List.length_append, List.length_append, List.length_singleton, hw] at hT
    exact ⟨hb.1, hb.2, hA, hT⟩
/-- The text of words that are joined scans to their lexemes. -/
theorem scan_join {t : ByteArray} {xs : List Lx} {ws : List ByteArray} (h : Wds xs ws) (ht : t.data.toList = Lib.join (ws.map (·.data.toList)) [32]) (hsz : t.size ≤ 4000) : ∃ ys, scS t = ⟨ys ++ [endL t.size], 0, 0⟩ ∧ ys.map keyX = xs.map keyX := by
  unfold scS
  rw [if_neg (by omega)]
  match xs, ws, h with
  | [], [], _ =>
    have h0 : t.size = 0 := by
      have hl : t.data.toList.length = t.size := rfl
      rw [ht] at hl
      rw [← hl]
      rfl
    refine ⟨[], ?_, rfl⟩
    have : skP t false 0 = t.size := by rw [skP_end t false 0 (by omega)]; omega
    rw [this, scP_end]
    rfl
  | x :: xs, w :: ws, h =>
    obtain ⟨hW, hR⟩ := h
    rw [List.map_cons, Lib.join_cons] at ht
    have hA : At t 0 w := at_at (pre := []) ht
    have hT : Tail t w.size ws := tail_of t ws w.data.toList ht
    have hS : Sep t (0 + w.size) := by rw [Nat.zero_add]; exact hT.sep
    rw [skP_word hW hA, scan_word hW hA hS, Nat.zero_add]
    obtain ⟨ys, a, b⟩ := scan_tail t xs ws hR w.size ([] ++ [{ x with p := ((0 : Nat) : Int) }]) hT
    exact ⟨{ x with p := ((0 : Nat) : Int) } :: ys, by rw [a]; simp, by rw [List.map_cons, List.map_cons, b]; rfl⟩
end Go.Proofs.YtklogijbdpghpaaDoor
