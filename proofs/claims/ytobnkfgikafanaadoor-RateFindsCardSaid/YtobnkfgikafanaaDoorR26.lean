/-
  CONTRACTS of rates: Find: what both functions return, for every list.
-/
import Derived.Test.YtobnkfgikafanaaDoorR25
namespace Go.Proofs.YtobnkfgikafanaaDoor
open Go.RowKit
set_option linter.unusedVariables false
set_option linter.unusedSimpArgs false
theorem Rts.more {w : World} {B B' n : Nat} {A : Option Addr} {L : List RR} (h : Rts w B A n L) (hB : B ≤ B') : Rts w B' A n L :=
  ⟨h.1, fun hn => by
    obtain ⟨ad, e, hb, hc⟩ := h.2 hn
    exact ⟨ad, e, by omega, hc⟩⟩
theorem Rts.later {w w' : World} {n : Nat} {A : Option Addr} {L : List RR} (h : Rts w w.heap.size A n L) (hb : Below w.heap.size w w') : Rts w' w'.heap.size A n L := (h.below hb).more hb.size
abbrev agR (f t : ByteArray) (n d : Int) : Value := .agg #[.string f, .string t, .int .i64 n, .int .i64 d]
def DirP (L : List RR) (a b f t : ByteArray) (n d : Int) (y : Bool) : Prop := ∀ (A : Option Addr) (k c : Nat) (w : World), Rts w w.heap.size A k L → k ≤ 1000 → k ≤ c →
  (Calls Tryd.prog 40 #[.slice A k c, .agg #[.string a, .string b]] w fun e w' => e = .returned (agR f t n d) ∧ Below w.heap.size w w') ∧
  (Calls Tryd.prog 41 #[.slice A k c, .string a, .string b] w fun e w' => e = .returned (.tuple #[agR f t n d, .bool y]) ∧ Below w.heap.size w w')
theorem dir_tot (L : List RR) (hL : okL L) (a b : ByteArray) (ha : a.size ≤ 1000) (hb : b.size ≤ 1000) :
    (∃ f t n d, DirP L a b f t n d true ∧ f.size ≠ 0 ∧ f.size ≤ 1000 ∧ t.size ≤ 1000) ∨ DirP L a b ⟨#[]⟩ ⟨#[]⟩ 0 0 false := by
  cases e1 : L.find? (fun r => decide (hitR a b r)) with
  | some x =>
    have hx : hitR a b x := by simpa using List.find?_some e1
    have hz := hL x (List.mem_of_find?_eq_some e1)
    have z3 : x.f.size = 3 := (chk_ok hx.2.2).1.1.1
    left
    refine ⟨x.f, x.t, x.n, x.d, fun A k c w hS hk hc => ⟨?_, ?_⟩, by omega, hz.1, hz.2⟩
    · exact direct_1 _ a b x.f x.t x.n x.d w (by omega) (Lib.hid fun w' hb' => stated_any A k c L w' (hS.later hb') hk hc hL a b ha hb (Lib.hid (by rw [firstR, e1]; rfl)))
    · exact rdirect_1 _ a b x.f x.t x.n x.d w (Lib.hid fun w' hb' => rstated_any A k c L w' (hS.later hb') hk hc hL a b ha hb (Lib.hid ⟨by rw [firstR, e1]; rfl, by rw [e1]; rfl⟩))
  | none =>
    have SA : ∀ (A : Option Addr) (k c : Nat) (w : World), Rts w w.heap.size A k L → k ≤ 1000 → k ≤ c → Hid (∀ w', Below w.heap.size w w' → Calls Tryd.prog 55 #[.slice A k c, .agg #[.string a, .string b]] w' fun e w'' => e = .returned (agR ⟨#[]⟩ ⟨#[]⟩ 0 0) ∧ Below w'.heap.size w' w'') := fun A k c w hS hk hc => Lib.hid fun w' hb' => stated_any A k c L w' (hS.later hb') hk hc hL a b ha hb (r := zeroR) (Lib.hid (by rw [firstR, e1]; rfl))
    have RA : ∀ (A : Option Addr) (k c : Nat) (w : World), Rts w w.heap.size A k L → k ≤ 1000 → k ≤ c → Hid (∀ w', Below w.heap.size w w' → Calls Tryd.prog 56 #[.slice A k c, .string a, .string b] w' fun e w'' => e = .returned (.tuple #[agR ⟨#[]⟩ ⟨#[]⟩ 0 0, .bool false]) ∧ Below w'.heap.size w' w'') := fun A k c w hS hk hc => Lib.hid fun w' hb' => rstated_any A k c L w' (hS.later hb') hk hc hL a b ha hb (r := zeroR) (y := false) (Lib.hid ⟨by rw [firstR, e1]; rfl, by rw [e1]; rfl⟩)
    cases e2 : L.find? (fun r => decide (hitR b a r)) with
    | some x =>
      have hx : hitR b a x := by simpa using List.find?_some e2
      have hz := hL x (List.mem_of_find?_eq_some e2)
      have z3 : x.t.size = 3 := (chk_ok hx.2.2).1.2.1.1
      have SB : ∀ (A : Option Addr) (k c : Nat) (w : World), Rts w w.heap.size A k L → k ≤ 1000 → k ≤ c → Hid (∀ w', Below w.heap.size w w' → Calls Tryd.prog 55 #[.slice A k c, .agg #[.string b, .string a]] w' fun e w'' => e = .returned (agR x.f x.t x.n x.d) ∧ Below w'.heap.size w' w'') := fun A k c w hS hk hc => Lib.hid fun w' hb' => stated_any A k c L w' (hS.later hb') hk hc hL b a hb ha (Lib.hid (by rw [firstR, e2]; rfl))
      have RB : ∀ (A : Option Addr) (k c : Nat) (w : World), Rts w w.heap.size A k L → k ≤ 1000 → k ≤ c → Hid (∀ w', Below w.heap.size w w' → Calls Tryd.prog 56 #[.slice A k c, .string b, .string a] w' fun e w'' => e = .returned (.tuple #[agR x.f x.t x.n x.d, .bool true]) ∧ Below w'.heap.size w' w'') := fun A k c w hS hk hc => Lib.hid fun w' hb' => rstated_any A k c L w' (hS.later hb') hk hc hL b a hb ha (Lib.hid ⟨by rw [firstR, e2]; rfl, by rw [e2]; rfl⟩)
      have hc0 := hx.2.2
      clear hx e2
      obtain ⟨xf, xt, xn, xd⟩ := x
      obtain ⟨N, D, rfl, rfl, N0, D0, N1, D1⟩ := num_nat (chk_ok hc0).2
      left
      refine ⟨xt, xf, ((rdN D N : Nat) : Int), ((rdD D N : Nat) : Int), fun A k c w hS hk hc => ⟨?_, ?_⟩, by simp only at z3; omega, hz.2, hz.1⟩
      · exact direct_0 _ a b xf xt xt xf _ _ _ _ 0 w (SA A k c w hS hk hc) (SB A k c w hS hk hc) (Lib.hid fun w' => inv_ok xf xt N D (by simp only at hz; omega) (by simp only at hz; omega) (Lib.hid hc0) N0 D0 (by omega) (by omega) w')
      · exact rdirect_3 _ a b xf xt xt xf _ _ _ _ 0 w (RA A k c w hS hk hc) (RB A k c w hS hk hc) (Lib.hid fun w' => rinv_ok xf xt N D (by simp only at hz; omega) (by simp only at hz; omega) (Lib.hid hc0) N0 D0 (by omega) (by omega) w')
    | none =>
      have SB : ∀ (A : Option Addr) (k c : Nat) (w : World), Rts w w.heap.size A k L → k ≤ 1000 → k ≤ c → Hid (∀ w', Below w.heap.size w w' → Calls Tryd.prog 55 #[.slice A k c, .agg #[.string b, .string a]] w' fun e w'' => e = .returned (agR ⟨#[]⟩ ⟨#[]⟩ 0 0) ∧ Below w'.heap.size w' w'') := fun A k c w hS hk hc => Lib.hid fun w' hb' => stated_any A k c L w' (hS.later hb') hk hc hL b a hb ha (r := zeroR) (Lib.hid (by rw [firstR, e2]; rfl))
      have RB : ∀ (A : Option Addr) (k c : Nat) (w : World), Rts w w.heap.size A k L → k ≤ 1000 → k ≤ c → Hid (∀ w', Below w.heap.size w w' → Calls Tryd.prog 56 #[.slice A k c, .string b, .string a] w' fun e w'' => e = .returned (.tuple #[agR ⟨#[]⟩ ⟨#[]⟩ 0 0, .bool false]) ∧ Below w'.heap.size w' w'') := fun A k c w hS hk hc => Lib.hid fun w' hb' => rstated_any A k c L w' (hS.later hb') hk hc hL b a hb ha (r := zeroR) (y := false) (Lib.hid ⟨by rw [firstR, e2]; rfl, by rw [e2]; rfl⟩)
      right
      intro A k c w hS hk hc
      refine ⟨?_, rdirect_2 _ a b w (RA A k c w hS hk hc) (RB A k c w hS hk hc)⟩
      exact direct_0 _ a b _ _ _ _ _ _ _ _ 11 w (SA A k c w hS hk hc) (SB A k c w hS hk hc) (Lib.hid fun w' => inv_err ⟨#[]⟩ ⟨#[]⟩ 0 0 (by decide) (by decide) (Lib.hid (by decide)) (by decide) w')
def FindP (L : List RR) (a b p f t : ByteArray) (n d e : Int) : Prop := ∀ (A : Option Addr) (k c : Nat) (w : World), Rts w w.heap.size A k L → k ≤ 1000 → k ≤ c → Pow w → 8 ≤ w.heap.size →
  (Calls Tryd.prog 25 #[.slice A k c, .string a, .string b, .string p] w fun x w' => x = .returned (.tuple #[agR f t n d, .int .i64 e]) ∧ Below w.heap.size w w') ∧
  (Calls Tryd.prog 26 #[.slice A k c, .string a, .string b, .string p] w fun x w' => x = .returned (.tuple #[agR f t n d, .int .i64 e]) ∧ Below w.heap.size w w')
theorem find_tot (L : List RR) (hL : okL L) (a b p : ByteArray) (ha : a.size ≤ 1000) (hb : b.size ≤ 1000) (hp : p.size ≤ 1000) : ∃ f t n d e, FindP L a b p f t n d e := by
  by_cases hab : a = b
  · subst hab
    exact ⟨_, _, _, _, _, fun A k c w _ _ _ _ _ => ⟨find_eq _ a p w, rfind_eq _ a p w⟩⟩
  rcases dir_tot L hL a b ha hb with ⟨f, t, n, d, h1, f0, -, -⟩ | h1
  · exact ⟨_, _, _, _, _, fun A k c w hS hk hc _ _ => ⟨find_1 _ a b p f t n d w hab f0 (Lib.hid fun w' hb' => (h1 A k c w' (hS.later hb') hk hc).1), rfind_1 _ a b p f t n d w hab (Lib.hid fun w' hb' => (h1 A k c w' (hS.later hb') hk hc).2)⟩⟩
  have D1 : ∀ (A : Option Addr) (k c : Nat) (w : World), Rts w w.heap.size A k L → k ≤ 1000 → k ≤ c → Hid (∀ w', Below w.heap.size w w' → Calls Tryd.prog 40 #[.slice A k c, .agg #[.string a, .string b]] w' fun e w'' => e = .returned (agR ⟨#[]⟩ ⟨#[]⟩ 0 0) ∧ Below w'.heap.size w' w'') := fun A k c w hS hk hc => Lib.hid fun w' hb' => (h1 A k c w' (hS.later hb') hk hc).1
  have E1 : ∀ (A : Option Addr) (k c : Nat) (w : World), Rts w w.heap.size A k L → k ≤ 1000 → k ≤ c → Hid (∀ w', Below w.heap.size w w' → Calls Tryd.prog 41 #[.slice A k c, .string a, .string b] w' fun e w'' => e = .returned (.tuple #[agR ⟨#[]⟩ ⟨#[]⟩ 0 0, .bool false]) ∧ Below w'.heap.size w' w'') := fun A k c w hS hk hc => Lib.hid fun w' hb' => (h1 A k c w' (hS.later hb') hk hc).2
  rcases dir_tot L hL a p ha hp with ⟨f, t, n, d, h2, f0, fz, tz⟩ | h2
  · rcases dir_tot L hL p b hp hb with ⟨g, u, k, m, h3, g0, gz, uz⟩ | h3
    · obtain ⟨f', t', n', d', c', hX1, hX2⟩ := cross_tot f t n d g u k m fz tz gz uz
      refine ⟨f', t', n', d', c', fun A k' c w hS hk hc hP hw => ⟨?_, ?_⟩⟩
      · exact find_4 _ a b p f t g u f' t' n d k m n' d' c' w hab f0 g0 (D1 A k' c w hS hk hc) (Lib.hid fun w' hb' => (h2 A k' c w' (hS.later hb') hk hc).1) (Lib.hid fun w' hb' => (h3 A k' c w' (hS.later hb') hk hc).1) (Lib.hid fun w' hb' => pb (hX1 w'))
      · exact rfind_4 _ a b p f t g u f' t' n d k m n' d' c' w hab (E1 A k' c w hS hk hc) (Lib.hid fun w' hb' => (h2 A k' c w' (hS.later hb') hk hc).2) (Lib.hid fun w' hb' => (h3 A k' c w' (hS.later hb') hk hc).2) (Lib.hid fun w' hb' => pb (hX2 w'))
    · refine ⟨⟨#[]⟩, ⟨#[]⟩, 0, 0, 6, fun A k' c w hS hk hc hP hw => ⟨?_, ?_⟩⟩
      · exact find_3 _ a b p f t n d w hab f0 (D1 A k' c w hS hk hc) (Lib.hid fun w' hb' => (h2 A k' c w' (hS.later hb') hk hc).1) (Lib.hid fun w' hb' => (h3 A k' c w' (hS.later hb') hk hc).1)
      · exact rfind_3 _ a b p f t ⟨#[]⟩ ⟨#[]⟩ n d 0 0 w hab (E1 A k' c w hS hk hc) (Lib.hid fun w' hb' => (h2 A k' c w' (hS.later hb') hk hc).2) (Lib.hid fun w' hb' => (h3 A k' c w' (hS.later hb') hk hc).2)
  · rcases dir_tot L hL p b hp hb with ⟨g, u, k, m, h3, g0, gz, uz⟩ | h3
    · refine ⟨⟨#[]⟩, ⟨#[]⟩, 0, 0, 6, fun A k' c w hS hk hc hP hw => ⟨?_, ?_⟩⟩
      · exact find_2 _ a b p g u k m w hab (D1 A k' c w hS hk hc) (Lib.hid fun w' hb' => (h2 A k' c w' (hS.later hb') hk hc).1) (Lib.hid fun w' hb' => (h3 A k' c w' (hS.later hb') hk hc).1)
      · exact rfind_2 _ a b p ⟨#[]⟩ ⟨#[]⟩ g u 0 0 k m w hab (E1 A k' c w hS hk hc) (Lib.hid fun w' hb' => (h2 A k' c w' (hS.later hb') hk hc).2) (Lib.hid fun w' hb' => (h3 A k' c w' (hS.later hb') hk hc).2)
    · refine ⟨⟨#[]⟩, ⟨#[]⟩, 0, 0, 6, fun A k' c w hS hk hc hP hw => ⟨?_, ?_⟩⟩
      · exact find_2 _ a b p ⟨#[]⟩ ⟨#[]⟩ 0 0 w hab (D1 A k' c w hS hk hc) (Lib.hid fun w' hb' => (h2 A k' c w' (hS.later hb') hk hc).1) (Lib.hid fun w' hb' => (h3 A k' c w' (hS.later hb') hk hc).1)
      · exact rfind_2b _ a b p ⟨#[]⟩ ⟨#[]⟩ ⟨#[]⟩ ⟨#[]⟩ 0 0 0 0 w hab (E1 A k' c w hS hk hc) (Lib.hid fun w' hb' => (h2 A k' c w' (hS.later hb') hk hc).2) (Lib.hid fun w' hb' => (h3 A k' c w' (hS.later hb') hk hc).2)
end Go.Proofs.YtobnkfgikafanaaDoor
