/-
  CONTRACTS of the lexer: equal scans are the same; the chapter's example.
-/
import Derived.Test.YtklogijbdpghpaaDoorL11
import Derived.Deep.QuietTactic
import Derived.BigQuiet
namespace Go.Proofs.YtklogijbdpghpaaDoor
open Go.RowKit
set_option linter.unusedVariables false
set_option linter.unusedSimpArgs false
set_option maxHeartbeats 1600000 in
theorem same_eq {K K' : Nat} {v u : Value} {L : List Lx} {w : World} (h1 : w.ownsRow K 30 4 v L.length (lcells L)) (h2 : w.ownsRow K' 30 4 u L.length (lcells L)) (hL : L.length ≤ 100000) : Calls Tryd.prog 12 #[v, u] w fun e w' => e = .returned (.bool true) ∧ Below w.heap.size w w' := by
  obtain ⟨A, c, hv, -, -, -⟩ := row_form h1
  obtain ⟨A2, c2, hu, -, -, -⟩ := row_form h2
  subst hv hu
  have HA := Lib.hid h1
  have HB := Lib.hid h2
  generalize hM : L.length = M at *
  have HM := Lib.hid hM
  clear h1 h2 hM
  go_enter Tryd.func12, Tryd.ntmps12
  go_wp2_with fail
  go_loopw [5] (fun v wr => ∃ k : Nat, k ≤ M ∧ v = .int .i64 (k : Int) ∧ Below w.heap.size w wr) (fun v _ => M - (intOf v).toNat)
  case atStart => exact ⟨0, Nat.zero_le _, rfl, Below.refl _ _⟩
  case round =>
    obtain ⟨k, hk, rfl, hB⟩ := hrel
    have HW := Lib.hid hB
    clear hB
    by_cases hlt : k < M
    · have hx : L[k]? = some (L[k]'(by rw [HM.out]; exact hlt)) := List.getElem?_eq_getElem _
      generalize (L[k]'(by rw [HM.out]; exact hlt)) = x at hx
      obtain ⟨g, cap, e, -, hgl, hc⟩ := row_cells HA.out (by omega)
      injection e with e1 e2 e3
      subst e1 e3
      obtain ⟨g2, cap2, e, -, hgl2, hc2⟩ := row_cells HB.out (by omega)
      injection e with e1 e2 e3
      subst e1 e3
      obtain ⟨x0, x1, x2, x3⟩ := lcells_at L hx
      have p0 : wr.cell? ⟨g, k * 4, none⟩ = some (.int .i64 x.k) := ((HW.out.cell (p := ⟨g, k * 4, none⟩) hgl).trans (hc _ (by omega))).trans x0
      have p1 : wr.cell? ⟨g, k * 4 + 1, none⟩ = some (.string x.t) := ((HW.out.cell (p := ⟨g, k * 4 + 1, none⟩) hgl).trans (hc _ (by omega))).trans x1
      have p2 : wr.cell? ⟨g, k * 4 + 2, none⟩ = some (.int .i64 x.n) := ((HW.out.cell (p := ⟨g, k * 4 + 2, none⟩) hgl).trans (hc _ (by omega))).trans x2
      have p3 : wr.cell? ⟨g, k * 4 + 3, none⟩ = some (.int .i64 x.p) := ((HW.out.cell (p := ⟨g, k * 4 + 3, none⟩) hgl).trans (hc _ (by omega))).trans x3
      have q0 : wr.cell? ⟨g2, k * 4, none⟩ = some (.int .i64 x.k) := ((HW.out.cell (p := ⟨g2, k * 4, none⟩) hgl2).trans (hc2 _ (by omega))).trans x0
      have q1 : wr.cell? ⟨g2, k * 4 + 1, none⟩ = some (.string x.t) := ((HW.out.cell (p := ⟨g2, k * 4 + 1, none⟩) hgl2).trans (hc2 _ (by omega))).trans x1
      have q2 : wr.cell? ⟨g2, k * 4 + 2, none⟩ = some (.int .i64 x.n) := ((HW.out.cell (p := ⟨g2, k * 4 + 2, none⟩) hgl2).trans (hc2 _ (by omega))).trans x2
      have q3 : wr.cell? ⟨g2, k * 4 + 3, none⟩ = some (.int .i64 x.p) := ((HW.out.cell (p := ⟨g2, k * 4 + 3, none⟩) hgl2).trans (hc2 _ (by omega))).trans x3
      clear hc hc2 hx x0 x1 x2 x3
      go_wp2_with fail
      go_quiet (fail)
      go_wp2_with fail
      go_round
      case rel => exact ⟨k + 1, by omega, by go_num, by first | exact HW.out | exact HW.out.drew | exact bel_drewN HW.out _⟩
      case measure => simp [intOf]; omega
    · obtain rfl : k = M := by omega
      go_wp2_with fail
      go_ret
      exact ⟨rfl, HW.out⟩
def exT : ByteArray := ⟨#[114, 117, 108, 101, 32, 97, 32, 119, 104, 101, 110, 32, 97, 109, 111, 117, 110, 116, 32, 60, 61, 32, 49, 48, 48]⟩
def exL : List Lx := [⟨1, ⟨#[114, 117, 108, 101]⟩, 0, 0⟩, ⟨1, ⟨#[97]⟩, 0, 5⟩, ⟨1, ⟨#[119, 104, 101, 110]⟩, 0, 7⟩, ⟨1, ⟨#[97, 109, 111, 117, 110, 116]⟩, 0, 12⟩, ⟨4, ⟨#[60, 61]⟩, 0, 19⟩, ⟨2, ⟨#[]⟩, 100, 22⟩, ⟨0, ⟨#[]⟩, 0, 25⟩]
theorem exS : scS exT = ⟨exL, 0, 0⟩ := by kernel_rfl
set_option maxHeartbeats 1600000 in
theorem awake_any (w : World) (hEr : Errs w) (h5 : 5 ≤ w.heap.size) : Calls Tryd.prog 9 #[] w fun e w' => e = .returned (.bool true) ∧ Below w.heap.size w w' := by
  have SC := Lib.hid (scan_any exT (by decide) w hEr h5 exS)
  clear hEr h5
  go_enter Tryd.func9, Tryd.ntmps9
  go_wp2_with fail
  refine SC.out.mono ?_
  rintro e w1 ⟨v, rfl, ho, hb⟩
  obtain ⟨g, cap, rfl, -, hgl, hc⟩ := row_cells ho (by decide)
  have c0 := hc 16 (by decide)
  have c1 := hc 17 (by decide)
  have c2 := hc 18 (by decide)
  have c3 := hc 19 (by decide)
  have c4 := hc 20 (by decide)
  have c5 := hc 21 (by decide)
  have c6 := hc 22 (by decide)
  have c7 := hc 23 (by decide)
  have c8 := hc 24 (by decide)
  have c9 := hc 25 (by decide)
  have d0 := hc 26 (by decide)
  have d1 := hc 27 (by decide)
  simp [exL, lcells] at c0 c1 c2 c3 c4 c5 c6 c7 c8 c9 d0 d1
  have HB := Lib.hid hb
  clear hc ho hb
  go_wp2_with fail
  go_ret
  exact ⟨rfl, HB.out⟩
end Go.Proofs.YtklogijbdpghpaaDoor
