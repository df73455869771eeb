/-
  CONTRACTS of amounts: Parse.
-/
import Derived.Test.YtompkkanckejjaaDoorMF1
namespace Go.Proofs.YtompkkanckejjaaDoor
open Go.RowKit
set_option linter.unusedVariables false
set_option linter.unusedSimpArgs false
set_option maxRecDepth 20000 in
set_option maxHeartbeats 6400000 in
theorem ud_any (s : ByteArray) (p : Nat) (hp : p ≤ 3) (hs : s.size ≤ 120) : ∃ (d : ByteArray) (b : Bool), (∀ w, Calls Tryd.prog 50 #[.string s, .int .i64 (p : Int)] w fun x w' => x = .returned (.tuple #[.string d, .bool b]) ∧ Pushed w w') ∧ (b = true → UD s p d) := by
  by_cases hok : ∃ d, UD s p d
  · obtain ⟨d, hd⟩ := hok
    obtain ⟨e, hz, hdg, hl⟩ := hd
    have hbz := body_size hz
    rw [← e] at hbz
    refine ⟨d, true, fun w => ?_, fun _ => ⟨e, hz, hdg, hl⟩⟩
    rw [e]
    exact ud_yes d p hp hz (by split at hbz <;> omega) hdg hl w
  refine ⟨⟨#[]⟩, false, fun w => ?_, fun h => by cases h⟩
  have HNO := Lib.hid hok
  clear hok
  have hsz : (s.size : Int) ≤ 120 := by omega
  have hsz0 : 0 ≤ (s.size : Int) := by omega
  by_cases p0 : p = 0
  · subst p0
    by_cases hd : 0 < s.size ∧ Dgs s
    · have D := Lib.hid (fun w => digits_any s (by omega) (b := true) (Lib.hid ⟨fun _ => hd, fun _ => rfl⟩) w)
      have hl : ¬ (s.size = 0 + 1 ∨ byt s 0 ≠ 48) := fun h => HNO.out ⟨s, by unfold bodyOf; rw [if_pos rfl], hd.1, hd.2, h⟩
      have g1 : (1 : Int) < (s.size : Int) := by omega
      have g2 : (byt s 0 == 48) = true := by simp; omega
      have ix : ∀ w, (Instr.index 9 (.string s) (.int .i64 0)).run Tryd.prog w = .ok (.int .u8 (byt s 0)) w := fun w => ix_at s 0 (by omega) rfl w
      have hb := byt_bd s 0
      clear hl hd HNO
      generalize byt s 0 = x at *
      go_enter Tryd.func50, Tryd.ntmps50
      go_wp2_with fail
      with_reducible refine (D.out _).mono ?_
      rintro z w1 ⟨rfl, rfl⟩
      go_wp2
      go_ret2
      exact ⟨rfl, (by repeat (first | with_reducible exact Pushed.refl _ | with_reducible assumption | with_reducible refine Pushed.push ?_ _ | with_reducible refine Pushed.alloc ?_ _ | with_reducible refine Pushed.drewN ?_ _ | with_reducible refine Pushed.drew ?_))⟩
    · have D := Lib.hid (fun w => digits_any s (by omega) (b := false) (Lib.hid ⟨fun h => by simp at h, fun h => absurd h hd⟩) w)
      clear hd HNO
      go_enter Tryd.func50, Tryd.ntmps50
      go_wp2_with fail
      with_reducible refine (D.out _).mono ?_
      rintro z w1 ⟨rfl, rfl⟩
      go_wp2
      go_ret2
      exact ⟨rfl, (by repeat (first | with_reducible exact Pushed.refl _ | with_reducible assumption | with_reducible refine Pushed.push ?_ _ | with_reducible refine Pushed.alloc ?_ _ | with_reducible refine Pushed.drewN ?_ _ | with_reducible refine Pushed.drew ?_))⟩
  have k3 : (0 : Int) < (p : Int) := by omega
  have k8 : (p : Int) ≤ 3 := by omega
  by_cases hz : p + 1 ≤ s.size
  case neg =>
    have g1 : (s.size : Int) - (p : Int) - 1 < 0 := by omega
    clear hz HNO
    go_enter Tryd.func50, Tryd.ntmps50
    go_wp2
    go_ret2
    exact ⟨rfl, (by repeat (first | with_reducible exact Pushed.refl _ | with_reducible assumption | with_reducible refine Pushed.push ?_ _ | with_reducible refine Pushed.alloc ?_ _ | with_reducible refine Pushed.drewN ?_ _ | with_reducible refine Pushed.drew ?_))⟩
  have k1 : (s.size : Int) - (p : Int) - 1 = ((s.size - p - 1 : Nat) : Int) := by omega
  have k4 : ¬ ((s.size - p - 1 : Nat) : Int) < 0 := by omega
  have i1 : ∀ w, (Instr.index 9 (.string s) (.int .i64 ((s.size - p - 1 : Nat) : Int))).run Tryd.prog w = .ok (.int .u8 (byt s (s.size - p - 1))) w := fun w => ix_at s (s.size - p - 1) (by omega) rfl w
  by_cases hd : byt s (s.size - p - 1) = 46
  case neg =>
    have g1 : (byt s (s.size - p - 1) != 46) = true := by simp [hd]
    have g2 : (byt s (s.size - p - 1) == 46) = false := by simp [hd]
    have hb := byt_bd s (s.size - p - 1)
    clear hd HNO hz
    generalize byt s (s.size - p - 1) = x at *
    generalize ((s.size - p - 1 : Nat) : Int) = P0 at *
    go_enter Tryd.func50, Tryd.ntmps50
    go_wp2
    go_ret2
    exact ⟨rfl, (by repeat (first | with_reducible exact Pushed.refl _ | with_reducible assumption | with_reducible refine Pushed.push ?_ _ | with_reducible refine Pushed.alloc ?_ _ | with_reducible refine Pushed.drewN ?_ _ | with_reducible refine Pushed.drew ?_))⟩
  rw [hd] at i1
  have EB := Lib.hid (body_of_parts (s := s) (p := p) (by omega) hz hd)
  have s1 : ∀ w, (Instr.slice 9 (.string s) none (some (.int .i64 ((s.size - p - 1 : Nat) : Int))) none).run Tryd.prog w = .ok (.string (s.extract 0 (s.size - p - 1))) w := fun w => sl_h s (s.size - p - 1) (by omega) rfl w
  have s2 : ∀ w, (Instr.slice 9 (.string s) (some (.int .i64 ((s.size - p - 1 + 1 : Nat) : Int))) none none).run Tryd.prog w = .ok (.string (s.extract (s.size - p - 1 + 1) s.size)) w := fun w => sl_l s (s.size - p - 1 + 1) (by omega) rfl w
  have k2 : ((s.size - p - 1 : Nat) : Int) + 1 = ((s.size - p - 1 + 1 : Nat) : Int) := by omega
  have ka : IntKind.i64.wrap (((s.size - p - 1 : Nat) : Int) + 1) = ((s.size - p - 1 + 1 : Nat) : Int) := by rw [k2]; exact IntWalk.i64_in _ (by omega)
  have k9 : ((s.size - p - 1 : Nat) : Int) ≤ 120 := by omega
  have za : (s.extract 0 (s.size - p - 1)).size = s.size - p - 1 := by rw [size_extract' _ _ _ (by omega)]; omega
  have zb : (s.extract (s.size - p - 1 + 1) s.size).size = p := by rw [size_extract' _ _ _ (Nat.le_refl _)]; omega
  have kz : ((s.extract 0 (s.size - p - 1)).size : Int) = ((s.size - p - 1 : Nat) : Int) := by omega
  have i2 : 0 < s.size - p - 1 → ∀ w, (Instr.index 9 (.string (s.extract 0 (s.size - p - 1))) (.int .i64 0)).run Tryd.prog w = .ok (.int .u8 (byt (s.extract 0 (s.size - p - 1)) 0)) w := fun h w => ix_at _ 0 (by omega) rfl w
  have P0n : 0 < s.size - p - 1 ∨ s.size - p - 1 = 0 := by omega
  have hPI : ((s.size - p - 1 : Nat) : Int) = ((s.size - p - 1 : Nat) : Int) := rfl
  generalize hPn : s.size - p - 1 = Pn at *
  generalize s.extract 0 Pn = W at *
  generalize s.extract (Pn + 1) s.size = F at *
  by_cases hF : Dgs F
  case neg =>
    have D1 := Lib.hid (fun w => digits_any F (by omega) (b := false) (Lib.hid ⟨fun h => by simp at h, fun h => absurd h.2 hF⟩) w)
    clear hF HNO hPI i2 P0n kz hPn za zb EB hd
    generalize ((Pn + 1 : Nat) : Int) = P1 at *
    generalize (Pn : Int) = P0 at *
    go_enter Tryd.func50, Tryd.ntmps50
    go_wp2_with fail
    go_quiet (fail)
    go_wp2_with fail
    with_reducible refine (D1.out _).mono ?_
    rintro z w1 ⟨rfl, rfl⟩
    go_wp2
    go_ret2
    exact ⟨rfl, (by repeat (first | with_reducible exact Pushed.refl _ | with_reducible assumption | with_reducible refine Pushed.push ?_ _ | with_reducible refine Pushed.alloc ?_ _ | with_reducible refine Pushed.drewN ?_ _ | with_reducible refine Pushed.drew ?_))⟩
  have D1 := Lib.hid (fun w => digits_any F (by omega) (b := true) (Lib.hid ⟨fun _ => ⟨by omega, hF⟩, fun _ => rfl⟩) w)
  by_cases hW : 0 < W.size ∧ Dgs W
  case neg =>
    have D2 := Lib.hid (fun w => digits_any W (by omega) (b := false) (Lib.hid ⟨fun h => by simp at h, fun h => absurd h hW⟩) w)
    clear hF hW HNO hPI i2 P0n kz hPn za zb EB hd
    generalize ((Pn + 1 : Nat) : Int) = P1 at *
    generalize (Pn : Int) = P0 at *
    go_enter Tryd.func50, Tryd.ntmps50
    go_wp2_with fail
    go_quiet (fail)
    go_wp2_with fail
    with_reducible refine (D1.out _).mono ?_
    rintro z w1 ⟨rfl, rfl⟩
    go_wp2_with fail
    with_reducible refine (D2.out _).mono ?_
    rintro z w1 ⟨rfl, rfl⟩
    go_wp2
    go_ret2
    exact ⟨rfl, (by repeat (first | with_reducible exact Pushed.refl _ | with_reducible assumption | with_reducible refine Pushed.push ?_ _ | with_reducible refine Pushed.alloc ?_ _ | with_reducible refine Pushed.drewN ?_ _ | with_reducible refine Pushed.drew ?_))⟩
  have D2 := Lib.hid (fun w => digits_any W (by omega) (b := true) (Lib.hid ⟨fun _ => hW, fun _ => rfl⟩) w)
  have hl : ¬ (Pn = 1 ∨ byt W 0 ≠ 48) := fun h => HNO.out ⟨W ++ F, EB.out, by rw [app_size]; omega, dgs_app hW.2 hF, by
    rcases h with h | h
    · left; rw [app_size]; omega
    · right; rw [byt_left _ _ _ hW.1]; exact h⟩
  have i3 := i2 (by omega)
  have g1 : (1 : Int) < (Pn : Int) := by omega
  have g2 : (byt W 0 == 48) = true := by simp; omega
  have hb := byt_bd W 0
  clear hF hW HNO hPI i2 P0n hPn za zb EB hd hl
  generalize byt W 0 = x at *
  generalize ((Pn + 1 : Nat) : Int) = P1 at *
  generalize (Pn : Int) = P0 at *
  go_enter Tryd.func50, Tryd.ntmps50
  go_wp2_with fail
  go_quiet (fail)
  go_wp2_with fail
  with_reducible refine (D1.out _).mono ?_
  rintro z w1 ⟨rfl, rfl⟩
  go_wp2_with fail
  with_reducible refine (D2.out _).mono ?_
  rintro z w1 ⟨rfl, rfl⟩
  go_wp2
  go_ret2
  exact ⟨rfl, (by repeat (first | with_reducible exact Pushed.refl _ | with_reducible assumption | with_reducible refine Pushed.push ?_ _ | with_reducible refine Pushed.alloc ?_ _ | with_reducible refine Pushed.drewN ?_ _ | with_reducible refine Pushed.drew ?_))⟩
end Go.Proofs.YtompkkanckejjaaDoor
