/-
  CONTRACTS of velocity: remove.
-/
import Derived.Test.YtkfiekpinojahabVK2
namespace Go.Proofs.Ytkfiekpinojahab
open Go.RowKit
set_option linter.unusedVariables false
set_option linter.unusedSimpArgs false
theorem okU_rm {us : List UR} {f u : Nat} (h : ∀ x ∈ us, okU x) : ∀ x ∈ rmU us f u, okU x := fun x hx => by
  rcases List.mem_append.1 hx with h1 | h1
  · exact h x (List.mem_of_mem_take h1)
  · exact h x (List.mem_of_mem_drop h1)
theorem rmU_zero (us : List UR) (k : Nat) : rmU us 0 k = us.drop k := by simp [rmU]
set_option maxHeartbeats 1600000 in
theorem remove_any {K D : Nat} {v : Value} {s : VS} {w : World} (hr : Rep w K D v s) (f u : Nat) (hfu : f ≤ u) (hu : u ≤ s.us.length) (hf0 : f = 0 ∨ f < s.us.length) : Calls Try.prog 27 #[.pointer (some ⟨D, 0, none⟩), .int .i64 (f : Int), .int .i64 (u : Int)] w fun e w' => e = .returned (.tuple #[]) ∧ ∃ v', Left w w' K D v v' { s with us := rmU s.us f u } := by
  obtain ⟨A, cap, rfl, hcap, hmax, hA⟩ := row_form hr.row
  have hd := hr.win
  have hlt := hd.lt
  have d2 := hd.cell 2
  simp at d2
  have f2 := hd.frozen 2
  have HR := Lib.hid hr
  rcases hA with ⟨rfl, hU, rfl⟩ | ⟨g, rfl⟩
  · have hu0 : u = 0 := by omega
    have hf : f = 0 := by omega
    subst hu0 hf
    obtain ⟨i, hi, hz, hz1, hz2⟩ := info_parts use_info
    have hcp : ∀ W, (Builtin.copy_ #[50, 50] 3 #[.slice none 0 0, .slice none 0 0]).run Try.prog W = .ok (.int .i64 0) W := fun W => run_copy_nils W _ _ _ 59 3 Try.underlying50 (by rw [hi]; simp [hz1])
    have hs1 : ∀ W, (Instr.slice 50 (.slice none 0 0) (some (.int .i64 0)) none none).run Try.prog W = .ok (.slice none 0 0) W := fun W => by kernel_rfl
    have hs2 : ∀ W, (Instr.slice 50 (.slice none 0 0) none (some (.int .i64 0)) none).run Try.prog W = .ok (.slice none 0 0) W := fun W => by kernel_rfl
    rw [hU] at d2
    have HU := Lib.hid hU
    have hrm : rmU s.us 0 0 = s.us := by rw [rmU_zero]; rfl
    have HRM := Lib.hid hrm
    clear hr hd hU hu hfu hf0 hi hz hz1 hz2 hrm
    go_enter Try.func27, Try.ntmps27
    go_wp2_with fail
    go_region
    go_wp2
    go_end0
    have hr := HR.out
    refine ⟨rfl, .slice none 0 0, ⟨?_, ?_, by simp [Value.ownBlock], hr.kd, hr.lh, hr.hh, hr.ll, hr.hl, by rw [HRM.out]; exact hr.lu, by rw [HRM.out]; exact hr.ok⟩, ((Kp.refl (Own D (.slice none s.us.length 0)) w).set (p := ⟨D, 2, none⟩) (.inl (.inl rfl)) _).drew, fun k hk => by cases hk⟩
    · exact (hr.win.set_ 2 _).drew
    · rw [HRM.out]
      have h2 := row_of (b := (w.setCell ⟨D, 2, none⟩ (.slice none 0 0)).drew) hr.row (fun k hk => by cases hk)
      show World.ownsRow _ K _ 3 (.slice none 0 0) s.us.length (ucells s.us)
      rw [HU.out] at h2 ⊢
      exact h2
  · have hne : g ≠ D := fun e => hr.dv (e ▸ rfl)
    obtain ⟨w2, hcp, ho, hk⟩ := copy_use (w := w.drew) (row_drew hr.row) f u hfu hu hf0
    have hs1 := sl_low g f s.us.length cap (by omega)
    have hs2 := sl_low g u s.us.length cap hu
    have hs3 := sl_high g (f + (s.us.length - u)) s.us.length cap (by omega)
    have hd2 : Blk w2 D 52 _ := hk.blk hd.drew (fun e => hne e.symm)
    have q2 := hd2.cell 2
    simp at q2
    have qf2 := hd2.frozen 2
    have hlt2 := hd2.lt
    have hsum : (f : Int) + ((s.us.length - u : Nat) : Int) = ((f + (s.us.length - u) : Nat) : Int) := by omega
    have hlu := hr.lu
    have HO := Lib.hid ho
    have HK := Lib.hid hk
    have HD2 := Lib.hid hd2
    have HL := Lib.hid (rmU_len s.us hfu hu)
    generalize hn : s.us.length - u = n at *
    generalize hN : f + n = N at *
    have hNle : N ≤ 1000 := by omega
    generalize (if cap = f then (⟨g, 0, none⟩ : Addr) else ⟨g, f * 3, none⟩) = a1 at hs1 hcp
    generalize (if cap = u then (⟨g, 0, none⟩ : Addr) else ⟨g, u * 3, none⟩) = a2 at hs2 hcp
    have HNE := Lib.hid hne
    clear hr hd ho hk hd2 hfu hu hf0 hcap hmax hn hne
    go_enter Try.func27, Try.ntmps27
    go_wp2_with fail
    go_region
    go_wp2
    go_end0
    have hr := HR.out
    refine ⟨rfl, .slice (some ⟨g, 0, none⟩) N cap, ⟨HD2.out.set_ 2 _, ?_, hr.dv, hr.kd, hr.lh, hr.hh, hr.ll, hr.hl, ?_, okU_rm hr.ok⟩, ?_, fun k hk => .inl hk⟩
    · simp only [HL.out]
      exact row_set HO.out (p := ⟨D, 2, none⟩) (fun e => HNE.out (by injection e)) _
    · simp only [HL.out]
      exact hNle
    · exact (((Kp.refl (fun k => k = g) w).drew.trans HK.out).weak (S' := Own D (.slice (some ⟨g, 0, none⟩) s.us.length cap)) (fun i hi => .inr (by rw [hi]; rfl))).set (p := ⟨D, 2, none⟩) (.inl (.inl rfl)) _
end Go.Proofs.Ytkfiekpinojahab
