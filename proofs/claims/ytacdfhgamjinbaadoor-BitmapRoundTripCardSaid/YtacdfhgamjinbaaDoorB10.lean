/-
  CONTRACTS of bitmaps: the specification's Union.
-/
import Derived.Test.YtacdfhgamjinbaaDoorAppAny
import Derived.Deep.RegionHeld3
import Derived.Deep.DeepCutAuto
namespace Go.Proofs.YtacdfhgamjinbaaDoor
open Go.RowKit
set_option linter.unusedVariables false
theorem Below.step {B : Nat} {V W w2 : World} (h : Below B V W) (hB : B ≤ V.heap.size) (k : Below W.heap.size W w2) : Below B V w2 := h.trans (k.mono (Nat.le_trans hB h.size))
theorem Below.allocV {B : Nat} {V W : World} (h : Below B V W) (hB : B ≤ V.heap.size) (o : Obj) : Below B V (W.alloc o) := h.alloc (Nat.le_trans hB h.size) o
theorem Below.reach {B : Nat} {V W : World} (h : Below B V W) (hB : B ≤ V.heap.size) : B ≤ W.heap.size := Nat.le_trans hB h.size
theorem Below.grownV {B : Nat} {V W w' : World} {e : TypeId} {size n : Nat} {v : Value} {xs : List Value} (h : Below B V W) (hB : B ≤ V.heap.size) (ho : W.ownsRow B e size v n xs) (hg : W.grownBy w' v.ownBlock) : Below B V w' :=
  h.grown hg (Nat.le_trans hB h.size) fun k hk => (ho.lt k hk).1
theorem own_drew {w : World} {B : Nat} {e : TypeId} {size n : Nat} {v : Value} {xs : List Value} (h : w.ownsRow B e size v n xs) : w.drew.ownsRow B e size v n xs := h
theorem own_app {w : World} {B : Nat} {v : Value} {l m : List Int} (h : w.ownsRow B 3 1 v (l.length + m.length) (l.map intV ++ m.map intV)) : w.ownsRow B 3 1 v (l ++ m).length ((l ++ m).map intV) := by simpa using h
theorem ints_of_own {w : World} {B : Nat} {A : Option Addr} {c : Nat} {l : List Int} (h : w.ownsRow B 3 1 (.slice A l.length c) l.length (l.map intV)) : Ints w w.heap.size A l.length l := Reads.of_own h
theorem one_ints (l : List Int) : ∀ u ∈ l.map intV, u.oneCell' = true := by
  intro u hu
  obtain ⟨z, _, rfl⟩ := List.mem_map.1 hu
  rfl
theorem step_append_ints {ops : Array Oper} {o : Oper} {a : Act} {K : Act → World → Prop} {Q : Exit → Act → World → Prop} {E : Prop} {w : World} {B : Nat} {A1 A2 : Option Addr} {k1 k2 : Nat} {l m : List Int} (s x : Operand)
    (hgd : o.guard = none) (ho : o.op = .call { callee := .builtin .append, args := #[s, x], argTypes := #[30, 30] })
    (hs : a.eval s = .slice A1 l.length k1) (hx : a.eval x = .slice A2 m.length k2) (hown : w.ownsRow B 3 1 (.slice A1 l.length k1) l.length (l.map intV)) (hr : w.ownsRow B 3 1 (.slice A2 m.length k2) m.length (m.map intV))
    (hlen : l.length + m.length ≤ 1000000) (hbase : B ≤ w.heap.size)
    (h : ∀ A' c' w', l.length + m.length ≤ c' → w'.ownsRow B 3 1 (.slice A' (l.length + m.length) c') (l.length + m.length) ((l ++ m).map intV) → Below B w w' → (∀ g t cs, Blk w g t cs → t ≠ 3 → Blk w' g t cs) → K (a.put o.dst (.slice A' (l.length + m.length) c')) w') :
    if Region.wanted o (yielded ops a.tmps) = true then Oper.wp Tryd.prog o a w K Q else E := by
  obtain ⟨i0, hi0, hz0, hz1, hz2⟩ := info_parts int_info
  refine step_append_any w hgd s x 30 ho B 3 i0 (.int .i64 0) 1 8 Tryd.underlying30 hi0 hz0 hz1 hz2 rfl (by decide) _ l.length (l.map intV) hs hown w.heap.size A2 m.length k2 (m.map intV) hx (Reads.of_own hr) (one_ints m) (by unfold maxLen; omega) (by omega) hbase ?_
  intro v' w' ho' hg' _
  rw [← List.map_append] at ho'
  obtain ⟨A', c', rfl, hc⟩ := own_form ho'
  exact h A' c' w' hc ho' ((Below.refl _ _).grown hg' hbase fun k hk => (hown.lt k hk).1) fun g t cs hB ht => hB.grown hg' fun he => own_blk_ne hown hB (Ne.symm ht) he.symm
theorem rof_own {B n : Nat} {l : List Int} {A : Option Addr} {k x y : Nat} {w : World} (ho : w.ownsRow B 3 1 (.slice A n k) n (l.map intV)) (hk : n ≤ k) (hl : n ≤ 300) (HR : Hid (ofL l 0 0 = some (x, y))) :
    Calls Tryd.prog 22 #[.slice A n k] w fun e w' => e = .returned (.tuple #[bmV x y, .int .i64 0]) ∧ Below w.heap.size w w' :=
  rof_any A n k l w (Reads.of_own ho) hl hk HR
theorem Blk.newB {w w' : World} {t : TypeId} {cs : Array Value} (hb : Below (w.alloc (.cells cs t)).heap.size (w.alloc (.cells cs t)) w') : Blk w' w.heap.size t cs := Blk.below (Blk.new _ _ _) hb (by simp)
theorem Blk.newG {w w' : World} {t : TypeId} {cs : Array Value} {e : TypeId} {B size n : Nat} {v : Value} {xs : List Value} (ho : w.ownsRow B e size v n xs) (hb : (w.alloc (.cells cs t)).grownBy w' v.ownBlock) : Blk w' w.heap.size t cs :=
  Blk.grown (Blk.new _ _ _) hb fun h => by have := (ho.lt _ h.symm).2; omega
theorem Blk.newD {w w' : World} {t : TypeId} {cs : Array Value} (hb : Below (w.alloc (.cells cs t)).drew.heap.size (w.alloc (.cells cs t)).drew w') : Blk w' w.heap.size t cs := Blk.below (Blk.new w t cs).drew hb (by simp)
theorem Blk.set2 {w : World} {g : Nat} {t : TypeId} {p q : Value} (h : Blk w g t #[p, q]) (x y : Value) : Blk ((w.setCell ⟨g, 0, none⟩ x).setCell ⟨g, 1, none⟩ y) g t #[x, y] := (h.set_ 0 x).set_ 1 y
theorem Blk.bel {w w' : World} {g : Nat} {t : TypeId} {cs : Array Value} (h : Blk w g t cs) (hb : Below w.heap.size w w') : Blk w' g t cs := h.below hb h.lt
set_option maxHeartbeats 2000000 in
theorem runion_any (a b c d : Nat) (ha : a < 18446744073709551616) (hb : b < 18446744073709551616) (hc : c < 18446744073709551616) (hd : d < 18446744073709551616) (w : World) :
    Calls Tryd.prog 24 #[bmV a b, bmV c d] w fun e w' => e = .returned (bmV (clrN (a ||| c)) (b ||| d)) ∧ Below w.heap.size w w' := by
  have hz : ∀ w : World, (zeroValue 24).run Tryd.prog w = .ok (.agg #[.int .u64 0, .int .u64 0]) w := fun _ => by kernel_rfl
  obtain ⟨i0, hi0, hz0, hz1, hz2⟩ := info_parts int_info
  have HI0 := Lib.hid hi0
  clear hi0
  have HOF := Lib.hid (of_union a b c d hb hd)
  obtain ⟨l, hl⟩ : ∃ l, l = fl (hasN a b) 127 := ⟨_, rfl⟩
  obtain ⟨m, hm⟩ : ∃ m, m = fl (hasN c d) 127 := ⟨_, rfl⟩
  have hl1 : l.length ≤ 127 := hl ▸ fl_len _ _
  have hm1 : m.length ≤ 127 := hm ▸ fl_len _ _
  have LL := Lib.hid (fun B w (h : B ≤ w.heap.size) => hl ▸ rlist_any B a b ha hb w h)
  have MM := Lib.hid (fun B w (h : B ≤ w.heap.size) => hm ▸ rlist_any B c d hc hd w h)
  rw [← hl, ← hm] at HOF
  clear hl hm ha hb hc hd
  go_enter Tryd.func24, Tryd.ntmps24
  go_wp2_with fail
  have hA : Blk (((w.alloc (.cells #[.int .u64 (a : Int), .int .u64 (b : Int)] 24)).alloc (.cells #[.int .u64 (c : Int), .int .u64 (d : Int)] 24)).alloc (.cells #[.int .u64 0, .int .u64 0] 24)) w.heap.size 24 #[.int .u64 (a : Int), .int .u64 (b : Int)] := ((Blk.new _ _ _).alloc _).alloc _
  have hC : Blk (((w.alloc (.cells #[.int .u64 (a : Int), .int .u64 (b : Int)] 24)).alloc (.cells #[.int .u64 (c : Int), .int .u64 (d : Int)] 24)).alloc (.cells #[.int .u64 0, .int .u64 0] 24)) (w.heap.size + 1) 24 #[.int .u64 (c : Int), .int .u64 (d : Int)] := (Blk.newAt (by simp)).alloc _
  have hR : Blk (((w.alloc (.cells #[.int .u64 (a : Int), .int .u64 (b : Int)] 24)).alloc (.cells #[.int .u64 (c : Int), .int .u64 (d : Int)] 24)).alloc (.cells #[.int .u64 0, .int .u64 0] 24)) (w.heap.size + 1 + 1) 24 #[.int .u64 0, .int .u64 0] := Blk.newAt (by simp)
  have hV : (((w.alloc (.cells #[.int .u64 (a : Int), .int .u64 (b : Int)] 24)).alloc (.cells #[.int .u64 (c : Int), .int .u64 (d : Int)] 24)).alloc (.cells #[.int .u64 0, .int .u64 0] 24)).heap.size = w.heap.size + 3 := by simp
  have HW : Hid (Below w.heap.size w (((w.alloc (.cells #[.int .u64 (a : Int), .int .u64 (b : Int)] 24)).alloc (.cells #[.int .u64 (c : Int), .int .u64 (d : Int)] 24)).alloc (.cells #[.int .u64 0, .int .u64 0] 24))) := Lib.hid ((((Below.refl _ _).alloc (Nat.le_refl _) _).alloc (by simp) _).alloc (by simp; omega) _)
  have a0 := hA.cell 0
  have a1 := hA.cell 1
  have c0 := hC.cell 0
  have c1 := hC.cell 1
  generalize ((w.alloc (.cells #[.int .u64 (a : Int), .int .u64 (b : Int)] 24)).alloc (.cells #[.int .u64 (c : Int), .int .u64 (d : Int)] 24)).alloc (.cells #[.int .u64 0, .int .u64 0] 24) = V at *
  have hVB : w.heap.size + 3 ≤ V.heap.size := Nat.le_of_eq hV.symm
  have KS : Hid (∀ w', Below (w.heap.size + 3) V w' → Below (w.heap.size + 3) V w' ∧ w'.cell? ⟨w.heap.size, 0, none⟩ = some (.int .u64 (a : Int)) ∧ w'.cell? ⟨w.heap.size, 1, none⟩ = some (.int .u64 (b : Int)) ∧ w'.cell? ⟨w.heap.size + 1, 0, none⟩ = some (.int .u64 (c : Int)) ∧ w'.cell? ⟨w.heap.size + 1, 1, none⟩ = some (.int .u64 (d : Int))) :=
    Lib.hid fun w' h => ⟨h, (hA.below h (by omega)).cell 0, (hA.below h (by omega)).cell 1, (hC.below h (by omega)).cell 0, (hC.below h (by omega)).cell 1⟩
  have HR := Lib.hid hR
  have HVS := Lib.hid hV
  clear hA hC hR hV
  go_cut [5, 6] (fun s5 s6 wx => ∃ g : Nat, s5 = .pointer (some ⟨g, 0, none⟩) ∧ s6 = .int .i64 0 ∧ Blk wx g 24 #[.int .u64 (clrN (a ||| c) : Int), .int .u64 ((b ||| d : Nat) : Int)] ∧ Below (w.heap.size + 3) V wx)
  case first =>
    go_region_held3 (fun w' => Below (w.heap.size + 3) V w' ∧ w'.cell? ⟨w.heap.size, 0, none⟩ = some (.int .u64 (a : Int)) ∧ w'.cell? ⟨w.heap.size, 1, none⟩ = some (.int .u64 (b : Int)) ∧ w'.cell? ⟨w.heap.size + 1, 0, none⟩ = some (.int .u64 (c : Int)) ∧ w'.cell? ⟨w.heap.size + 1, 1, none⟩ = some (.int .u64 (d : Int))) (exact KS.out _ (by repeat (first | with_reducible assumption | with_reducible exact Below.refl _ _ | with_reducible refine Below.drew ?_ | with_reducible refine Below.allocV ?_ hVB _ | with_reducible refine Below.setCell ?_ (by first | (simp; omega) | exact Below.reach (V := V) (by repeat (first | with_reducible assumption | with_reducible exact Below.refl _ _ | with_reducible refine Below.drew ?_ | with_reducible refine Below.allocV ?_ hVB _ | with_reducible refine Below.step ?_ hVB (by assumption))) hVB) _ | with_reducible refine Below.step ?_ hVB (by assumption)))) (first
      | (go_at_call 17; (with_reducible refine (LL.out (w.heap.size + 3) _ (Below.reach (V := V) (by repeat (first | with_reducible assumption | with_reducible exact Below.refl _ _ | with_reducible refine Below.drew ?_ | with_reducible refine Below.allocV ?_ hVB _ | with_reducible refine Below.setCell ?_ (by first | (simp; omega) | exact Below.reach (V := V) (by repeat (first | with_reducible assumption | with_reducible exact Below.refl _ _ | with_reducible refine Below.drew ?_ | with_reducible refine Below.allocV ?_ hVB _ | with_reducible refine Below.step ?_ hVB (by assumption))) hVB) _ | with_reducible refine Below.step ?_ hVB (by assumption))) hVB)).mono ?_); rintro e w1 ⟨A1, k1, rfl, hk1, ho1, hb1⟩; first | (have hT1 := Lib.hid (Blk.newB hb1 : Blk w1 _ 24 #[.int .u64 0, .int .u64 0])) | (have hT1 := Lib.hid (Blk.newD hb1 : Blk w1 _ 24 #[.int .u64 0, .int .u64 0])) | skip)
      | (go_at_call 17; (with_reducible refine (MM.out (w.heap.size + 3) _ (Below.reach (V := V) (by repeat (first | with_reducible assumption | with_reducible exact Below.refl _ _ | with_reducible refine Below.drew ?_ | with_reducible refine Below.allocV ?_ hVB _ | with_reducible refine Below.setCell ?_ (by first | (simp; omega) | exact Below.reach (V := V) (by repeat (first | with_reducible assumption | with_reducible exact Below.refl _ _ | with_reducible refine Below.drew ?_ | with_reducible refine Below.allocV ?_ hVB _ | with_reducible refine Below.step ?_ hVB (by assumption))) hVB) _ | with_reducible refine Below.step ?_ hVB (by assumption))) hVB)).mono ?_); rintro e w2 ⟨A2, k2, rfl, hk2, ho2, hb2⟩; first | (have hT2 := Lib.hid (Blk.newB hb2 : Blk w2 _ 24 #[.int .u64 0, .int .u64 0])) | (have hT2 := Lib.hid (hT1.out.bel hb2 : Blk w2 _ 24 #[.int .u64 0, .int .u64 0])) | skip)
      | ((refine step_append_ints (.tmp 9) (.tmp 11) (by rfl) (by rfl) (by rfl) (by rfl) (by repeat (first | with_reducible assumption | with_reducible refine own_drew ?_ | with_reducible refine World.ownsRow.alloc ?_ _ | with_reducible refine own_below (B' := 0) ?_ (by assumption))) (by repeat (first | with_reducible assumption | with_reducible refine own_drew ?_ | with_reducible refine World.ownsRow.alloc ?_ _ | with_reducible refine own_below (B' := 0) ?_ (by assumption))) (by omega) (Below.reach (V := V) (by repeat (first | with_reducible assumption | with_reducible exact Below.refl _ _ | with_reducible refine Below.drew ?_ | with_reducible refine Below.allocV ?_ hVB _ | with_reducible refine Below.setCell ?_ (by first | (simp; omega) | exact Below.reach (V := V) (by repeat (first | with_reducible assumption | with_reducible exact Below.refl _ _ | with_reducible refine Below.drew ?_ | with_reducible refine Below.allocV ?_ hVB _ | with_reducible refine Below.step ?_ hVB (by assumption))) hVB) _ | with_reducible refine Below.step ?_ hVB (by assumption))) hVB) ?_); intro A3 k3 w3 hk3 ho3 hb3 hg3; have hB3 : Below (w.heap.size + 3) V w3 := Below.trans (by repeat (first | with_reducible assumption | with_reducible exact Below.refl _ _ | with_reducible refine Below.drew ?_ | with_reducible refine Below.allocV ?_ hVB _ | with_reducible refine Below.setCell ?_ (by first | (simp; omega) | exact Below.reach (V := V) (by repeat (first | with_reducible assumption | with_reducible exact Below.refl _ _ | with_reducible refine Below.drew ?_ | with_reducible refine Below.allocV ?_ hVB _ | with_reducible refine Below.step ?_ hVB (by assumption))) hVB) _ | with_reducible refine Below.step ?_ hVB (by assumption))) hb3; first | (have hT3 := Lib.hid (hg3 _ _ _ (Blk.new _ _ _) (by decide) : Blk w3 _ 24 #[.int .u64 0, .int .u64 0])) | (have hT3 := Lib.hid (hg3 _ _ _ hT2.out (by decide) : Blk w3 _ 24 #[.int .u64 0, .int .u64 0])) | skip)
      | (go_at_call 22; (first | (with_reducible refine (rof_own ho3 hk3 (by omega) HOF).mono ?_) | (with_reducible refine (rof_own (ho3.alloc _) hk3 (by omega) HOF).mono ?_)); rintro e w4 ⟨rfl, hb4⟩; first | (have hT4 := Lib.hid (Blk.newB hb4 : Blk w4 _ 24 #[.int .u64 0, .int .u64 0]); have hx0 := hT4.out.cell 0; have hx1 := hT4.out.cell 1; have hx2 := hT4.out.frozen 0; have hx3 := hT4.out.frozen 1) | (have hT4 := Lib.hid (hT3.out.bel hb4 : Blk w4 _ 24 #[.int .u64 0, .int .u64 0]); have hx0 := hT4.out.cell 0; have hx1 := hT4.out.cell 1; have hx2 := hT4.out.frozen 0; have hx3 := hT4.out.frozen 1) | skip)
      | fail)
    all_goals (go_wp2_with fail; go_meet; exact ⟨_, rfl, rfl, (by first | with_reducible exact Blk.new _ _ _ | with_reducible exact Blk.set2 (Blk.new _ _ _) _ _ | with_reducible exact Blk.set2 hT4.out _ _), (by repeat (first | with_reducible assumption | with_reducible exact Below.refl _ _ | with_reducible refine Below.drew ?_ | with_reducible refine Below.allocV ?_ hVB _ | with_reducible refine Below.setCell ?_ (by first | (simp; omega) | exact Below.reach (V := V) (by repeat (first | with_reducible assumption | with_reducible exact Below.refl _ _ | with_reducible refine Below.drew ?_ | with_reducible refine Below.allocV ?_ hVB _ | with_reducible refine Below.step ?_ hVB (by assumption))) hVB) _ | with_reducible refine Below.step ?_ hVB (by assumption)))⟩)
  case rest =>
    obtain ⟨g, rfl, rfl, hG, hB⟩ := hcut
    have z0 := hG.cell 0
    have z1 := hG.cell 1
    have hR := HR.out.below hB (by omega)
    have r0 := hR.cell 0
    have r1 := hR.cell 1
    have r2 := hR.frozen 0
    have r3 := hR.frozen 1
    have HB := Lib.hid hB
    have HRR := Lib.hid hR
    clear hG hB hR a0 a1 c0 c1
    go_wp2
    have hF : Blk ((wc.setCell ⟨w.heap.size + 1 + 1, 0, none⟩ (.int .u64 (clrN (a ||| c) : Int))).setCell ⟨w.heap.size + 1 + 1, 1, none⟩ (.int .u64 ((b ||| d : Nat) : Int))) (w.heap.size + 1 + 1) 24 #[.int .u64 (clrN (a ||| c) : Int), .int .u64 ((b ||| d : Nat) : Int)] := (HRR.out.set_ 0 _).set_ 1 _
    have f0 := hF.cell 0
    have f1 := hF.cell 1
    exact bodyPost_ret (v := bmV (clrN (a ||| c)) (b ||| d)) (by simp [results, Tryd.results24, go_sem, f0, f1]) rfl ⟨rfl, ((HW.out.trans (HB.out.mono (by omega))).setCell (by simp; omega) _).setCell (by simp; omega) _⟩
end Go.Proofs.YtacdfhgamjinbaaDoor
