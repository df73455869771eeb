/-
  CONTRACTS of Raise, Reverse, Expire and Clear, all ways of each together; and of the law's own 'step', which picks one of them by the operation's kind.
-/
import Derived.Test.YtmigodjkenhedaaAuth7c
namespace Go.Proofs.Ytmigodjkenhedaa
open Go.RowKit
set_option linter.unusedVariables false
def stepR (c : Int) (id cur : ByteArray) (ap rv cl ex st at_ un pa : Int) (kd am t : Int) (fin : Bool) : AuR :=
  if kd % 4 = 1 then raiseR c id cur ap rv cl ex st at_ un pa am t else if kd % 4 = 2 then reverseR c id cur ap rv cl ex st at_ un pa am else
  if kd % 4 = 3 then expireR c id cur ap rv cl ex st at_ un pa t else clearR c id cur ap rv cl ex st at_ un pa am fin
theorem openE_zero {k s : Int} (h : openE k s = 0) : k = 0 ∧ s = 1 := by unfold openE at h; by_cases h0 : k = 0 <;> by_cases h1 : s = 1 <;> simp_all
section
variable (id cur : ByteArray) (ap rv cl ex st at_ un pa : Int) (w : World)
theorem raise_is {c : Int} {r : AuR} (amount til : Int) (hi : id.size ≤ maxLen) (hcu : cur.size ≤ maxLen) (HC : Hid (c = openE (auCheck (identB id.data.toList 16) (curB cur.data.toList) ap rv cl ex st at_ un pa) st)) (HR : Hid (r = raiseR c id cur ap rv cl ex st at_ un pa amount til)) :
    Calls Try.prog 22 #[auV id cur ap rv cl ex st at_ un pa, .int .i64 amount, .int .i64 til] w fun e w' => e = .returned (.tuple #[r.v, .int .i64 r.err]) ∧ Pushed w w' := by
  obtain rfl := HR.out
  clear HR
  by_cases h0 : c = 0
  · subst h0
    obtain ⟨k0, rfl⟩ := openE_zero HC.out.symm
    obtain ⟨ka, kr, kc, ke, kl, kt, kp, ks, ko⟩ := (auCheck_zero.1 k0).2.2
    by_cases g1 : amount < 1 ∨ 999999999999 - ap < amount
    · have e : raiseR 0 id cur ap rv cl ex 1 at_ un pa amount til = .bad 4 := by unfold raiseR; rw [if_neg (by omega), if_pos g1]
      rw [e]; exact raise_range id cur ap rv cl ex 1 at_ un pa w amount til hi hcu HC ka kr kc ke kl g1
    by_cases g2 : til < un ∨ 1099511627776 < til
    · have e : raiseR 0 id cur ap rv cl ex 1 at_ un pa amount til = .bad 14 := by unfold raiseR; rw [if_neg (by omega), if_neg g1, if_pos g2]
      rw [e]; exact raise_time id cur ap rv cl ex 1 at_ un pa w amount til hi hcu HC ka kr kc ke kl (by omega) (by omega) g2
    have e : raiseR 0 id cur ap rv cl ex 1 at_ un pa amount til = ⟨id, cur, ap + amount, rv, cl, ex, 1, at_, til, pa, 0, 0, 0⟩ := by unfold raiseR; rw [if_neg (by omega), if_neg g1, if_neg g2]
    rw [e]; exact raise_ok id cur ap rv cl ex 1 at_ un pa w amount til hi hcu HC ka kr kc ke kl (by omega) (by omega) (by omega) (by omega)
  · have h1 : (c != 0) = true := by simp [h0]
    have e : raiseR c id cur ap rv cl ex st at_ un pa amount til = .bad c := by unfold raiseR; rw [if_pos h0]
    rw [e]
    exact raise_err id cur ap rv cl ex st at_ un pa w amount til hi hcu HC h1
theorem reverse_is {c : Int} {r : AuR} (amount : Int) (hi : id.size ≤ maxLen) (hcu : cur.size ≤ maxLen) (HC : Hid (c = openE (auCheck (identB id.data.toList 16) (curB cur.data.toList) ap rv cl ex st at_ un pa) st)) (HR : Hid (r = reverseR c id cur ap rv cl ex st at_ un pa amount)) :
    Calls Try.prog 23 #[auV id cur ap rv cl ex st at_ un pa, .int .i64 amount] w fun e w' => e = .returned (.tuple #[r.v, .int .i64 r.n2, .int .i64 r.err]) ∧ Pushed w w' := by
  obtain rfl := HR.out
  clear HR
  by_cases h0 : c = 0
  · subst h0
    obtain ⟨k0, rfl⟩ := openE_zero HC.out.symm
    obtain ⟨ka, kr, kc, ke, kl, kt, kp, ks, ko⟩ := (auCheck_zero.1 k0).2.2
    by_cases g1 : amount < 0 ∨ ap - rv - cl - ex < amount
    · have e : reverseR 0 id cur ap rv cl ex 1 at_ un pa amount = .bad 4 := by unfold reverseR; rw [if_neg (by omega), if_pos g1]
      rw [e]; exact reverse_range id cur ap rv cl ex 1 at_ un pa w amount hi hcu HC ka kr kc ke kl g1
    by_cases g2 : amount = 0
    · subst g2
      have e : reverseR 0 id cur ap rv cl ex 1 at_ un pa 0 = ⟨id, cur, ap, rv + (ap - rv - cl - ex), cl, ex, auState ap (rv + (ap - rv - cl - ex)) cl ex, at_, un, pa, 0, ap - rv - cl - ex, 0⟩ := by unfold reverseR; rw [if_neg (by omega), if_neg g1, if_pos rfl]
      rw [e]; exact reverse_all id cur ap rv cl ex 1 at_ un pa w hi hcu HC ka kr kc ke kl
    have e : reverseR 0 id cur ap rv cl ex 1 at_ un pa amount = ⟨id, cur, ap, rv + amount, cl, ex, auState ap (rv + amount) cl ex, at_, un, pa, 0, amount, 0⟩ := by unfold reverseR; rw [if_neg (by omega), if_neg g1, if_neg g2]
    rw [e]; exact reverse_some id cur ap rv cl ex 1 at_ un pa w amount hi hcu HC ka kr kc ke kl (by omega) (by omega) (by simp [g2])
  · have h1 : (c != 0) = true := by simp [h0]
    have e : reverseR c id cur ap rv cl ex st at_ un pa amount = .bad c := by unfold reverseR; rw [if_pos h0]
    rw [e]
    exact reverse_err id cur ap rv cl ex st at_ un pa w amount hi hcu HC h1
theorem expire_is {c : Int} {r : AuR} (time : Int) (hi : id.size ≤ maxLen) (hcu : cur.size ≤ maxLen) (HC : Hid (c = openE (auCheck (identB id.data.toList 16) (curB cur.data.toList) ap rv cl ex st at_ un pa) st)) (HR : Hid (r = expireR c id cur ap rv cl ex st at_ un pa time)) :
    Calls Try.prog 24 #[auV id cur ap rv cl ex st at_ un pa, .int .i64 time] w fun e w' => e = .returned (.tuple #[r.v, .int .i64 r.n2, .int .i64 r.err]) ∧ Pushed w w' := by
  obtain rfl := HR.out
  clear HR
  by_cases h0 : c = 0
  · subst h0
    obtain ⟨k0, rfl⟩ := openE_zero HC.out.symm
    obtain ⟨ka, kr, kc, ke, kl, kt, kp, ks, ko⟩ := (auCheck_zero.1 k0).2.2
    by_cases g1 : time < un
    · have e : expireR 0 id cur ap rv cl ex 1 at_ un pa time = .bad 14 := by unfold expireR; rw [if_neg (by omega), if_pos g1]
      rw [e]; exact expire_time id cur ap rv cl ex 1 at_ un pa w time hi hcu HC ka kr kc ke kl g1
    have e : expireR 0 id cur ap rv cl ex 1 at_ un pa time = ⟨id, cur, ap, rv, cl, ex + (ap - rv - cl - ex), auState ap rv cl (ex + (ap - rv - cl - ex)), at_, un, pa, 0, ap - rv - cl - ex, 0⟩ := by unfold expireR; rw [if_neg (by omega), if_neg g1]
    rw [e]; exact expire_ok id cur ap rv cl ex 1 at_ un pa w time hi hcu HC ka kr kc ke kl (by omega)
  · have h1 : (c != 0) = true := by simp [h0]
    have e : expireR c id cur ap rv cl ex st at_ un pa time = .bad c := by unfold expireR; rw [if_pos h0]
    rw [e]
    exact expire_err id cur ap rv cl ex st at_ un pa w time hi hcu HC h1
theorem clear_is {c : Int} {r : AuR} (amount : Int) (fin : Bool) (hi : id.size ≤ maxLen) (hcu : cur.size ≤ maxLen) (HC : Hid (c = openE (auCheck (identB id.data.toList 16) (curB cur.data.toList) ap rv cl ex st at_ un pa) st)) (HR : Hid (r = clearR c id cur ap rv cl ex st at_ un pa amount fin)) :
    Calls Try.prog 19 #[auV id cur ap rv cl ex st at_ un pa, .int .i64 amount, .bool fin] w fun e w' => e = .returned (.tuple #[r.v, .int .i64 r.n1, .int .i64 r.n2, .int .i64 r.err]) ∧ Pushed w w' := by
  obtain rfl := HR.out
  clear HR
  by_cases h0 : c = 0
  · subst h0
    obtain ⟨k0, rfl⟩ := openE_zero HC.out.symm
    obtain ⟨ka, kr, kc, ke, kl, kt, kp, ks, ko⟩ := (auCheck_zero.1 k0).2.2
    by_cases g1 : amount < 1 ∨ 999999999999 < amount
    · have e : clearR 0 id cur ap rv cl ex 1 at_ un pa amount fin = .bad 4 := by unfold clearR; rw [if_neg (by omega), if_pos g1]
      rw [e]; exact clear_range id cur ap rv cl ex 1 at_ un pa w amount fin hi hcu HC ka kr kc ke kl g1
    by_cases g2 : 8 ≤ pa
    · have e : clearR 0 id cur ap rv cl ex 1 at_ un pa amount fin = .bad 10 := by unfold clearR; rw [if_neg (by omega), if_neg g1, if_pos g2]
      rw [e]; exact clear_limit id cur ap rv cl ex 1 at_ un pa w amount fin hi hcu HC ka kr kc ke kl (by omega) (by omega) g2
    by_cases g3 : amount ≤ ap - rv - cl - ex
    · have eu : usedN ap rv cl ex amount = amount := by unfold usedN; omega
      cases fin
      · have e : clearR 0 id cur ap rv cl ex 1 at_ un pa amount false = ⟨id, cur, ap, rv, cl + amount, ex, auState ap rv (cl + amount) ex, at_, un, pa + 1, amount, 0, 0⟩ := by unfold clearR; rw [if_neg (by omega), if_neg g1, if_neg g2, eu]; rfl
        rw [e]; exact clear_part_a id cur ap rv cl ex 1 at_ un pa w amount hi hcu HC ka kr kc ke kl (by omega) (by omega) (by omega) (by omega) g3
      · have e : clearR 0 id cur ap rv cl ex 1 at_ un pa amount true = ⟨id, cur, ap, rv + (ap - rv - (cl + amount) - ex), cl + amount, ex, auState ap (rv + (ap - rv - (cl + amount) - ex)) (cl + amount) ex, at_, un, pa + 1, amount, ap - rv - (cl + amount) - ex, 0⟩ := by unfold clearR; rw [if_neg (by omega), if_neg g1, if_neg g2, eu]; rfl
        rw [e]; exact clear_last_a id cur ap rv cl ex 1 at_ un pa w amount hi hcu HC ka kr kc ke kl (by omega) (by omega) (by omega) (by omega) g3
    · have eu : usedN ap rv cl ex amount = ap - rv - cl - ex := by unfold usedN; omega
      cases fin
      · have e : clearR 0 id cur ap rv cl ex 1 at_ un pa amount false = ⟨id, cur, ap, rv, cl + (ap - rv - cl - ex), ex, auState ap rv (cl + (ap - rv - cl - ex)) ex, at_, un, pa + 1, ap - rv - cl - ex, 0, 0⟩ := by unfold clearR; rw [if_neg (by omega), if_neg g1, if_neg g2, eu]; rfl
        rw [e]; exact clear_part_b id cur ap rv cl ex 1 at_ un pa w amount hi hcu HC ka kr kc ke kl (by omega) (by omega) (by omega) (by omega) (by omega)
      · have e : clearR 0 id cur ap rv cl ex 1 at_ un pa amount true = ⟨id, cur, ap, rv + (ap - rv - (cl + (ap - rv - cl - ex)) - ex), cl + (ap - rv - cl - ex), ex, auState ap (rv + (ap - rv - (cl + (ap - rv - cl - ex)) - ex)) (cl + (ap - rv - cl - ex)) ex, at_, un, pa + 1, ap - rv - cl - ex, ap - rv - (cl + (ap - rv - cl - ex)) - ex, 0⟩ := by unfold clearR; rw [if_neg (by omega), if_neg g1, if_neg g2, eu]; rfl
        rw [e]; exact clear_last_b id cur ap rv cl ex 1 at_ un pa w amount hi hcu HC ka kr kc ke kl (by omega) (by omega) (by omega) (by omega) (by omega)
  · have h1 : (c != 0) = true := by simp [h0]
    have e : clearR c id cur ap rv cl ex st at_ un pa amount fin = .bad c := by unfold clearR; rw [if_pos h0]
    rw [e]
    exact clear_err id cur ap rv cl ex st at_ un pa w amount fin hi hcu HC h1
end
theorem raise_n1 {c : Int} {id cur : ByteArray} {ap rv cl ex st at_ un pa a t : Int} {r : AuR} (h : r = raiseR c id cur ap rv cl ex st at_ un pa a t) : r.n1 = 0 := by subst h; unfold raiseR; (repeat' split) <;> rfl
theorem raise_n2 {c : Int} {id cur : ByteArray} {ap rv cl ex st at_ un pa a t : Int} {r : AuR} (h : r = raiseR c id cur ap rv cl ex st at_ un pa a t) : r.n2 = 0 := by subst h; unfold raiseR; (repeat' split) <;> rfl
theorem reverse_n1 {c : Int} {id cur : ByteArray} {ap rv cl ex st at_ un pa a : Int} {r : AuR} (h : r = reverseR c id cur ap rv cl ex st at_ un pa a) : r.n1 = 0 := by subst h; unfold reverseR; (repeat' split) <;> rfl
theorem expire_n1 {c : Int} {id cur : ByteArray} {ap rv cl ex st at_ un pa a : Int} {r : AuR} (h : r = expireR c id cur ap rv cl ex st at_ un pa a) : r.n1 = 0 := by subst h; unfold expireR; (repeat' split) <;> rfl
set_option maxHeartbeats 1000000 in
theorem step_is (id cur : ByteArray) (ap rv cl ex st at_ un pa : Int) (w : World) {c : Int} {r : AuR} (kd am t : Int) (fin : Bool) (hi : id.size ≤ maxLen) (hcu : cur.size ≤ maxLen) (hkd : 0 ≤ kd ∧ kd ≤ 255) (HC : Hid (c = openE (auCheck (identB id.data.toList 16) (curB cur.data.toList) ap rv cl ex st at_ un pa) st)) (HR : Hid (r = stepR c id cur ap rv cl ex st at_ un pa kd am t fin)) :
    Calls Try.prog 11 #[auV id cur ap rv cl ex st at_ un pa, .agg #[.int .u8 kd, .int .i64 am, .int .i64 t, .bool fin]] w fun e w' => e = .returned (.tuple #[r.v, .int .i64 r.n1, .int .i64 r.n2, .int .i64 r.err]) ∧ Pushed w w' := by
  have hk : 0 ≤ kd % 4 ∧ kd % 4 < 4 := by omega
  by_cases g1 : kd % 4 = 1
  · have HR1 : Hid (r = raiseR c id cur ap rv cl ex st at_ un pa am t) := by rw [HR.out]; unfold stepR; rw [if_pos g1]; exact rfl
    have b1 : ((kd % 4) == 1) = true := by simp [g1]
    clear g1 HR
    go_enter Try.func11, Try.ntmps11
    go_wp2_with (go_at_call 22; refine (raise_is _ _ _ _ _ _ _ _ _ _ _ _ _ hi hcu HC HR1).mono ?_; rintro e w1 ⟨rfl, l1, n1, rfl⟩)
    exact bodyPost_ret (v := .tuple #[r.v, .int .i64 0, .int .i64 0, .int .i64 r.err]) (by simp [results, Try.results11, go_sem]) rfl ⟨by rw [raise_n1 HR1.out, raise_n2 HR1.out], (by repeat (first | with_reducible exact Pushed.refl _ | with_reducible assumption | with_reducible refine Pushed.push ?_ _ | with_reducible refine Pushed.alloc ?_ _ | with_reducible refine Pushed.drewN ?_ _ | with_reducible refine Pushed.drew ?_))⟩
  have b1 : ((kd % 4) == 1) = false := by simp [g1]
  by_cases g2 : kd % 4 = 2
  · have HR1 : Hid (r = reverseR c id cur ap rv cl ex st at_ un pa am) := by rw [HR.out]; unfold stepR; rw [if_neg g1, if_pos g2]; exact rfl
    have b2 : ((kd % 4) == 2) = true := by simp [g2]
    clear g1 g2 HR
    go_enter Try.func11, Try.ntmps11
    go_wp2_with (go_at_call 23; refine (reverse_is _ _ _ _ _ _ _ _ _ _ _ _ hi hcu HC HR1).mono ?_; rintro e w1 ⟨rfl, l1, n1, rfl⟩)
    exact bodyPost_ret (v := .tuple #[r.v, .int .i64 0, .int .i64 r.n2, .int .i64 r.err]) (by simp [results, Try.results11, go_sem]) rfl ⟨by rw [reverse_n1 HR1.out], (by repeat (first | with_reducible exact Pushed.refl _ | with_reducible assumption | with_reducible refine Pushed.push ?_ _ | with_reducible refine Pushed.alloc ?_ _ | with_reducible refine Pushed.drewN ?_ _ | with_reducible refine Pushed.drew ?_))⟩
  have b2 : ((kd % 4) == 2) = false := by simp [g2]
  by_cases g3 : kd % 4 = 3
  · have HR1 : Hid (r = expireR c id cur ap rv cl ex st at_ un pa t) := by rw [HR.out]; unfold stepR; rw [if_neg g1, if_neg g2, if_pos g3]; exact rfl
    have b3 : ((kd % 4) == 3) = true := by simp [g3]
    clear g1 g2 g3 HR
    go_enter Try.func11, Try.ntmps11
    go_wp2_with (go_at_call 24; refine (expire_is _ _ _ _ _ _ _ _ _ _ _ _ hi hcu HC HR1).mono ?_; rintro e w1 ⟨rfl, l1, n1, rfl⟩)
    exact bodyPost_ret (v := .tuple #[r.v, .int .i64 0, .int .i64 r.n2, .int .i64 r.err]) (by simp [results, Try.results11, go_sem]) rfl ⟨by rw [expire_n1 HR1.out], (by repeat (first | with_reducible exact Pushed.refl _ | with_reducible assumption | with_reducible refine Pushed.push ?_ _ | with_reducible refine Pushed.alloc ?_ _ | with_reducible refine Pushed.drewN ?_ _ | with_reducible refine Pushed.drew ?_))⟩
  have b3 : ((kd % 4) == 3) = false := by simp [g3]
  have HR1 : Hid (r = clearR c id cur ap rv cl ex st at_ un pa am fin) := by rw [HR.out]; unfold stepR; rw [if_neg g1, if_neg g2, if_neg g3]; exact rfl
  clear g1 g2 g3 HR
  go_enter Try.func11, Try.ntmps11
  go_wp2_with (go_at_call 19; refine (clear_is _ _ _ _ _ _ _ _ _ _ _ _ _ hi hcu HC HR1).mono ?_; rintro e w1 ⟨rfl, l1, n1, rfl⟩)
  exact bodyPost_ret (v := .tuple #[r.v, .int .i64 r.n1, .int .i64 r.n2, .int .i64 r.err]) (by simp [results, Try.results11, go_sem]) rfl ⟨rfl, (by repeat (first | with_reducible exact Pushed.refl _ | with_reducible assumption | with_reducible refine Pushed.push ?_ _ | with_reducible refine Pushed.alloc ?_ _ | with_reducible refine Pushed.drewN ?_ _ | with_reducible refine Pushed.drew ?_))⟩
end Go.Proofs.Ytmigodjkenhedaa
