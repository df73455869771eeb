/-
  CONTRACTS of the program's calls that change an authorization: Raise, Reverse, Clear, Expire: each by a plain function of the fields.
-/
import Derived.Test.YtmigodjkenhedaaAuth6
import Derived.Deep.RegionWith
namespace Go.Proofs.Ytmigodjkenhedaa
open Go.RowKit
set_option linter.unusedVariables false

def raiseR (c : Int) (id cur : ByteArray) (ap rv cl ex st at_ un pa amount til : Int) : AuR :=
  if c ≠ 0 then .bad c else if amount < 1 ∨ 999999999999 - ap < amount then .bad 4 else if til < un ∨ 1099511627776 < til then .bad 14 else
  ⟨id, cur, ap + amount, rv, cl, ex, st, at_, til, pa, 0, 0, 0⟩
def reverseR (c : Int) (id cur : ByteArray) (ap rv cl ex st at_ un pa amount : Int) : AuR :=
  if c ≠ 0 then .bad c else if amount < 0 ∨ ap - rv - cl - ex < amount then .bad 4 else
  if amount = 0 then ⟨id, cur, ap, rv + (ap - rv - cl - ex), cl, ex, auState ap (rv + (ap - rv - cl - ex)) cl ex, at_, un, pa, 0, ap - rv - cl - ex, 0⟩ else
  ⟨id, cur, ap, rv + amount, cl, ex, auState ap (rv + amount) cl ex, at_, un, pa, 0, amount, 0⟩
def expireR (c : Int) (id cur : ByteArray) (ap rv cl ex st at_ un pa time : Int) : AuR :=
  if c ≠ 0 then .bad c else if time < un then .bad 14 else
  ⟨id, cur, ap, rv, cl, ex + (ap - rv - cl - ex), auState ap rv cl (ex + (ap - rv - cl - ex)), at_, un, pa, 0, ap - rv - cl - ex, 0⟩
def usedN (ap rv cl ex amount : Int) : Int := min amount (ap - rv - cl - ex)
def clearR (c : Int) (id cur : ByteArray) (ap rv cl ex st at_ un pa amount : Int) (final : Bool) : AuR :=
  if c ≠ 0 then .bad c else if amount < 1 ∨ 999999999999 < amount then .bad 4 else if 8 ≤ pa then .bad 10 else
  if final then ⟨id, cur, ap, rv + (ap - rv - (cl + usedN ap rv cl ex amount) - ex), cl + usedN ap rv cl ex amount, ex, auState ap (rv + (ap - rv - (cl + usedN ap rv cl ex amount) - ex)) (cl + usedN ap rv cl ex amount) ex, at_, un, pa + 1, usedN ap rv cl ex amount, ap - rv - (cl + usedN ap rv cl ex amount) - ex, 0⟩ else
  ⟨id, cur, ap, rv, cl + usedN ap rv cl ex amount, ex, auState ap rv (cl + usedN ap rv cl ex amount) ex, at_, un, pa + 1, usedN ap rv cl ex amount, 0, 0⟩

theorem results_tmp4 {fn : Func} {t u v x : Tmp} (h : fn.results = #[.tmp t, .tmp u, .tmp v, .tmp x]) (tmps : Array Value) (P : Program) (w : World) :
    (results fn tmps).run P w = .ok (.tuple #[tmps.getD t undef, tmps.getD u undef, tmps.getD v undef, tmps.getD x undef]) w := by simp [results, h]
section
variable (id cur : ByteArray) (ap rv cl ex st at_ un pa : Int) (w : World)
set_option maxHeartbeats 1000000 in
theorem raise_err (amount til : Int) {c : Int} (hi : id.size ≤ maxLen) (hcu : cur.size ≤ maxLen) (HC : Hid (c = openE (auCheck (identB id.data.toList 16) (curB cur.data.toList) ap rv cl ex st at_ un pa) st)) (h1 : (c != 0) = true) :
    Calls Try.prog 22 #[auV id cur ap rv cl ex st at_ un pa, .int .i64 amount, .int .i64 til] w fun e w' => e = .returned (.tuple #[auV ⟨#[]⟩ ⟨#[]⟩ 0 0 0 0 0 0 0 0, .int .i64 c]) ∧ Pushed w w' := by
  go_enter Try.func22, Try.ntmps22
  go_wp2_with (first | (go_at_call 37; refine (checkOpen_any _ _ _ _ _ _ _ _ _ _ _ hi hcu HC).mono ?_; rintro e w1 ⟨rfl, l1, n1, rfl⟩) | (go_at_call 21; refine (left_any _ _ _ _ _ _ _ _ _ _ _ (by omega) (by omega) (by omega) (by omega)).mono ?_; rintro e w1 ⟨rfl, rfl⟩) | (go_at_call 28; refine (settled_any _ _ _ _ _ _ _ _ _ _ _ (by omega) (by omega) (by omega) (by omega)).mono ?_; rintro e w1 ⟨rfl, l2, n2, rfl⟩))
  all_goals exact bodyPost_ret (v := .tuple #[auV ⟨#[]⟩ ⟨#[]⟩ 0 0 0 0 0 0 0 0, .int .i64 c]) (by simp [results, Try.results22, go_sem]) rfl ⟨rfl, (by repeat (first | with_reducible exact Pushed.refl _ | with_reducible assumption | with_reducible refine Pushed.push ?_ _ | with_reducible refine Pushed.alloc ?_ _ | with_reducible refine Pushed.drewN ?_ _ | with_reducible refine Pushed.drew ?_))⟩
set_option maxHeartbeats 1000000 in
theorem raise_range (amount til : Int) (hi : id.size ≤ maxLen) (hcu : cur.size ≤ maxLen) (HC : Hid (0 = openE (auCheck (identB id.data.toList 16) (curB cur.data.toList) ap rv cl ex st at_ un pa) st)) (ka : 1 ≤ ap ∧ ap ≤ 999999999999) (kr : 0 ≤ rv ∧ rv ≤ 999999999999) (kc : 0 ≤ cl ∧ cl ≤ 999999999999) (ke : 0 ≤ ex ∧ ex ≤ 999999999999) (kl : 0 ≤ ap - rv - cl - ex) (h : amount < 1 ∨ 999999999999 - ap < amount) :
    Calls Try.prog 22 #[auV id cur ap rv cl ex st at_ un pa, .int .i64 amount, .int .i64 til] w fun e w' => e = .returned (.tuple #[auV ⟨#[]⟩ ⟨#[]⟩ 0 0 0 0 0 0 0 0, .int .i64 4]) ∧ Pushed w w' := by
  go_enter Try.func22, Try.ntmps22
  go_wp2_with (first | (go_at_call 37; refine (checkOpen_any _ _ _ _ _ _ _ _ _ _ _ hi hcu HC).mono ?_; rintro e w1 ⟨rfl, l1, n1, rfl⟩) | (go_at_call 21; refine (left_any _ _ _ _ _ _ _ _ _ _ _ (by omega) (by omega) (by omega) (by omega)).mono ?_; rintro e w1 ⟨rfl, rfl⟩) | (go_at_call 28; refine (settled_any _ _ _ _ _ _ _ _ _ _ _ (by omega) (by omega) (by omega) (by omega)).mono ?_; rintro e w1 ⟨rfl, l2, n2, rfl⟩))
  all_goals exact bodyPost_ret (v := .tuple #[auV ⟨#[]⟩ ⟨#[]⟩ 0 0 0 0 0 0 0 0, .int .i64 4]) (by simp [results, Try.results22, go_sem]) rfl ⟨rfl, (by repeat (first | with_reducible exact Pushed.refl _ | with_reducible assumption | with_reducible refine Pushed.push ?_ _ | with_reducible refine Pushed.alloc ?_ _ | with_reducible refine Pushed.drewN ?_ _ | with_reducible refine Pushed.drew ?_))⟩
set_option maxHeartbeats 1000000 in
theorem raise_time (amount til : Int) (hi : id.size ≤ maxLen) (hcu : cur.size ≤ maxLen) (HC : Hid (0 = openE (auCheck (identB id.data.toList 16) (curB cur.data.toList) ap rv cl ex st at_ un pa) st)) (ka : 1 ≤ ap ∧ ap ≤ 999999999999) (kr : 0 ≤ rv ∧ rv ≤ 999999999999) (kc : 0 ≤ cl ∧ cl ≤ 999999999999) (ke : 0 ≤ ex ∧ ex ≤ 999999999999) (kl : 0 ≤ ap - rv - cl - ex) (h : 1 ≤ amount) (h' : amount ≤ 999999999999 - ap) (ht : til < un ∨ 1099511627776 < til) :
    Calls Try.prog 22 #[auV id cur ap rv cl ex st at_ un pa, .int .i64 amount, .int .i64 til] w fun e w' => e = .returned (.tuple #[auV ⟨#[]⟩ ⟨#[]⟩ 0 0 0 0 0 0 0 0, .int .i64 14]) ∧ Pushed w w' := by
  go_enter Try.func22, Try.ntmps22
  go_wp2_with (first | (go_at_call 37; refine (checkOpen_any _ _ _ _ _ _ _ _ _ _ _ hi hcu HC).mono ?_; rintro e w1 ⟨rfl, l1, n1, rfl⟩) | (go_at_call 21; refine (left_any _ _ _ _ _ _ _ _ _ _ _ (by omega) (by omega) (by omega) (by omega)).mono ?_; rintro e w1 ⟨rfl, rfl⟩) | (go_at_call 28; refine (settled_any _ _ _ _ _ _ _ _ _ _ _ (by omega) (by omega) (by omega) (by omega)).mono ?_; rintro e w1 ⟨rfl, l2, n2, rfl⟩))
  all_goals exact bodyPost_ret (v := .tuple #[auV ⟨#[]⟩ ⟨#[]⟩ 0 0 0 0 0 0 0 0, .int .i64 14]) (by simp [results, Try.results22, go_sem]) rfl ⟨rfl, (by repeat (first | with_reducible exact Pushed.refl _ | with_reducible assumption | with_reducible refine Pushed.push ?_ _ | with_reducible refine Pushed.alloc ?_ _ | with_reducible refine Pushed.drewN ?_ _ | with_reducible refine Pushed.drew ?_))⟩
set_option maxHeartbeats 1000000 in
theorem raise_ok (amount til : Int) (hi : id.size ≤ maxLen) (hcu : cur.size ≤ maxLen) (HC : Hid (0 = openE (auCheck (identB id.data.toList 16) (curB cur.data.toList) ap rv cl ex st at_ un pa) st)) (ka : 1 ≤ ap ∧ ap ≤ 999999999999) (kr : 0 ≤ rv ∧ rv ≤ 999999999999) (kc : 0 ≤ cl ∧ cl ≤ 999999999999) (ke : 0 ≤ ex ∧ ex ≤ 999999999999) (kl : 0 ≤ ap - rv - cl - ex) (h : 1 ≤ amount) (h' : amount ≤ 999999999999 - ap) (ht : un ≤ til) (ht' : til ≤ 1099511627776) :
    Calls Try.prog 22 #[auV id cur ap rv cl ex st at_ un pa, .int .i64 amount, .int .i64 til] w fun e w' => e = .returned (.tuple #[auV id cur (ap + amount) rv cl ex st at_ til pa, .int .i64 0]) ∧ Pushed w w' := by
  go_enter Try.func22, Try.ntmps22
  go_wp2_with (first | (go_at_call 37; refine (checkOpen_any _ _ _ _ _ _ _ _ _ _ _ hi hcu HC).mono ?_; rintro e w1 ⟨rfl, l1, n1, rfl⟩) | (go_at_call 21; refine (left_any _ _ _ _ _ _ _ _ _ _ _ (by omega) (by omega) (by omega) (by omega)).mono ?_; rintro e w1 ⟨rfl, rfl⟩) | (go_at_call 28; refine (settled_any _ _ _ _ _ _ _ _ _ _ _ (by omega) (by omega) (by omega) (by omega)).mono ?_; rintro e w1 ⟨rfl, l2, n2, rfl⟩))
  all_goals exact bodyPost_ret (v := .tuple #[auV id cur (ap + amount) rv cl ex st at_ til pa, .int .i64 0]) (by simp [results, Try.results22, go_sem]) rfl ⟨rfl, (by repeat (first | with_reducible exact Pushed.refl _ | with_reducible assumption | with_reducible refine Pushed.push ?_ _ | with_reducible refine Pushed.alloc ?_ _ | with_reducible refine Pushed.drewN ?_ _ | with_reducible refine Pushed.drew ?_))⟩
set_option maxHeartbeats 1000000 in
theorem reverse_err (amount : Int) {c : Int} (hi : id.size ≤ maxLen) (hcu : cur.size ≤ maxLen) (HC : Hid (c = openE (auCheck (identB id.data.toList 16) (curB cur.data.toList) ap rv cl ex st at_ un pa) st)) (h1 : (c != 0) = true) :
    Calls Try.prog 23 #[auV id cur ap rv cl ex st at_ un pa, .int .i64 amount] w fun e w' => e = .returned (.tuple #[auV ⟨#[]⟩ ⟨#[]⟩ 0 0 0 0 0 0 0 0, .int .i64 0, .int .i64 c]) ∧ Pushed w w' := by
  go_enter Try.func23, Try.ntmps23
  go_wp2_with (first | (go_at_call 37; refine (checkOpen_any _ _ _ _ _ _ _ _ _ _ _ hi hcu HC).mono ?_; rintro e w1 ⟨rfl, l1, n1, rfl⟩) | (go_at_call 21; refine (left_any _ _ _ _ _ _ _ _ _ _ _ (by omega) (by omega) (by omega) (by omega)).mono ?_; rintro e w1 ⟨rfl, rfl⟩) | (go_at_call 28; refine (settled_any _ _ _ _ _ _ _ _ _ _ _ (by omega) (by omega) (by omega) (by omega)).mono ?_; rintro e w1 ⟨rfl, l2, n2, rfl⟩))
  all_goals exact bodyPost_ret (v := .tuple #[auV ⟨#[]⟩ ⟨#[]⟩ 0 0 0 0 0 0 0 0, .int .i64 0, .int .i64 c]) (by simp [results, Try.results23, go_sem]) rfl ⟨rfl, (by repeat (first | with_reducible exact Pushed.refl _ | with_reducible assumption | with_reducible refine Pushed.push ?_ _ | with_reducible refine Pushed.alloc ?_ _ | with_reducible refine Pushed.drewN ?_ _ | with_reducible refine Pushed.drew ?_))⟩
set_option maxHeartbeats 1000000 in
theorem reverse_range (amount : Int) (hi : id.size ≤ maxLen) (hcu : cur.size ≤ maxLen) (HC : Hid (0 = openE (auCheck (identB id.data.toList 16) (curB cur.data.toList) ap rv cl ex st at_ un pa) st)) (ka : 1 ≤ ap ∧ ap ≤ 999999999999) (kr : 0 ≤ rv ∧ rv ≤ 999999999999) (kc : 0 ≤ cl ∧ cl ≤ 999999999999) (ke : 0 ≤ ex ∧ ex ≤ 999999999999) (kl : 0 ≤ ap - rv - cl - ex) (h : amount < 0 ∨ ap - rv - cl - ex < amount) :
    Calls Try.prog 23 #[auV id cur ap rv cl ex st at_ un pa, .int .i64 amount] w fun e w' => e = .returned (.tuple #[auV ⟨#[]⟩ ⟨#[]⟩ 0 0 0 0 0 0 0 0, .int .i64 0, .int .i64 4]) ∧ Pushed w w' := by
  go_enter Try.func23, Try.ntmps23
  go_wp2_with (first | (go_at_call 37; refine (checkOpen_any _ _ _ _ _ _ _ _ _ _ _ hi hcu HC).mono ?_; rintro e w1 ⟨rfl, l1, n1, rfl⟩) | (go_at_call 21; refine (left_any _ _ _ _ _ _ _ _ _ _ _ (by omega) (by omega) (by omega) (by omega)).mono ?_; rintro e w1 ⟨rfl, rfl⟩) | (go_at_call 28; refine (settled_any _ _ _ _ _ _ _ _ _ _ _ (by omega) (by omega) (by omega) (by omega)).mono ?_; rintro e w1 ⟨rfl, l2, n2, rfl⟩))
  all_goals exact bodyPost_ret (v := .tuple #[auV ⟨#[]⟩ ⟨#[]⟩ 0 0 0 0 0 0 0 0, .int .i64 0, .int .i64 4]) (by simp [results, Try.results23, go_sem]) rfl ⟨rfl, (by repeat (first | with_reducible exact Pushed.refl _ | with_reducible assumption | with_reducible refine Pushed.push ?_ _ | with_reducible refine Pushed.alloc ?_ _ | with_reducible refine Pushed.drewN ?_ _ | with_reducible refine Pushed.drew ?_))⟩
set_option maxHeartbeats 1000000 in
theorem reverse_all (hi : id.size ≤ maxLen) (hcu : cur.size ≤ maxLen) (HC : Hid (0 = openE (auCheck (identB id.data.toList 16) (curB cur.data.toList) ap rv cl ex st at_ un pa) st)) (ka : 1 ≤ ap ∧ ap ≤ 999999999999) (kr : 0 ≤ rv ∧ rv ≤ 999999999999) (kc : 0 ≤ cl ∧ cl ≤ 999999999999) (ke : 0 ≤ ex ∧ ex ≤ 999999999999) (kl : 0 ≤ ap - rv - cl - ex) :
    Calls Try.prog 23 #[auV id cur ap rv cl ex st at_ un pa, .int .i64 0] w fun e w' => e = .returned (.tuple #[auV id cur ap (rv + (ap - rv - cl - ex)) cl ex (auState ap (rv + (ap - rv - cl - ex)) cl ex) at_ un pa, .int .i64 (ap - rv - cl - ex), .int .i64 0]) ∧ Pushed w w' := by
  go_enter Try.func23, Try.ntmps23
  go_wp2_with (first | (go_at_call 37; refine (checkOpen_any _ _ _ _ _ _ _ _ _ _ _ hi hcu HC).mono ?_; rintro e w1 ⟨rfl, l1, n1, rfl⟩) | (go_at_call 21; refine (left_any _ _ _ _ _ _ _ _ _ _ _ (by omega) (by omega) (by omega) (by omega)).mono ?_; rintro e w1 ⟨rfl, rfl⟩) | (go_at_call 28; refine (settled_any _ _ _ _ _ _ _ _ _ _ _ (by omega) (by omega) (by omega) (by omega)).mono ?_; rintro e w1 ⟨rfl, l2, n2, rfl⟩))
  all_goals exact bodyPost_ret (v := .tuple #[auV id cur ap (rv + (ap - rv - cl - ex)) cl ex (auState ap (rv + (ap - rv - cl - ex)) cl ex) at_ un pa, .int .i64 (ap - rv - cl - ex), .int .i64 0]) (by simp [results, Try.results23, go_sem]) rfl ⟨rfl, (by repeat (first | with_reducible exact Pushed.refl _ | with_reducible assumption | with_reducible refine Pushed.push ?_ _ | with_reducible refine Pushed.alloc ?_ _ | with_reducible refine Pushed.drewN ?_ _ | with_reducible refine Pushed.drew ?_))⟩
set_option maxHeartbeats 1000000 in
theorem reverse_some (amount : Int) (hi : id.size ≤ maxLen) (hcu : cur.size ≤ maxLen) (HC : Hid (0 = openE (auCheck (identB id.data.toList 16) (curB cur.data.toList) ap rv cl ex st at_ un pa) st)) (ka : 1 ≤ ap ∧ ap ≤ 999999999999) (kr : 0 ≤ rv ∧ rv ≤ 999999999999) (kc : 0 ≤ cl ∧ cl ≤ 999999999999) (ke : 0 ≤ ex ∧ ex ≤ 999999999999) (kl : 0 ≤ ap - rv - cl - ex) (h : 1 ≤ amount) (h' : amount ≤ ap - rv - cl - ex) (h0 : (amount == 0) = false) :
    Calls Try.prog 23 #[auV id cur ap rv cl ex st at_ un pa, .int .i64 amount] w fun e w' => e = .returned (.tuple #[auV id cur ap (rv + amount) cl ex (auState ap (rv + amount) cl ex) at_ un pa, .int .i64 amount, .int .i64 0]) ∧ Pushed w w' := by
  go_enter Try.func23, Try.ntmps23
  go_wp2_with (first | (go_at_call 37; refine (checkOpen_any _ _ _ _ _ _ _ _ _ _ _ hi hcu HC).mono ?_; rintro e w1 ⟨rfl, l1, n1, rfl⟩) | (go_at_call 21; refine (left_any _ _ _ _ _ _ _ _ _ _ _ (by omega) (by omega) (by omega) (by omega)).mono ?_; rintro e w1 ⟨rfl, rfl⟩) | (go_at_call 28; refine (settled_any _ _ _ _ _ _ _ _ _ _ _ (by omega) (by omega) (by omega) (by omega)).mono ?_; rintro e w1 ⟨rfl, l2, n2, rfl⟩))
  all_goals exact bodyPost_ret (v := .tuple #[auV id cur ap (rv + amount) cl ex (auState ap (rv + amount) cl ex) at_ un pa, .int .i64 amount, .int .i64 0]) (by simp [results, Try.results23, go_sem]) rfl ⟨rfl, (by repeat (first | with_reducible exact Pushed.refl _ | with_reducible assumption | with_reducible refine Pushed.push ?_ _ | with_reducible refine Pushed.alloc ?_ _ | with_reducible refine Pushed.drewN ?_ _ | with_reducible refine Pushed.drew ?_))⟩
set_option maxHeartbeats 1000000 in
theorem expire_err (time : Int) {c : Int} (hi : id.size ≤ maxLen) (hcu : cur.size ≤ maxLen) (HC : Hid (c = openE (auCheck (identB id.data.toList 16) (curB cur.data.toList) ap rv cl ex st at_ un pa) st)) (h1 : (c != 0) = true) :
    Calls Try.prog 24 #[auV id cur ap rv cl ex st at_ un pa, .int .i64 time] w fun e w' => e = .returned (.tuple #[auV ⟨#[]⟩ ⟨#[]⟩ 0 0 0 0 0 0 0 0, .int .i64 0, .int .i64 c]) ∧ Pushed w w' := by
  go_enter Try.func24, Try.ntmps24
  go_wp2_with (first | (go_at_call 37; refine (checkOpen_any _ _ _ _ _ _ _ _ _ _ _ hi hcu HC).mono ?_; rintro e w1 ⟨rfl, l1, n1, rfl⟩) | (go_at_call 21; refine (left_any _ _ _ _ _ _ _ _ _ _ _ (by omega) (by omega) (by omega) (by omega)).mono ?_; rintro e w1 ⟨rfl, rfl⟩) | (go_at_call 28; refine (settled_any _ _ _ _ _ _ _ _ _ _ _ (by omega) (by omega) (by omega) (by omega)).mono ?_; rintro e w1 ⟨rfl, l2, n2, rfl⟩))
  all_goals exact bodyPost_ret (v := .tuple #[auV ⟨#[]⟩ ⟨#[]⟩ 0 0 0 0 0 0 0 0, .int .i64 0, .int .i64 c]) (by simp [results, Try.results24, go_sem]) rfl ⟨rfl, (by repeat (first | with_reducible exact Pushed.refl _ | with_reducible assumption | with_reducible refine Pushed.push ?_ _ | with_reducible refine Pushed.alloc ?_ _ | with_reducible refine Pushed.drewN ?_ _ | with_reducible refine Pushed.drew ?_))⟩
set_option maxHeartbeats 1000000 in
theorem expire_time (time : Int) (hi : id.size ≤ maxLen) (hcu : cur.size ≤ maxLen) (HC : Hid (0 = openE (auCheck (identB id.data.toList 16) (curB cur.data.toList) ap rv cl ex st at_ un pa) st)) (ka : 1 ≤ ap ∧ ap ≤ 999999999999) (kr : 0 ≤ rv ∧ rv ≤ 999999999999) (kc : 0 ≤ cl ∧ cl ≤ 999999999999) (ke : 0 ≤ ex ∧ ex ≤ 999999999999) (kl : 0 ≤ ap - rv - cl - ex) (h : time < un) :
    Calls Try.prog 24 #[auV id cur ap rv cl ex st at_ un pa, .int .i64 time] w fun e w' => e = .returned (.tuple #[auV ⟨#[]⟩ ⟨#[]⟩ 0 0 0 0 0 0 0 0, .int .i64 0, .int .i64 14]) ∧ Pushed w w' := by
  go_enter Try.func24, Try.ntmps24
  go_wp2_with (first | (go_at_call 37; refine (checkOpen_any _ _ _ _ _ _ _ _ _ _ _ hi hcu HC).mono ?_; rintro e w1 ⟨rfl, l1, n1, rfl⟩) | (go_at_call 21; refine (left_any _ _ _ _ _ _ _ _ _ _ _ (by omega) (by omega) (by omega) (by omega)).mono ?_; rintro e w1 ⟨rfl, rfl⟩) | (go_at_call 28; refine (settled_any _ _ _ _ _ _ _ _ _ _ _ (by omega) (by omega) (by omega) (by omega)).mono ?_; rintro e w1 ⟨rfl, l2, n2, rfl⟩))
  all_goals exact bodyPost_ret (v := .tuple #[auV ⟨#[]⟩ ⟨#[]⟩ 0 0 0 0 0 0 0 0, .int .i64 0, .int .i64 14]) (by simp [results, Try.results24, go_sem]) rfl ⟨rfl, (by repeat (first | with_reducible exact Pushed.refl _ | with_reducible assumption | with_reducible refine Pushed.push ?_ _ | with_reducible refine Pushed.alloc ?_ _ | with_reducible refine Pushed.drewN ?_ _ | with_reducible refine Pushed.drew ?_))⟩
set_option maxHeartbeats 1000000 in
theorem expire_ok (time : Int) (hi : id.size ≤ maxLen) (hcu : cur.size ≤ maxLen) (HC : Hid (0 = openE (auCheck (identB id.data.toList 16) (curB cur.data.toList) ap rv cl ex st at_ un pa) st)) (ka : 1 ≤ ap ∧ ap ≤ 999999999999) (kr : 0 ≤ rv ∧ rv ≤ 999999999999) (kc : 0 ≤ cl ∧ cl ≤ 999999999999) (ke : 0 ≤ ex ∧ ex ≤ 999999999999) (kl : 0 ≤ ap - rv - cl - ex) (h : un ≤ time) :
    Calls Try.prog 24 #[auV id cur ap rv cl ex st at_ un pa, .int .i64 time] w fun e w' => e = .returned (.tuple #[auV id cur ap rv cl (ex + (ap - rv - cl - ex)) (auState ap rv cl (ex + (ap - rv - cl - ex))) at_ un pa, .int .i64 (ap - rv - cl - ex), .int .i64 0]) ∧ Pushed w w' := by
  go_enter Try.func24, Try.ntmps24
  go_wp2_with (first | (go_at_call 37; refine (checkOpen_any _ _ _ _ _ _ _ _ _ _ _ hi hcu HC).mono ?_; rintro e w1 ⟨rfl, l1, n1, rfl⟩) | (go_at_call 21; refine (left_any _ _ _ _ _ _ _ _ _ _ _ (by omega) (by omega) (by omega) (by omega)).mono ?_; rintro e w1 ⟨rfl, rfl⟩) | (go_at_call 28; refine (settled_any _ _ _ _ _ _ _ _ _ _ _ (by omega) (by omega) (by omega) (by omega)).mono ?_; rintro e w1 ⟨rfl, l2, n2, rfl⟩))
  all_goals exact bodyPost_ret (v := .tuple #[auV id cur ap rv cl (ex + (ap - rv - cl - ex)) (auState ap rv cl (ex + (ap - rv - cl - ex))) at_ un pa, .int .i64 (ap - rv - cl - ex), .int .i64 0]) (by simp [results, Try.results24, go_sem]) rfl ⟨rfl, (by repeat (first | with_reducible exact Pushed.refl _ | with_reducible assumption | with_reducible refine Pushed.push ?_ _ | with_reducible refine Pushed.alloc ?_ _ | with_reducible refine Pushed.drewN ?_ _ | with_reducible refine Pushed.drew ?_))⟩
end
end Go.Proofs.Ytmigodjkenhedaa
