/-
  CONTRACTS of rates: Div64 with a high word.
-/
import Derived.Test.YtompkkanckejjaaDoorMDMath
import Derived.Test.YtompkkanckejjaaDoorM2
import Derived.Test.YtompkkanckejjaaDoorPush
import Derived.Laws.Bits64b
import Derived.LoopTactic
namespace Go.Proofs.YtompkkanckejjaaDoor
open Go.RowKit
set_option linter.unusedVariables false
set_option linter.unusedSimpArgs false
theorem wu (n : Nat) : IntKind.u64.wrap (n : Int) = ((n % 18446744073709551616 : Nat) : Int) := by
  simp [IntKind.wrap, IntKind.bits, IntKind.signed]
theorem wdiff (a b : Nat) (h : b ≤ a) (h2 : a - b < 18446744073709551616) : IntKind.u64.wrap (((a % 18446744073709551616 : Nat) : Int) - ((b % 18446744073709551616 : Nat) : Int)) = ((a - b : Nat) : Int) := by
  simp [IntKind.wrap, IntKind.bits, IntKind.signed]
  omega
theorem dig_wraps (u c Y Q v : Nat) (hQ : Q = (u * 4294967296 + c) / Y) (hv : v = (u * 4294967296 + c) % Y) (h0 : 0 < Y) (hY : Y < 18446744073709551616) : ∃ W1 W2 W3 : Nat, IntKind.u64.wrap ((u : Int) * 4294967296) = (W1 : Int) ∧ IntKind.u64.wrap ((W1 : Int) + (c : Int)) = (W2 : Int) ∧ IntKind.u64.wrap ((Q : Int) * (Y : Int)) = (W3 : Int) ∧ IntKind.u64.wrap ((W2 : Int) - (W3 : Int)) = (v : Int) := by
  refine ⟨u * 4294967296 % 18446744073709551616, (u * 4294967296 + c) % 18446744073709551616, (Q * Y) % 18446744073709551616, ?_, ?_, ?_, ?_⟩
  · exact wu (u * 4294967296)
  · rw [show (((u * 4294967296 % 18446744073709551616 : Nat) : Int) + (c : Int)) = ((u * 4294967296 % 18446744073709551616 + c : Nat) : Int) from rfl, wu]
    congr 1
    omega
  · exact wu (Q * Y)
  · have e := dig_rest (u := u) (c := c) h0
    rw [← hQ, ← hv] at e
    have l : Q * Y ≤ u * 4294967296 + c := by rw [hQ]; exact Nat.div_mul_le_self _ _
    have m : v < Y := by rw [hv]; exact Nat.mod_lt _ h0
    rw [wdiff _ _ l (by omega), e]
theorem dig_open (Y h l u c : Nat) (hYe : Y = h * 4294967296 + l) (hl : l < 4294967296) (h31 : 2147483648 ≤ h ∧ h < 4294967296) (hu : u < Y) (hc : c < 4294967296) : ∃ q r P : Nat, Dig Y h u c q r ∧ r < 4294967296 ∧ q ≤ 4294967297 ∧ (u : Int).tdiv (h : Int) = (q : Int) ∧ (u : Int) / (h : Int) = (q : Int) ∧ IntKind.u64.wrap (q : Int) = (q : Int) ∧ IntKind.u64.wrap ((q : Int) * (h : Int)) = (P : Int) ∧ IntKind.u64.wrap ((u : Int) - (P : Int)) = (r : Int) := by
  have ht := dig_top hYe hl h31.1 hu
  have hm := Nat.mod_lt u (show h > 0 by omega)
  have hd := Nat.div_add_mod u h
  have hle : u / h * h ≤ u := Nat.div_mul_le_self _ _
  have hD := dig_start (u := u) hYe (show 1 ≤ h by omega) hc
  have t1 : (u : Int).tdiv (h : Int) = ((u / h : Nat) : Int) := by rw [Int.tdiv_eq_ediv_of_nonneg (by omega)]; rfl
  have t2 : (u : Int) / (h : Int) = ((u / h : Nat) : Int) := rfl
  rw [Nat.mul_comm] at hd
  generalize u / h = q at *
  generalize u % h = r at *
  have t3 : (q : Int) * (h : Int) = ((q * h : Nat) : Int) := rfl
  generalize q * h = P at *
  exact ⟨q, r, P, hD, by omega, ht, t1, t2, IntWalk.u64_in _ (by omega), by rw [t3]; exact IntWalk.u64_in _ (by omega), by rw [show (u : Int) - (P : Int) = (r : Int) by omega]; exact IntWalk.u64_in _ (by omega)⟩
theorem dig_test (q r l c : Nat) (hq : q < 4294967296) (hr : r < 4294967296) (hl : l < 4294967296) (hc : c < 4294967296) : ∃ P1 P2 P3 : Nat, IntKind.u64.wrap ((q : Int) * (l : Int)) = (P1 : Int) ∧ IntKind.u64.wrap (4294967296 * (r : Int)) = (P2 : Int) ∧ (P2 : Int) + (c : Int) = (P3 : Int) ∧ IntKind.u64.wrap (P3 : Int) = (P3 : Int) ∧ Hid (P1 = q * l) ∧ Hid (P3 = 4294967296 * r + c) := by
  have h1 : q * l ≤ 4294967295 * 4294967295 := Nat.mul_le_mul (by omega) (by omega)
  exact ⟨q * l, 4294967296 * r, 4294967296 * r + c, IntWalk.u64_in _ (by rw [show (q : Int) * (l : Int) = ((q * l : Nat) : Int) from rfl]; omega), IntWalk.u64_in _ (by omega), rfl, IntWalk.u64_in _ (by omega), Lib.hid rfl, Lib.hid rfl⟩
theorem dig_final (Q1 Q0 z s : Nat) (l1 : Q1 < 4294967296) (l2 : Q0 < 4294967296) : ∃ E1 R R2 : Nat, IntKind.u64.wrap ((Q1 : Int) * 4294967296) = (E1 : Int) ∧ IntKind.u64.wrap ((E1 : Int) + (Q0 : Int)) = (R : Int) ∧ (z : Int) / 2 ^ s = (R2 : Int) ∧ (Q1 : Int) * 4294967296 = (E1 : Int) ∧ (E1 : Int) + (Q0 : Int) = (R : Int) ∧ R = Q1 * 4294967296 + Q0 ∧ R2 = z / 2 ^ s :=
  ⟨Q1 * 4294967296, Q1 * 4294967296 + Q0, z / 2 ^ s, IntWalk.u64_in _ (by omega), IntWalk.u64_in _ (by omega), by simp, rfl, rfl, rfl, rfl⟩
theorem dig_words (hi lo y : Nat) (h0 : 1 ≤ hi) (hh : hi < y) (hy : y < 9223372036854775808) (hp : lo < 18446744073709551616) : ∃ s Y h l A B u t c1 c0 : Nat, 64 - (Lib.bitLen y : Int) = (s : Int) ∧ s ≤ 63 ∧ IntKind.u64.wrap ((64 : Int) - (s : Int)) = ((64 - s : Nat) : Int) ∧ IntKind.u64.wrap ((y : Int) * 2 ^ s) = (Y : Int) ∧ (Y : Int) / 4294967296 = (h : Int) ∧ bits .and .u64 (Y : Int) 4294967295 = (l : Int) ∧ IntKind.u64.wrap ((hi : Int) * 2 ^ s) = (A : Int) ∧ (lo : Int) / 2 ^ (64 - s) = (B : Int) ∧ bits .or .u64 (A : Int) (B : Int) = (u : Int) ∧ IntKind.u64.wrap ((lo : Int) * 2 ^ s) = (t : Int) ∧ (t : Int) / 4294967296 = (c1 : Int) ∧ bits .and .u64 (t : Int) 4294967295 = (c0 : Int) ∧
    Y = h * 4294967296 + l ∧ l < 4294967296 ∧ (2147483648 ≤ h ∧ h < 4294967296) ∧ u < Y ∧ c1 < 4294967296 ∧ c0 < 4294967296 ∧ Y < 18446744073709551616 ∧ (u * 18446744073709551616 + (c1 * 4294967296 + c0)) / Y = (hi * 18446744073709551616 + lo) / y ∧ (u * 18446744073709551616 + (c1 * 4294967296 + c0)) % Y / 2 ^ s = (hi * 18446744073709551616 + lo) % y := by
  obtain ⟨b1, b2, b3, b4⟩ := sh_top y (by omega) hy
  have hsl := sh_lt hi lo y (64 - Lib.bitLen y) (by omega) hp hh
  have hsd := sh_div hi lo y (64 - Lib.bitLen y) (by omega)
  have hso := sh_or hi lo (64 - Lib.bitLen y) (by omega) hp
  have hsw := sh_low lo (64 - Lib.bitLen y) (by omega) hp
  have e64 : 64 - (Lib.bitLen y : Int) = ((64 - Lib.bitLen y : Nat) : Int) := by omega
  have e63 : 64 - Lib.bitLen y ≤ 63 := by omega
  generalize 64 - Lib.bitLen y = s at *
  have hA : hi * 2 ^ s ≤ y * 2 ^ s := Nat.mul_le_mul_right _ (by omega)
  have e1 : IntKind.u64.wrap ((y : Int) * 2 ^ s) = ((y * 2 ^ s : Nat) : Int) := by
    rw [show (y : Int) * 2 ^ s = ((y * 2 ^ s : Nat) : Int) by simp]; exact IntWalk.u64_in _ (by omega)
  have e2 : IntKind.u64.wrap ((hi : Int) * 2 ^ s) = ((hi * 2 ^ s : Nat) : Int) := by
    rw [show (hi : Int) * 2 ^ s = ((hi * 2 ^ s : Nat) : Int) by simp]; exact IntWalk.u64_in _ (by omega)
  have e3 : IntKind.u64.wrap ((lo : Int) * 2 ^ s) = ((lo * 2 ^ s % 18446744073709551616 : Nat) : Int) := by
    rw [show (lo : Int) * 2 ^ s = ((lo * 2 ^ s : Nat) : Int) by simp]; exact wu _
  have e4 : (lo : Int) / 2 ^ (64 - s) = ((lo / 2 ^ (64 - s) : Nat) : Int) := by simp
  have e5 : lo / 2 ^ (64 - s) ≤ lo := Nat.div_le_self _ _
  generalize y * 2 ^ s = Y at *
  generalize hi * 2 ^ s = A at *
  have ht : lo * 2 ^ s % 18446744073709551616 < 18446744073709551616 := Nat.mod_lt _ (by omega)
  generalize lo * 2 ^ s % 18446744073709551616 = t at *
  generalize lo / 2 ^ (64 - s) = B at *
  have ha : ∀ n : Nat, n < 18446744073709551616 → bits .and .u64 (n : Int) 4294967295 = ((n % 4294967296 : Nat) : Int) := by
    intro n hn
    have := bits_and_u64_nat n 4294967295 hn (by omega)
    rw [show (4294967295 : Nat) = 2 ^ 32 - 1 from rfl, Nat.and_two_pow_sub_one_eq_mod] at this
    exact this
  refine ⟨s, Y, Y / 4294967296, Y % 4294967296, A, B, A + B, t, t / 4294967296, t % 4294967296, e64, e63, IntWalk.u64_in _ (by omega) |>.trans (by omega), e1, rfl, ha Y b4, e2, e4, by rw [bits_or_u64_nat A B (by omega) (by omega), hso], e3, rfl, ha t ht, by omega, Nat.mod_lt _ (by omega), ⟨by omega, by omega⟩, hsl, by omega, Nat.mod_lt _ (by omega), b4, ?_, ?_⟩
  · rw [show t / 4294967296 * 4294967296 + t % 4294967296 = t by omega]; exact hsd.1
  · rw [show t / 4294967296 * 4294967296 + t % 4294967296 = t by omega]; exact hsd.2
set_option maxRecDepth 8000 in
set_option maxHeartbeats 6400000 in
theorem div64_high (hi lo y : Nat) (h0 : 1 ≤ hi) (hh : hi < y) (hy : y < 9223372036854775808) (hp : lo < 18446744073709551616) (w : World) : Calls Tryd.prog 38 #[.int .u64 (hi : Int), .int .u64 (lo : Int), .int .u64 (y : Int)] w fun x w' => x = .returned (.tuple #[.int .u64 (((hi * 18446744073709551616 + lo) / y : Nat) : Int), .int .u64 (((hi * 18446744073709551616 + lo) % y : Nat) : Int)]) ∧ Pushed w w' := by
  have LZ0 := fun w => Tryd.bits_LeadingZeros64 (y : Int) w (by omega) (by omega)
  simp only [Int.toNat_natCast] at LZ0
  obtain ⟨s, Y, h, l, A, B, u, t, c1, c0, e1, e2, e3, e4, e5, e6, e7, e8, e9, e10, e11, e12, hYe, hl, h31, ahu, ahc, bhc, hYM, f1, f2⟩ := dig_words hi lo y h0 hh hy hp
  rw [e1] at LZ0
  have LZ := Lib.hid LZ0
  clear LZ0 e1
  obtain ⟨Q1, ahQ⟩ : ∃ Q1, Q1 = (u * 4294967296 + c1) / Y := ⟨_, rfl⟩
  obtain ⟨v, ahv⟩ : ∃ v, v = (u * 4294967296 + c1) % Y := ⟨_, rfl⟩
  obtain ⟨Q0, bhQ⟩ : ∃ Q0, Q0 = (v * 4294967296 + c0) / Y := ⟨_, rfl⟩
  obtain ⟨z, bhv⟩ : ∃ z, z = (v * 4294967296 + c0) % Y := ⟨_, rfl⟩
  have bhu : v < Y := by rw [ahv]; exact Nat.mod_lt _ (by omega)
  have hz : z < Y := by rw [bhv]; exact Nat.mod_lt _ (by omega)
  have l1 : Q1 < 4294967296 := by rw [ahQ]; exact dig_lt ahu ahc
  have l2 : Q0 < 4294967296 := by rw [bhQ]; exact dig_lt bhu bhc
  obtain ⟨d1, d2⟩ := dig_two (Y := Y) (u := u) (c1 := c1) (c0 := c0) (by omega) ahc bhc
  rw [← ahQ, ← ahv, ← bhQ, f1] at d1
  rw [← ahv, ← bhv] at d2
  rw [← d2] at f2
  rw [← d1, ← f2]
  clear f1 f2 d1 d2
  obtain ⟨aW1, aW2, aW3, aw1, aw2, aw3, aw4⟩ := dig_wraps u c1 Y Q1 v ahQ ahv (by omega) (by omega)
  obtain ⟨aqs, ars, aP, as1, as2, as3, as4, as5, as6, as7, as8⟩ := dig_open Y h l u c1 hYe hl h31 ahu ahc
  have aD0 := Lib.hid as1
  obtain ⟨bW1, bW2, bW3, bw1, bw2, bw3, bw4⟩ := dig_wraps v c0 Y Q0 z bhQ bhv (by omega) (by omega)
  obtain ⟨bqs, brs, bP, bs1, bs2, bs3, bs4, bs5, bs6, bs7, bs8⟩ := dig_open Y h l v c0 hYe hl h31 bhu bhc
  have bD0 := Lib.hid bs1
  have aR0 := Lib.hid as2
  have aQ0 := Lib.hid as3
  have bR0 := Lib.hid bs2
  have bQ0 := Lib.hid bs3
  have ahQ0 := Lib.hid ahQ
  have bhQ0 := Lib.hid bhQ
  have hYe0 := Lib.hid hYe
  have hh0 := Lib.hid (show 1 ≤ h by omega)
  have hl0 := Lib.hid hl
  have ahu0 := Lib.hid ahu
  have bhu0 := Lib.hid bhu
  have ahc0 := Lib.hid ahc
  have bhc0 := Lib.hid bhc
  obtain ⟨E1, R, R2, k1, k2, k3, k4, k5, k6, k7⟩ := dig_final Q1 Q0 z s l1 l2
  rw [← k6, ← k7]
  clear k6 k7 k4 k5
  have n2 : ((y : Int) == 0) = false := by simp; omega
  have n3 : ¬ (y : Int) ≤ (hi : Int) := by omega
  have n4 : ((hi : Int) == 0) = false := by simp; omega
  have n6 : min s 64 = s := by omega
  have n7 : ((64 : Int) - (s : Int)).toNat = 64 - s := by omega
  have n8 : min (64 - s) 64 = 64 - s := by omega
  have nh : (h : Int) ≠ 0 := by omega
  have hhI : (h : Int) < 4294967296 := by omega
  clear hYe hl h31 ahu ahc bhu bhc hYM ahQ ahv bhQ bhv hz l1 l2 as1 bs1 as2 bs2 as3 bs3 h0 hh hy hp
  go_enter Tryd.func38, Tryd.ntmps38
  go_wp2_with fail
  go_at_call 53
  with_reducible refine (LZ.out _).mono ?_
  rintro x w1 ⟨rfl, rfl⟩
  go_wp2
  go_loop [15, 16] (fun x y => ∃ q r : Nat, x = .int .u64 (q : Int) ∧ y = .int .u64 (r : Int) ∧ Hid (Dig Y h u c1 q r) ∧ r < 4294967296 ∧ q ≤ 4294967297) (fun x _ => (intOf x).toNat)
  case atStart => exact ⟨aqs, ars, rfl, rfl, aD0, aR0.out, aQ0.out⟩
  case round =>
    obtain ⟨q, r, rfl, rfl, HD, hrl, hq⟩ := hrel
    by_cases hb1 : 4294967296 ≤ q
    · have hb0 := Lib.hid (show 4294967296 ≤ q ∨ 4294967296 * r + c1 < q * l from Or.inl hb1)
      have t1 : (4294967296 : Int) ≤ (q : Int) := by omega
      
      have hq1 := (dig_down hYe0.out hh0.out ahu0.out ahc0.out HD.out hb0.out).1
      have HD2 := Lib.hid (dig_down hYe0.out hh0.out ahu0.out ahc0.out HD.out hb0.out).2
      clear HD
      obtain ⟨q2, hq2⟩ : ∃ q2, q2 = q - 1 := ⟨_, rfl⟩
      obtain ⟨r2, hr2⟩ : ∃ r2, r2 = r + h := ⟨_, rfl⟩
      rw [← hq2, ← hr2] at HD2
      have g5 : (q : Int) - 1 = (q2 : Int) := by omega
      have g6 : (r : Int) + (h : Int) = (r2 : Int) := by omega
      have g5w : IntKind.u64.wrap (q2 : Int) = (q2 : Int) := IntWalk.u64_in _ (by omega)
      have g6w : IntKind.u64.wrap (r2 : Int) = (r2 : Int) := IntWalk.u64_in _ (by omega)
      have hq3 : q2 ≤ 4294967297 := by omega
      have hql : q2 < q := by omega
      by_cases hbr : 4294967296 ≤ r2
      · have hbr2 : (4294967296 : Int) ≤ (r2 : Int) := by omega
        have hqQ : q2 = Q1 := by rw [ahQ0.out]; exact dig_break hYe0.out hh0.out hl0.out HD2.out hq3 hbr
        clear hq1 hq2 hr2 hql hq3 HD2 hrl hq
        obtain rfl := hqQ
        go_wp2
        go_loop [18, 16] (fun x y => ∃ q r : Nat, x = .int .u64 (q : Int) ∧ y = .int .u64 (r : Int) ∧ Hid (Dig Y h v c0 q r) ∧ r < 4294967296 ∧ q ≤ 4294967297) (fun x _ => (intOf x).toNat)
        case atStart => exact ⟨bqs, brs, rfl, rfl, bD0, bR0.out, bQ0.out⟩
        case round =>
          obtain ⟨q, r, rfl, rfl, HD, hrl, hq⟩ := hrel
          by_cases hb1 : 4294967296 ≤ q
          · have hb0 := Lib.hid (show 4294967296 ≤ q ∨ 4294967296 * r + c0 < q * l from Or.inl hb1)
            have t1 : (4294967296 : Int) ≤ (q : Int) := by omega
            
            have hq1 := (dig_down hYe0.out hh0.out bhu0.out bhc0.out HD.out hb0.out).1
            have HD2 := Lib.hid (dig_down hYe0.out hh0.out bhu0.out bhc0.out HD.out hb0.out).2
            clear HD
            obtain ⟨q2, hq2⟩ : ∃ q2, q2 = q - 1 := ⟨_, rfl⟩
            obtain ⟨r2, hr2⟩ : ∃ r2, r2 = r + h := ⟨_, rfl⟩
            rw [← hq2, ← hr2] at HD2
            have g5 : (q : Int) - 1 = (q2 : Int) := by omega
            have g6 : (r : Int) + (h : Int) = (r2 : Int) := by omega
            have g5w : IntKind.u64.wrap (q2 : Int) = (q2 : Int) := IntWalk.u64_in _ (by omega)
            have g6w : IntKind.u64.wrap (r2 : Int) = (r2 : Int) := IntWalk.u64_in _ (by omega)
            have hq3 : q2 ≤ 4294967297 := by omega
            have hql : q2 < q := by omega
            by_cases hbr : 4294967296 ≤ r2
            · have hbr2 : (4294967296 : Int) ≤ (r2 : Int) := by omega
              have hqQ : q2 = Q0 := by rw [bhQ0.out]; exact dig_break hYe0.out hh0.out hl0.out HD2.out hq3 hbr
              clear hq1 hq2 hr2 hql hq3 HD2 hrl hq
              obtain rfl := hqQ
              go_wp2
              go_ret2
              exact ⟨rfl, (by repeat (first | with_reducible exact Pushed.refl _ | with_reducible assumption | with_reducible refine Pushed.push ?_ _ | with_reducible refine Pushed.alloc ?_ _ | with_reducible refine Pushed.drewN ?_ _ | with_reducible refine Pushed.drew ?_))⟩
            · have hbr2 : ¬ (4294967296 : Int) ≤ (r2 : Int) := by omega
              have HR := Lib.hid (show r2 < 4294967296 by omega)
              have HQ3 := Lib.hid hq3
              have HQL := Lib.hid hql
              clear hq1 hq2 hr2 hq3 hrl hq hql
              go_wp2
              go_round
              case rel => exact ⟨q2, r2, rfl, rfl, HD2, HR.out, HQ3.out⟩
              case measure => have := HQL.out; simp [intOf]; omega
          · have t1 : ¬ (4294967296 : Int) ≤ (q : Int) := by omega
            obtain ⟨P1, P2, P3, p1, p2, p3, p4, p5, p6⟩ := dig_test q r l c0 (by omega) hrl hl0.out bhc0.out
            by_cases ht : P3 < P1
            · have ht2 : (P3 : Int) < (P1 : Int) := by omega
              have hb0 := Lib.hid (show 4294967296 ≤ q ∨ 4294967296 * r + c0 < q * l from Or.inr (by rw [← p5.out, ← p6.out]; exact ht))
              
              have hq1 := (dig_down hYe0.out hh0.out bhu0.out bhc0.out HD.out hb0.out).1
              have HD2 := Lib.hid (dig_down hYe0.out hh0.out bhu0.out bhc0.out HD.out hb0.out).2
              clear HD
              obtain ⟨q2, hq2⟩ : ∃ q2, q2 = q - 1 := ⟨_, rfl⟩
              obtain ⟨r2, hr2⟩ : ∃ r2, r2 = r + h := ⟨_, rfl⟩
              rw [← hq2, ← hr2] at HD2
              have g5 : (q : Int) - 1 = (q2 : Int) := by omega
              have g6 : (r : Int) + (h : Int) = (r2 : Int) := by omega
              have g5w : IntKind.u64.wrap (q2 : Int) = (q2 : Int) := IntWalk.u64_in _ (by omega)
              have g6w : IntKind.u64.wrap (r2 : Int) = (r2 : Int) := IntWalk.u64_in _ (by omega)
              have hq3 : q2 ≤ 4294967297 := by omega
              have hql : q2 < q := by omega
              by_cases hbr : 4294967296 ≤ r2
              · have hbr2 : (4294967296 : Int) ≤ (r2 : Int) := by omega
                have hqQ : q2 = Q0 := by rw [bhQ0.out]; exact dig_break hYe0.out hh0.out hl0.out HD2.out hq3 hbr
                clear hq1 hq2 hr2 hql hq3 HD2 hrl hq
                obtain rfl := hqQ
                go_wp2
                go_ret2
                exact ⟨rfl, (by repeat (first | with_reducible exact Pushed.refl _ | with_reducible assumption | with_reducible refine Pushed.push ?_ _ | with_reducible refine Pushed.alloc ?_ _ | with_reducible refine Pushed.drewN ?_ _ | with_reducible refine Pushed.drew ?_))⟩
              · have hbr2 : ¬ (4294967296 : Int) ≤ (r2 : Int) := by omega
                have HR := Lib.hid (show r2 < 4294967296 by omega)
                have HQ3 := Lib.hid hq3
                have HQL := Lib.hid hql
                clear hq1 hq2 hr2 hq3 hrl hq hql
                go_wp2
                go_round
                case rel => exact ⟨q2, r2, rfl, rfl, HD2, HR.out, HQ3.out⟩
                case measure => have := HQL.out; simp [intOf]; omega
            · have ht2 : ¬ (P3 : Int) < (P1 : Int) := by omega
              have hqQ : q = Q0 := by rw [bhQ0.out]; exact dig_stop hYe0.out hh0.out HD.out (by rw [← p5.out, ← p6.out]; omega)
              clear HD hrl hq
              obtain rfl := hqQ
              go_wp2
              go_ret2
              exact ⟨rfl, (by repeat (first | with_reducible exact Pushed.refl _ | with_reducible assumption | with_reducible refine Pushed.push ?_ _ | with_reducible refine Pushed.alloc ?_ _ | with_reducible refine Pushed.drewN ?_ _ | with_reducible refine Pushed.drew ?_))⟩
      · have hbr2 : ¬ (4294967296 : Int) ≤ (r2 : Int) := by omega
        have HR := Lib.hid (show r2 < 4294967296 by omega)
        have HQ3 := Lib.hid hq3
        have HQL := Lib.hid hql
        clear hq1 hq2 hr2 hq3 hrl hq hql
        go_wp2
        go_round
        case rel => exact ⟨q2, r2, rfl, rfl, HD2, HR.out, HQ3.out⟩
        case measure => have := HQL.out; simp [intOf]; omega
    · have t1 : ¬ (4294967296 : Int) ≤ (q : Int) := by omega
      obtain ⟨P1, P2, P3, p1, p2, p3, p4, p5, p6⟩ := dig_test q r l c1 (by omega) hrl hl0.out ahc0.out
      by_cases ht : P3 < P1
      · have ht2 : (P3 : Int) < (P1 : Int) := by omega
        have hb0 := Lib.hid (show 4294967296 ≤ q ∨ 4294967296 * r + c1 < q * l from Or.inr (by rw [← p5.out, ← p6.out]; exact ht))
        
        have hq1 := (dig_down hYe0.out hh0.out ahu0.out ahc0.out HD.out hb0.out).1
        have HD2 := Lib.hid (dig_down hYe0.out hh0.out ahu0.out ahc0.out HD.out hb0.out).2
        clear HD
        obtain ⟨q2, hq2⟩ : ∃ q2, q2 = q - 1 := ⟨_, rfl⟩
        obtain ⟨r2, hr2⟩ : ∃ r2, r2 = r + h := ⟨_, rfl⟩
        rw [← hq2, ← hr2] at HD2
        have g5 : (q : Int) - 1 = (q2 : Int) := by omega
        have g6 : (r : Int) + (h : Int) = (r2 : Int) := by omega
        have g5w : IntKind.u64.wrap (q2 : Int) = (q2 : Int) := IntWalk.u64_in _ (by omega)
        have g6w : IntKind.u64.wrap (r2 : Int) = (r2 : Int) := IntWalk.u64_in _ (by omega)
        have hq3 : q2 ≤ 4294967297 := by omega
        have hql : q2 < q := by omega
        by_cases hbr : 4294967296 ≤ r2
        · have hbr2 : (4294967296 : Int) ≤ (r2 : Int) := by omega
          have hqQ : q2 = Q1 := by rw [ahQ0.out]; exact dig_break hYe0.out hh0.out hl0.out HD2.out hq3 hbr
          clear hq1 hq2 hr2 hql hq3 HD2 hrl hq
          obtain rfl := hqQ
          go_wp2
          go_loop [18, 16] (fun x y => ∃ q r : Nat, x = .int .u64 (q : Int) ∧ y = .int .u64 (r : Int) ∧ Hid (Dig Y h v c0 q r) ∧ r < 4294967296 ∧ q ≤ 4294967297) (fun x _ => (intOf x).toNat)
          case atStart => exact ⟨bqs, brs, rfl, rfl, bD0, bR0.out, bQ0.out⟩
          case round =>
            obtain ⟨q, r, rfl, rfl, HD, hrl, hq⟩ := hrel
            by_cases hb1 : 4294967296 ≤ q
            · have hb0 := Lib.hid (show 4294967296 ≤ q ∨ 4294967296 * r + c0 < q * l from Or.inl hb1)
              have t1 : (4294967296 : Int) ≤ (q : Int) := by omega
              
              have hq1 := (dig_down hYe0.out hh0.out bhu0.out bhc0.out HD.out hb0.out).1
              have HD2 := Lib.hid (dig_down hYe0.out hh0.out bhu0.out bhc0.out HD.out hb0.out).2
              clear HD
              obtain ⟨q2, hq2⟩ : ∃ q2, q2 = q - 1 := ⟨_, rfl⟩
              obtain ⟨r2, hr2⟩ : ∃ r2, r2 = r + h := ⟨_, rfl⟩
              rw [← hq2, ← hr2] at HD2
              have g5 : (q : Int) - 1 = (q2 : Int) := by omega
              have g6 : (r : Int) + (h : Int) = (r2 : Int) := by omega
              have g5w : IntKind.u64.wrap (q2 : Int) = (q2 : Int) := IntWalk.u64_in _ (by omega)
              have g6w : IntKind.u64.wrap (r2 : Int) = (r2 : Int) := IntWalk.u64_in _ (by omega)
              have hq3 : q2 ≤ 4294967297 := by omega
              have hql : q2 < q := by omega
              by_cases hbr : 4294967296 ≤ r2
              · have hbr2 : (4294967296 : Int) ≤ (r2 : Int) := by omega
                have hqQ : q2 = Q0 := by rw [bhQ0.out]; exact dig_break hYe0.out hh0.out hl0.out HD2.out hq3 hbr
                clear hq1 hq2 hr2 hql hq3 HD2 hrl hq
                obtain rfl := hqQ
                go_wp2
                go_ret2
                exact ⟨rfl, (by repeat (first | with_reducible exact Pushed.refl _ | with_reducible assumption | with_reducible refine Pushed.push ?_ _ | with_reducible refine Pushed.alloc ?_ _ | with_reducible refine Pushed.drewN ?_ _ | with_reducible refine Pushed.drew ?_))⟩
              · have hbr2 : ¬ (4294967296 : Int) ≤ (r2 : Int) := by omega
                have HR := Lib.hid (show r2 < 4294967296 by omega)
                have HQ3 := Lib.hid hq3
                have HQL := Lib.hid hql
                clear hq1 hq2 hr2 hq3 hrl hq hql
                go_wp2
                go_round
                case rel => exact ⟨q2, r2, rfl, rfl, HD2, HR.out, HQ3.out⟩
                case measure => have := HQL.out; simp [intOf]; omega
            · have t1 : ¬ (4294967296 : Int) ≤ (q : Int) := by omega
              obtain ⟨P1, P2, P3, p1, p2, p3, p4, p5, p6⟩ := dig_test q r l c0 (by omega) hrl hl0.out bhc0.out
              by_cases ht : P3 < P1
              · have ht2 : (P3 : Int) < (P1 : Int) := by omega
                have hb0 := Lib.hid (show 4294967296 ≤ q ∨ 4294967296 * r + c0 < q * l from Or.inr (by rw [← p5.out, ← p6.out]; exact ht))
                
                have hq1 := (dig_down hYe0.out hh0.out bhu0.out bhc0.out HD.out hb0.out).1
                have HD2 := Lib.hid (dig_down hYe0.out hh0.out bhu0.out bhc0.out HD.out hb0.out).2
                clear HD
                obtain ⟨q2, hq2⟩ : ∃ q2, q2 = q - 1 := ⟨_, rfl⟩
                obtain ⟨r2, hr2⟩ : ∃ r2, r2 = r + h := ⟨_, rfl⟩
                rw [← hq2, ← hr2] at HD2
                have g5 : (q : Int) - 1 = (q2 : Int) := by omega
                have g6 : (r : Int) + (h : Int) = (r2 : Int) := by omega
                have g5w : IntKind.u64.wrap (q2 : Int) = (q2 : Int) := IntWalk.u64_in _ (by omega)
                have g6w : IntKind.u64.wrap (r2 : Int) = (r2 : Int) := IntWalk.u64_in _ (by omega)
                have hq3 : q2 ≤ 4294967297 := by omega
                have hql : q2 < q := by omega
                by_cases hbr : 4294967296 ≤ r2
                · have hbr2 : (4294967296 : Int) ≤ (r2 : Int) := by omega
                  have hqQ : q2 = Q0 := by rw [bhQ0.out]; exact dig_break hYe0.out hh0.out hl0.out HD2.out hq3 hbr
                  clear hq1 hq2 hr2 hql hq3 HD2 hrl hq
                  obtain rfl := hqQ
                  go_wp2
                  go_ret2
                  exact ⟨rfl, (by repeat (first | with_reducible exact Pushed.refl _ | with_reducible assumption | with_reducible refine Pushed.push ?_ _ | with_reducible refine Pushed.alloc ?_ _ | with_reducible refine Pushed.drewN ?_ _ | with_reducible refine Pushed.drew ?_))⟩
                · have hbr2 : ¬ (4294967296 : Int) ≤ (r2 : Int) := by omega
                  have HR := Lib.hid (show r2 < 4294967296 by omega)
                  have HQ3 := Lib.hid hq3
                  have HQL := Lib.hid hql
                  clear hq1 hq2 hr2 hq3 hrl hq hql
                  go_wp2
                  go_round
                  case rel => exact ⟨q2, r2, rfl, rfl, HD2, HR.out, HQ3.out⟩
                  case measure => have := HQL.out; simp [intOf]; omega
              · have ht2 : ¬ (P3 : Int) < (P1 : Int) := by omega
                have hqQ : q = Q0 := by rw [bhQ0.out]; exact dig_stop hYe0.out hh0.out HD.out (by rw [← p5.out, ← p6.out]; omega)
                clear HD hrl hq
                obtain rfl := hqQ
                go_wp2
                go_ret2
                exact ⟨rfl, (by repeat (first | with_reducible exact Pushed.refl _ | with_reducible assumption | with_reducible refine Pushed.push ?_ _ | with_reducible refine Pushed.alloc ?_ _ | with_reducible refine Pushed.drewN ?_ _ | with_reducible refine Pushed.drew ?_))⟩
        · have hbr2 : ¬ (4294967296 : Int) ≤ (r2 : Int) := by omega
          have HR := Lib.hid (show r2 < 4294967296 by omega)
          have HQ3 := Lib.hid hq3
          have HQL := Lib.hid hql
          clear hq1 hq2 hr2 hq3 hrl hq hql
          go_wp2
          go_round
          case rel => exact ⟨q2, r2, rfl, rfl, HD2, HR.out, HQ3.out⟩
          case measure => have := HQL.out; simp [intOf]; omega
      · have ht2 : ¬ (P3 : Int) < (P1 : Int) := by omega
        have hqQ : q = Q1 := by rw [ahQ0.out]; exact dig_stop hYe0.out hh0.out HD.out (by rw [← p5.out, ← p6.out]; omega)
        clear HD hrl hq
        obtain rfl := hqQ
        go_wp2
        go_loop [18, 16] (fun x y => ∃ q r : Nat, x = .int .u64 (q : Int) ∧ y = .int .u64 (r : Int) ∧ Hid (Dig Y h v c0 q r) ∧ r < 4294967296 ∧ q ≤ 4294967297) (fun x _ => (intOf x).toNat)
        case atStart => exact ⟨bqs, brs, rfl, rfl, bD0, bR0.out, bQ0.out⟩
        case round =>
          obtain ⟨q, r, rfl, rfl, HD, hrl, hq⟩ := hrel
          by_cases hb1 : 4294967296 ≤ q
          · have hb0 := Lib.hid (show 4294967296 ≤ q ∨ 4294967296 * r + c0 < q * l from Or.inl hb1)
            have t1 : (4294967296 : Int) ≤ (q : Int) := by omega
            
            have hq1 := (dig_down hYe0.out hh0.out bhu0.out bhc0.out HD.out hb0.out).1
            have HD2 := Lib.hid (dig_down hYe0.out hh0.out bhu0.out bhc0.out HD.out hb0.out).2
            clear HD
            obtain ⟨q2, hq2⟩ : ∃ q2, q2 = q - 1 := ⟨_, rfl⟩
            obtain ⟨r2, hr2⟩ : ∃ r2, r2 = r + h := ⟨_, rfl⟩
            rw [← hq2, ← hr2] at HD2
            have g5 : (q : Int) - 1 = (q2 : Int) := by omega
            have g6 : (r : Int) + (h : Int) = (r2 : Int) := by omega
            have g5w : IntKind.u64.wrap (q2 : Int) = (q2 : Int) := IntWalk.u64_in _ (by omega)
            have g6w : IntKind.u64.wrap (r2 : Int) = (r2 : Int) := IntWalk.u64_in _ (by omega)
            have hq3 : q2 ≤ 4294967297 := by omega
            have hql : q2 < q := by omega
            by_cases hbr : 4294967296 ≤ r2
            · have hbr2 : (4294967296 : Int) ≤ (r2 : Int) := by omega
              have hqQ : q2 = Q0 := by rw [bhQ0.out]; exact dig_break hYe0.out hh0.out hl0.out HD2.out hq3 hbr
              clear hq1 hq2 hr2 hql hq3 HD2 hrl hq
              obtain rfl := hqQ
              go_wp2
              go_ret2
              exact ⟨rfl, (by repeat (first | with_reducible exact Pushed.refl _ | with_reducible assumption | with_reducible refine Pushed.push ?_ _ | with_reducible refine Pushed.alloc ?_ _ | with_reducible refine Pushed.drewN ?_ _ | with_reducible refine Pushed.drew ?_))⟩
            · have hbr2 : ¬ (4294967296 : Int) ≤ (r2 : Int) := by omega
              have HR := Lib.hid (show r2 < 4294967296 by omega)
              have HQ3 := Lib.hid hq3
              have HQL := Lib.hid hql
              clear hq1 hq2 hr2 hq3 hrl hq hql
              go_wp2
              go_round
              case rel => exact ⟨q2, r2, rfl, rfl, HD2, HR.out, HQ3.out⟩
              case measure => have := HQL.out; simp [intOf]; omega
          · have t1 : ¬ (4294967296 : Int) ≤ (q : Int) := by omega
            obtain ⟨P1, P2, P3, p1, p2, p3, p4, p5, p6⟩ := dig_test q r l c0 (by omega) hrl hl0.out bhc0.out
            by_cases ht : P3 < P1
            · have ht2 : (P3 : Int) < (P1 : Int) := by omega
              have hb0 := Lib.hid (show 4294967296 ≤ q ∨ 4294967296 * r + c0 < q * l from Or.inr (by rw [← p5.out, ← p6.out]; exact ht))
              
              have hq1 := (dig_down hYe0.out hh0.out bhu0.out bhc0.out HD.out hb0.out).1
              have HD2 := Lib.hid (dig_down hYe0.out hh0.out bhu0.out bhc0.out HD.out hb0.out).2
              clear HD
              obtain ⟨q2, hq2⟩ : ∃ q2, q2 = q - 1 := ⟨_, rfl⟩
              obtain ⟨r2, hr2⟩ : ∃ r2, r2 = r + h := ⟨_, rfl⟩
              rw [← hq2, ← hr2] at HD2
              have g5 : (q : Int) - 1 = (q2 : Int) := by omega
              have g6 : (r : Int) + (h : Int) = (r2 : Int) := by omega
              have g5w : IntKind.u64.wrap (q2 : Int) = (q2 : Int) := IntWalk.u64_in _ (by omega)
              have g6w : IntKind.u64.wrap (r2 : Int) = (r2 : Int) := IntWalk.u64_in _ (by omega)
              have hq3 : q2 ≤ 4294967297 := by omega
              have hql : q2 < q := by omega
              by_cases hbr : 4294967296 ≤ r2
              · have hbr2 : (4294967296 : Int) ≤ (r2 : Int) := by omega
                have hqQ : q2 = Q0 := by rw [bhQ0.out]; exact dig_break hYe0.out hh0.out hl0.out HD2.out hq3 hbr
                clear hq1 hq2 hr2 hql hq3 HD2 hrl hq
                obtain rfl := hqQ
                go_wp2
                go_ret2
                exact ⟨rfl, (by repeat (first | with_reducible exact Pushed.refl _ | with_reducible assumption | with_reducible refine Pushed.push ?_ _ | with_reducible refine Pushed.alloc ?_ _ | with_reducible refine Pushed.drewN ?_ _ | with_reducible refine Pushed.drew ?_))⟩
              · have hbr2 : ¬ (4294967296 : Int) ≤ (r2 : Int) := by omega
                have HR := Lib.hid (show r2 < 4294967296 by omega)
                have HQ3 := Lib.hid hq3
                have HQL := Lib.hid hql
                clear hq1 hq2 hr2 hq3 hrl hq hql
                go_wp2
                go_round
                case rel => exact ⟨q2, r2, rfl, rfl, HD2, HR.out, HQ3.out⟩
                case measure => have := HQL.out; simp [intOf]; omega
            · have ht2 : ¬ (P3 : Int) < (P1 : Int) := by omega
              have hqQ : q = Q0 := by rw [bhQ0.out]; exact dig_stop hYe0.out hh0.out HD.out (by rw [← p5.out, ← p6.out]; omega)
              clear HD hrl hq
              obtain rfl := hqQ
              go_wp2
              go_ret2
              exact ⟨rfl, (by repeat (first | with_reducible exact Pushed.refl _ | with_reducible assumption | with_reducible refine Pushed.push ?_ _ | with_reducible refine Pushed.alloc ?_ _ | with_reducible refine Pushed.drewN ?_ _ | with_reducible refine Pushed.drew ?_))⟩
end Go.Proofs.YtompkkanckejjaaDoor
