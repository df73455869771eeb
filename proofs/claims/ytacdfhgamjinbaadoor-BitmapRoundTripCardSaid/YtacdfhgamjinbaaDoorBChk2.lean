/-
  CONTRACTS of strconv.ParseUint at base 16 and of LowerHex at every text.
-/
import Derived.Test.YtacdfhgamjinbaaDoorBChk
namespace Go.Proofs.YtacdfhgamjinbaaDoor
open Go.RowKit
set_option linter.unusedVariables false
def PGen (B : World) (e : Ending) (w' : World) : Prop := ∃ (x : Int) (v : Value), e = .returned (.tuple #[.int .u64 x, v]) ∧ (v = Value.nilIface ∨ v = .iface 60 (.int .i64 2) ∨ v = .iface 60 (.int .i64 1)) ∧ Below B.heap.size B w'
def lw (c : Int) : Int := bits .or .u8 c 32
theorem lowerGen_any (c : Int) (w : World) : Calls Tryd.prog 48 #[.int .u8 c] w fun e w' => e = .returned (.int .u8 (lw c)) ∧ w = w' :=
  (Tryd.internal_strconv_lower c w).mono fun _ _ ⟨he, hw⟩ => ⟨he, hw.symm⟩
set_option maxHeartbeats 4000000 in
set_option maxRecDepth 100000 in
theorem parseGen_any (s : ByteArray) (hs : s.size ≤ 1000) (w : World) :
    Calls Tryd.prog 44 #[.string s, .int .i64 16, .int .i64 64] w (PGen w) := by
  by_cases h0 : s.size = 0
  · have hne : s.toList.isEmpty = true := by
      rw [ByteArray.toList_eq, List.isEmpty_iff]
      exact List.eq_nil_of_length_eq_zero h0
    have hne2 : (!s.toList.isEmpty) = false := by rw [hne]; rfl
    clear h0
    go_enter Tryd.func44, Tryd.ntmps44
    go_wp2
    go_ret2
    exact ⟨_, _, rfl, .inr (.inl rfl), Below.refl _ _⟩
  have hne : s.toList.isEmpty = false := by
    rw [ByteArray.toList_eq, Bool.eq_false_iff]
    intro h
    rw [List.isEmpty_iff] at h
    have := congrArg List.length h
    rw [size_list] at this
    exact h0 this
  have hne2 : (!s.toList.isEmpty) = true := by rw [hne]; rfl
  have hcv := conv_bytes w s
  clear h0
  go_enter Tryd.func44, Tryd.ntmps44
  go_wp2_with fail
  clear hcv hne hne2
  rw [show IntKind.u64.wrap (IntKind.u64.wrap 18446744073709551616 - 1) = 18446744073709551615 by decide +kernel]
  have hR : Row ((w.alloc (.cells (bytesRow s (grownCap w s.size 0 5)) 5 ((bytesRow s (grownCap w s.size 0 5)).size, (bytesRow s (grownCap w s.size 0 5)).size + 1))).drew) w.heap.size s.data.toList := Row.new w s (grownCap w s.size 0 5)
  have hbW : Below w.heap.size w ((w.alloc (.cells (bytesRow s (grownCap w s.size 0 5)) 5 ((bytesRow s (grownCap w s.size 0 5)).size, (bytesRow s (grownCap w s.size 0 5)).size + 1))).drew) := ((Below.refl _ _).alloc (Nat.le_refl _) _).drew
  generalize (w.alloc (.cells (bytesRow s (grownCap w s.size 0 5)) 5 ((bytesRow s (grownCap w s.size 0 5)).size, (bytesRow s (grownCap w s.size 0 5)).size + 1))).drew = V at *
  obtain ⟨c60, hc60⟩ : ∃ c : Int, c = 1152921504606846976 := ⟨_, rfl⟩
  obtain ⟨m64, hm64⟩ : ∃ c : Int, c = 18446744073709551615 := ⟨_, rfl⟩
  rw [← hc60, ← hm64]
  clear hc60 hm64
  have HR := Lib.hid hR
  have HBW := Lib.hid hbW
  clear hR hbW
  go_loop [12, 13, 101] (fun u a i => ∃ (k : Nat) (x : Int), k ≤ s.size ∧ i = .int .i64 k ∧ u = .bool false ∧ a = .int .u64 x) (fun _ _ i => s.size - (intOf i).toNat)
  case atStart => exact ⟨0, 0, Nat.zero_le _, rfl, rfl, rfl⟩
  case round =>
    obtain ⟨k, x, hk, rfl, rfl, rfl⟩ := hrel
    by_cases hlt : k < s.size
    · have hC := HR.out.cell k (show k < s.data.toList.length from hlt)
      have hb : (s.data.toList[k]'hlt).toNat < 256 := (s.data.toList[k]'hlt).toNat_lt
      generalize (s.data.toList[k]'hlt).toNat = c at *
      go_wp2_with (go_at_call 48; refine (lowerGen_any _ _).mono ?_; rintro e w' ⟨rfl, rfl⟩)
      all_goals first
        | exact ⟨⟨k + 1, _, by omega, y5 k, rfl, rfl⟩, by simp [intOf]; omega⟩
        | (go_ret2; exact ⟨_, _, rfl, .inr (.inl rfl), HBW.out⟩)
        | (go_ret2; exact ⟨_, _, rfl, .inr (.inr rfl), HBW.out⟩)
    · go_wp2
      go_ret2
      exact ⟨_, _, rfl, .inl rfl, HBW.out⟩
/-- The two errors of package strconv are there. -/
def Errs (w : World) : Prop := 2 < w.heap.size ∧ (∃ te pe, w.cell? ⟨0, 0, none⟩ = some (.iface te pe)) ∧ (∃ te pe, w.cell? ⟨1, 0, none⟩ = some (.iface te pe))
theorem Errs.upto {w w' : World} {B : Nat} (h : Errs w) (hb : Below B w w') (hB : 2 < B) : Errs w' := by
  obtain ⟨h1, ⟨t1, p1, c1⟩, t2, p2, c2⟩ := h
  exact ⟨Nat.lt_of_lt_of_le h1 hb.size, ⟨t1, p1, (hb.cell (p := ⟨0, 0, none⟩) (show 0 < B by omega)).trans c1⟩, ⟨t2, p2, (hb.cell (p := ⟨1, 0, none⟩) (show 1 < B by omega)).trans c2⟩⟩
theorem Errs.below {w w' : World} (h : Errs w) (hb : Below w.heap.size w w') : Errs w' := h.upto hb h.1
def PPub (B : World) (e : Ending) (w' : World) : Prop := ∃ (x : Int) (v : Value), e = .returned (.tuple #[.int .u64 x, v]) ∧ (v = Value.nilIface ∨ ∃ p, v = .iface 63 p) ∧ Below B.heap.size B w'
theorem parsePubGen_any (s : ByteArray) (hs : s.size ≤ 1000) (w : World) (hE : Errs w) :
    Calls Tryd.prog 41 #[.string s, .int .i64 16, .int .i64 64] w (PPub w) := by
  have HC := Lib.hid (parseGen_any s hs w)
  have HE := Lib.hid hE
  clear hE
  go_enter Tryd.func41, Tryd.ntmps41
  go_wp2_with fail
  refine HC.out.mono ?_
  rintro e w1 ⟨x, v, rfl, hv, hb⟩
  have HE1 := HE.out.below hb
  obtain ⟨_, ⟨t1, p1, c1⟩, t2, p2, c2⟩ := HE1
  have HB := Lib.hid hb
  clear hb
  have HY := Lib.hid (Tryd.strconv_toError_syntax ⟨#[80, 97, 114, 115, 101, 85, 105, 110, 116]⟩ s 16 64 _ w1 (by omega) c1 (.inr ⟨_, _, rfl⟩))
  have HZ := Lib.hid (Tryd.strconv_toError_range ⟨#[80, 97, 114, 115, 101, 85, 105, 110, 116]⟩ s 16 64 _ w1 (by omega) c2 (.inr ⟨_, _, rfl⟩))
  clear c1 c2
  rcases hv with rfl | rfl | rfl
  · go_wp2
    go_ret2
    exact ⟨_, _, rfl, .inl rfl, HB.out⟩
  · go_wp2_with (go_at_call 45; refine HY.out.mono ?_; rintro e w2 ⟨N, rfl, _, _, hb2⟩)
    go_ret2
    exact ⟨_, _, rfl, .inr ⟨_, rfl⟩, HB.out.trans (hb2.mono HB.out.size)⟩
  · go_wp2_with (go_at_call 45; refine HZ.out.mono ?_; rintro e w2 ⟨N, rfl, _, _, hb2⟩)
    go_ret2
    exact ⟨_, _, rfl, .inr ⟨_, rfl⟩, HB.out.trans (hb2.mono HB.out.size)⟩
/-- A text with a byte that is no lower-case digit. -/
theorem lowerHex_no (s : ByteArray) (hs : s.size ≤ 1000) (hl : ¬ ∀ (k : Nat) (h : k < s.size), lowN s[k].toNat) (w : World) :
    Calls Tryd.prog 42 #[.string s] w fun e w' => e = .returned (.bool false) ∧ w = w' := by
  have HL := Lib.hid hl
  clear hl
  go_enter Tryd.func42, Tryd.ntmps42
  go_wp2_with fail
  go_loop [3] (fun i => ∃ k : Nat, k ≤ s.size ∧ i = .int .i64 k ∧ ∀ (j : Nat) (h : j < s.size), j < k → lowN s[j].toNat) (fun i => s.size - (intOf i).toNat)
  case atStart => exact ⟨0, Nat.zero_le _, rfl, fun j _ h => absurd h (by omega)⟩
  case round =>
    obtain ⟨k, hk, rfl, hall⟩ := hrel
    have HA := Lib.hid hall
    clear hall
    by_cases hlt : k < s.size
    · have hb : s[k].toNat < 256 := s[k].toNat_lt
      have HN : Hid (lowN s[k].toNat → ∀ (j : Nat) (h : j < s.size), j < k + 1 → lowN s[j].toNat) := Lib.hid (fun hlo j h hj => by
        by_cases e : j = k
        · subst e; exact hlo
        · exact HA.out j h (by omega))
      cases hD : digitB ↑s[k].toNat
      · by_cases h1 : 97 ≤ s[k].toNat ∧ s[k].toNat ≤ 102
        · obtain ⟨h2, h3⟩ := h1
          have HM := Lib.hid (HN.out (.inr ⟨h2, h3⟩))
          go_wp2_with (go_at_call 46; refine (digit_any _ (by omega) (by omega) _).mono ?_; rintro e w' ⟨rfl, rfl⟩)
          exact ⟨⟨k + 1, by omega, y5 k, HM.out⟩, by simp [intOf]; omega⟩
        · by_cases h2 : 97 ≤ s[k].toNat
          · have h3 : 102 < s[k].toNat := by omega
            clear h1
            go_wp2_with (go_at_call 46; refine (digit_any _ (by omega) (by omega) _).mono ?_; rintro e w' ⟨rfl, rfl⟩)
            go_ret
            exact ⟨rfl, rfl⟩
          · have h3 : s[k].toNat < 97 := by omega
            clear h1 h2
            go_wp2_with (go_at_call 46; refine (digit_any _ (by omega) (by omega) _).mono ?_; rintro e w' ⟨rfl, rfl⟩)
            go_ret
            exact ⟨rfl, rfl⟩
      · have HM := Lib.hid (HN.out (.inl (by unfold digitB at hD; simp at hD; omega)))
        go_wp2_with (go_at_call 46; refine (digit_any _ (by omega) (by omega) _).mono ?_; rintro e w' ⟨rfl, rfl⟩)
        exact ⟨⟨k + 1, by omega, y5 k, HM.out⟩, by simp [intOf]; omega⟩
    · exact absurd (fun j h => HA.out j h (by omega)) HL.out
end Go.Proofs.YtacdfhgamjinbaaDoor
