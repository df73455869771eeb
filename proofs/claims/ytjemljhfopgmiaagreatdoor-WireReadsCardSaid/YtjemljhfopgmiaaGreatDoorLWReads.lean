/-
  PROVED: for every text and every list of reads, the law WireReads returns true: any reads of any text return the specified values, and leave the specified number of bytes and error; a reader that is nil returns zero values; and the examples hold; the card ties the listed tables and variables to the program's text. Conditions: none besides the form's own reach.
-/
import Derived.Test.YtjemljhfopgmiaaGreatDoorCards
import Derived.Test.YtjemljhfopgmiaaGreatDoorTie
import Derived.WalkKit
import Derived.ProofKit
import Derived.OpenShut
import Derived.ShutString
import Derived.ChangeOld
import Derived.Below
import Derived.Deep.DeepHandedRow
import Derived.Lib.LaidTab
import Derived.LaidMore
import Derived.Stop.LaidErr
import Derived.Stop.Joined
import Derived.LaidHandle
import Derived.Lay
import Derived.MakeChecks
import Derived.Test.YtjemljhfopgmiaaGreatDoorZ26
import Derived.Deep.RegionHeld3
namespace Go.Proofs.YtjemljhfopgmiaaGreatDoor.wireReads
open Go.ChangeShapes Go.WideShapes Go.ChangeAt Go.RowKit
open Go.ChangeMaps (open_string shut_string)
set_option linter.unusedVariables false
theorem i64_in {x : Int} (h : (Lit.int .i64 x).wf = true) : -9223372036854775808 ≤ x ∧ x ≤ 9223372036854775807 := by
  simp [Lit.wf, IntKind.min, IntKind.max, IntKind.signed, IntKind.bits] at h
  exact ⟨by omega, by omega⟩
theorem u8_in {x : Int} (h : (Lit.int .u8 x).wf = true) : 0 ≤ x ∧ x ≤ 255 := by
  simp [Lit.wf, IntKind.min, IntKind.max, IntKind.signed, IntKind.bits] at h
  exact ⟨by omega, by omega⟩
set_option maxHeartbeats 6400000 in
set_option maxRecDepth 5000 in
theorem walk (s : ByteArray) (A : Option Addr) (n c : Nat) (L : List RR) (w : World) (hs : s.size ≤ maxLen) (hn : n ≤ maxLen) (hc : n ≤ c) (hS : Rds w w.heap.size A n L) (hL : ∀ f ∈ L, okR f) (hT : Pow w ∧ 3 ≤ w.heap.size) :
    Calls Tryz.prog 3 #[.string s, .slice A n c] w fun e w' => e = .returned (.bool true) ∧ Below w.heap.size w w' := by
  obtain ⟨hP, hw⟩ := hT
  have AW : Hid (∀ w', Below w.heap.size w w' → Calls Tryz.prog 4 #[] w' fun e w'' => e = .returned (.bool true) ∧ Below w.heap.size w w'') := Lib.hid fun w' hb => (awake_any w' (hP.later hb hw) (Nat.le_trans hw hb.size)).mono fun e w'' h => ⟨h.1, hb.trans (h.2.mono hb.size)⟩
  have HLF := Lib.hid hL
  have HS := Lib.hid hS
  unfold maxLen at hn hs
  clear hP hL hS
  by_cases h1 : 1000 < s.size
  · clear HLF HS
    go_enter Tryz.func3, Tryz.ntmps3
    go_wp2_with fail
    go_at_call 4
    refine (AW.out _ (Below.refl _ _)).mono ?_
    rintro e w1 ⟨rfl, hb1⟩
    go_wp2
    go_ret
    exact ⟨rfl, hb1⟩
  by_cases h2 : 50 < n
  · clear HLF HS
    go_enter Tryz.func3, Tryz.ntmps3
    go_wp2_with fail
    go_at_call 4
    refine (AW.out _ (Below.refl _ _)).mono ?_
    rintro e w1 ⟨rfl, hb1⟩
    go_wp2
    go_ret
    exact ⟨rfl, hb1⟩
  go_enter Tryz.func3, Tryz.ntmps3
  go_wp2_with fail
  go_at_call 5
  refine (newReader_any s _).mono ?_
  rintro e w1 ⟨rfl, hp1, hb1⟩
  go_wp2_with fail
  go_at_call 6
  refine (rnewReader_any s _).mono ?_
  rintro e w2 ⟨rfl, hs2, hb2⟩
  have hB2 := hb1.trans (hb2.mono hb1.size)
  have P2 := Lib.hid (hp1.below hb2 hp1.lt)
  have S2 := Lib.hid hs2
  have hpl := hp1.lt
  have hbl1 : w.heap.size ≤ w.heap.size := Nat.le_refl _
  have hbl2 := hb1.size
  have hne : ¬ w.heap.size = w1.heap.size := by omega
  clear hp1 hs2 hb1 hb2 hpl
  go_wp2_with fail
  go_at_call 7
  refine (num_nil 1 _).mono ?_
  rintro e w3 ⟨rfl, hb3⟩
  have hB3 := hB2.trans (hb3.mono hB2.size)
  have P3 := Lib.hid (P2.out.below hb3 P2.out.lt)
  have S3 := Lib.hid (S2.out.below hb3 S2.out.lt)
  clear hb3 P2 S2 hB2
  go_wp2_with fail
  go_at_call 8
  refine (alpha_nil 1 _).mono ?_
  rintro e w4 ⟨rfl, hb4⟩
  have hB4 := hB3.trans (hb4.mono hB3.size)
  have P4 := Lib.hid (P3.out.below hb4 P3.out.lt)
  have S4 := Lib.hid (S3.out.below hb4 S3.out.lt)
  clear hb4 P3 S3 hB3
  go_wp2_with fail
  go_at_call 9
  refine (var_nil 2 9 _).mono ?_
  rintro e w5 ⟨rfl, hb5⟩
  have hB5 := hB4.trans (hb5.mono hB4.size)
  have P5 := Lib.hid (P4.out.below hb5 P4.out.lt)
  have S5 := Lib.hid (S4.out.below hb5 S4.out.lt)
  clear hb5 P4 S4 hB4
  go_wp2_with fail
  go_at_call 10
  refine (take_nil 1 _).mono ?_
  rintro e w6 ⟨rfl, hb6⟩
  have hB6 := hB5.trans (hb6.mono hB5.size)
  have P6 := Lib.hid (P5.out.below hb6 P5.out.lt)
  have S6 := Lib.hid (S5.out.below hb6 S5.out.lt)
  clear hb6 P5 S5 hB5
  go_wp2_with fail
  go_at_call 11
  refine (left_nil _).mono ?_
  rintro e w7 ⟨rfl, rfl⟩
  go_wp2_with fail
  go_at_call 12
  refine (err_nil _).mono ?_
  rintro e w7 ⟨rfl, rfl⟩
  go_wp2_with fail
  go_at_call 13
  refine (end_nil _).mono ?_
  rintro e w7 ⟨rfl, rfl⟩
  generalize w1.heap.size = b2 at *
  have hq0 : s.size ≤ 1000 := by omega
  go_wp2_with fail
  go_loopw [8] (fun i wr => ∃ (j : Nat) (q : ByteArray) (cc : Int), j ≤ n ∧ i = .int .i64 (j : Int) ∧ q.size ≤ 1000 ∧ Blk wr w.heap.size RDT #[.string q, .int .i64 cc] ∧ Blk wr b2 RST #[.string q, .int .i64 cc] ∧ Below w.heap.size w wr) (fun i _ => n - (intOf i).toNat)
  case atStart => exact ⟨0, s, 0, Nat.zero_le _, rfl, hq0, P6.out, S6.out, hB6⟩
  case round =>
    clear hB6 P6 S6
    obtain ⟨j, q, cc, hj, rfl, hqz, hPb, hSb, hb⟩ := hrel
    have hbs := hb.size
    have HPb := Lib.hid hPb
    have HSb := Lib.hid hSb
    have hbl := hSb.lt
    clear hPb hSb
    by_cases hlt : j < n
    · obtain ⟨ad, x, p, rfl, hx, hp0, hpb, c0, c1, c2⟩ := Rds.at (HS.out.below hb) hlt
      have hpl : p.block < wr.heap.size := Nat.lt_of_lt_of_le hpb hb.size
      obtain ⟨x0, x1, x2⟩ := HLF.out x (rr_mem hx)
      obtain ⟨o0, o1⟩ := u8_in x0
      obtain ⟨n0, n1⟩ := i64_in x1
      clear x0 x1 x2 hx
      have hba := hb.alloc hb.size (.cells #[.int .u8 x.o, .int .i64 x.n, .int .i64 x.m] 35)
      have XB := Lib.hid (Blk.new wr 35 #[.int .u8 x.o, .int .i64 x.n, .int .i64 x.m])
      have PB := Lib.hid (HPb.out.alloc (.cells #[.int .u8 x.o, .int .i64 x.n, .int .i64 x.m] 35))
      have SB := Lib.hid (HSb.out.alloc (.cells #[.int .u8 x.o, .int .i64 x.n, .int .i64 x.m] 35))
      have hg1 : ¬ wr.heap.size = w.heap.size := by omega
      have hg2 : ¬ wr.heap.size = b2 := by omega
      have hne2 : ¬ b2 = w.heap.size := fun h => hne h.symm
      clear HPb HSb hb
      by_cases h40 : x.o % 4 = 0
      · skip
        obtain ⟨v, nn, c3, hZ⟩ := NumZ.ex q cc x.n
        have hr4 := restS_size q nn c3
        have PDN := Lib.hid (fun w' hb' => pdnum x.n hZ w.heap.size (by omega) w' hb')
        have SDN := Lib.hid (fun w' hb' => sdnum x.n hZ b2 (by omega) w' hb')
        clear hZ
        generalize restS q nn c3 = q2 at *
        go_wp2_with fail
        have G0 : (wr.alloc (.cells #[.int .u8 x.o, .int .i64 x.n, .int .i64 x.m] 35)).drew.cell? ⟨wr.heap.size, 0, none⟩ = some (.int .u8 x.o) := XB.out.cell 0
        have G1 : (wr.alloc (.cells #[.int .u8 x.o, .int .i64 x.n, .int .i64 x.m] 35)).drew.cell? ⟨wr.heap.size, 1, none⟩ = some (.int .i64 x.n) := XB.out.cell 1
        have G2 : (wr.alloc (.cells #[.int .u8 x.o, .int .i64 x.n, .int .i64 x.m] 35)).drew.cell? ⟨wr.heap.size, 2, none⟩ = some (.int .i64 x.m) := XB.out.cell 2
        go_region_held3 (fun W => W.cell? ⟨wr.heap.size, 1, none⟩ = some (.int .i64 x.n) ∧ W.cell? ⟨wr.heap.size, 2, none⟩ = some (.int .i64 x.m)) (exact ⟨by assumption, by assumption⟩) (first | (go_at_call 7; refine (PDN.out _ ?_).mono ?_; exact PB.out; rintro e w3 ⟨rfl, hp3, hs3⟩; have X3 := Lib.hid (hs3.blk XB.out XB.out.lt hg1); have S3 := Lib.hid (hs3.blk SB.out SB.out.lt hne2); have P3 := Lib.hid hp3; have hb3 := hba.drew.trans (hs3.below (Nat.le_refl _) hba.size); have xl3 := X3.out.lt; have e0 := X3.out.cell 0; have e1 := X3.out.cell 1; have e2 := X3.out.cell 2; simp at e0 e1 e2; clear hp3 hs3) | (go_at_call 14; refine (SDN.out _ ?_).mono ?_; exact S3.out; rintro e w4 ⟨rfl, hs4, ht4⟩; have X4 := Lib.hid (ht4.blk X3.out X3.out.lt hg2); have P4 := Lib.hid (ht4.blk P3.out P3.out.lt hne); have S4 := Lib.hid hs4; have hb4 := hb3.trans (ht4.below hbl2 hb3.size); have k1 := X4.out.cell 1; have k2 := X4.out.cell 2; simp at k1 k2; clear hs4 ht4))
        have P5 := P4
        have S5 := S4
        clear hba XB PB SB G0 G1 G2 k1 k2 X3 P3 S3 X4 P4 S4 hb3 xl3
        have hcc1 : (c3 == c3) = true := by simp
        go_wp2_with fail
        go_at_call 11
        refine (rd_left w.heap.size q2 c3 (by omega) _ P5.out).mono ?_
        rintro e w5 ⟨rfl, rfl⟩
        go_wp2_with fail
        go_at_call 18
        refine (sleft b2 q2 c3 (by omega) _ S5.out).mono ?_
        rintro e w5 ⟨rfl, rfl⟩
        go_wp2_with fail
        go_at_call 12
        refine (rd_err w.heap.size q2 c3 _ P5.out).mono ?_
        rintro e w5 ⟨rfl, rfl⟩
        go_wp2_with fail
        go_at_call 19
        refine (serr b2 q2 c3 _ S5.out).mono ?_
        rintro e w5 ⟨rfl, rfl⟩
        go_wp2_with fail
        go_at_call 13
        refine (rd_end w.heap.size q2 c3 _ P5.out).mono ?_
        rintro e w5 ⟨rfl, rfl⟩
        go_wp2_with fail
        go_at_call 20
        refine (send b2 q2 c3 (by omega) _ S5.out).mono ?_
        rintro e w5 ⟨rfl, rfl⟩
        go_wp2
        go_roundw
        case rel => exact ⟨j + 1, q2, c3, by omega, by go_num, by omega, P5.out, S5.out, hb4⟩
        case measure => simp [intOf]; omega
      by_cases h41 : x.o % 4 = 1
      · skip
        have z0 : (x.o % 4 == 0) = false := by simpa using h40
        obtain ⟨v, nn, c3, hZ⟩ := AlZ.ex q cc x.n
        have hr4 := restS_size q nn c3
        have PDN := Lib.hid (fun w' hb' => pdalpha x.n hZ w.heap.size (by omega) w' hb')
        have SDN := Lib.hid (fun w' hb' => sdalpha x.n hZ b2 (by omega) w' hb')
        clear hZ
        generalize restS q nn c3 = q2 at *
        go_wp2_with fail
        have G0 : (wr.alloc (.cells #[.int .u8 x.o, .int .i64 x.n, .int .i64 x.m] 35)).drew.cell? ⟨wr.heap.size, 0, none⟩ = some (.int .u8 x.o) := XB.out.cell 0
        have G1 : (wr.alloc (.cells #[.int .u8 x.o, .int .i64 x.n, .int .i64 x.m] 35)).drew.cell? ⟨wr.heap.size, 1, none⟩ = some (.int .i64 x.n) := XB.out.cell 1
        have G2 : (wr.alloc (.cells #[.int .u8 x.o, .int .i64 x.n, .int .i64 x.m] 35)).drew.cell? ⟨wr.heap.size, 2, none⟩ = some (.int .i64 x.m) := XB.out.cell 2
        go_region_held3 (fun W => W.cell? ⟨wr.heap.size, 1, none⟩ = some (.int .i64 x.n) ∧ W.cell? ⟨wr.heap.size, 2, none⟩ = some (.int .i64 x.m)) (exact ⟨by assumption, by assumption⟩) (first | (go_at_call 8; refine (PDN.out _ ?_).mono ?_; exact PB.out; rintro e w3 ⟨rfl, hp3, hs3⟩; have X3 := Lib.hid (hs3.blk XB.out XB.out.lt hg1); have S3 := Lib.hid (hs3.blk SB.out SB.out.lt hne2); have P3 := Lib.hid hp3; have hb3 := hba.drew.trans (hs3.below (Nat.le_refl _) hba.size); have xl3 := X3.out.lt; have e0 := X3.out.cell 0; have e1 := X3.out.cell 1; have e2 := X3.out.cell 2; simp at e0 e1 e2; clear hp3 hs3) | (go_at_call 15; refine (SDN.out _ ?_).mono ?_; exact S3.out; rintro e w4 ⟨rfl, hs4, ht4⟩; have X4 := Lib.hid (ht4.blk X3.out X3.out.lt hg2); have P4 := Lib.hid (ht4.blk P3.out P3.out.lt hne); have S4 := Lib.hid hs4; have hb4 := hb3.trans (ht4.below hbl2 hb3.size); have k1 := X4.out.cell 1; have k2 := X4.out.cell 2; simp at k1 k2; clear hs4 ht4))
        have P5 := P4
        have S5 := S4
        clear hba XB PB SB G0 G1 G2 k1 k2 X3 P3 S3 X4 P4 S4 hb3 xl3
        have hcc1 : (c3 == c3) = true := by simp
        go_wp2_with fail
        go_at_call 11
        refine (rd_left w.heap.size q2 c3 (by omega) _ P5.out).mono ?_
        rintro e w5 ⟨rfl, rfl⟩
        go_wp2_with fail
        go_at_call 18
        refine (sleft b2 q2 c3 (by omega) _ S5.out).mono ?_
        rintro e w5 ⟨rfl, rfl⟩
        go_wp2_with fail
        go_at_call 12
        refine (rd_err w.heap.size q2 c3 _ P5.out).mono ?_
        rintro e w5 ⟨rfl, rfl⟩
        go_wp2_with fail
        go_at_call 19
        refine (serr b2 q2 c3 _ S5.out).mono ?_
        rintro e w5 ⟨rfl, rfl⟩
        go_wp2_with fail
        go_at_call 13
        refine (rd_end w.heap.size q2 c3 _ P5.out).mono ?_
        rintro e w5 ⟨rfl, rfl⟩
        go_wp2_with fail
        go_at_call 20
        refine (send b2 q2 c3 (by omega) _ S5.out).mono ?_
        rintro e w5 ⟨rfl, rfl⟩
        go_wp2
        go_roundw
        case rel => exact ⟨j + 1, q2, c3, by omega, by go_num, by omega, P5.out, S5.out, hb4⟩
        case measure => simp [intOf]; omega
      by_cases h42 : x.o % 4 = 2
      · skip
        have z0 : (x.o % 4 == 0) = false := by simpa using h40
        have z1 : (x.o % 4 == 1) = false := by simpa using h41
        obtain ⟨v, nn, c3, hZ⟩ := VaZ.ex q cc x.n x.m
        have hr4 := restS_size q nn c3
        have PDN := Lib.hid (fun w' hb' => pdvar x.n x.m hZ w.heap.size (by omega) w' hb')
        have SDN := Lib.hid (fun w' hb' => sdvar x.n x.m hZ b2 (by omega) w' hb')
        clear hZ
        generalize restS q nn c3 = q2 at *
        go_wp2_with fail
        have G0 : (wr.alloc (.cells #[.int .u8 x.o, .int .i64 x.n, .int .i64 x.m] 35)).drew.cell? ⟨wr.heap.size, 0, none⟩ = some (.int .u8 x.o) := XB.out.cell 0
        have G1 : (wr.alloc (.cells #[.int .u8 x.o, .int .i64 x.n, .int .i64 x.m] 35)).drew.cell? ⟨wr.heap.size, 1, none⟩ = some (.int .i64 x.n) := XB.out.cell 1
        have G2 : (wr.alloc (.cells #[.int .u8 x.o, .int .i64 x.n, .int .i64 x.m] 35)).drew.cell? ⟨wr.heap.size, 2, none⟩ = some (.int .i64 x.m) := XB.out.cell 2
        go_region_held3 (fun W => W.cell? ⟨wr.heap.size, 1, none⟩ = some (.int .i64 x.n) ∧ W.cell? ⟨wr.heap.size, 2, none⟩ = some (.int .i64 x.m)) (exact ⟨by assumption, by assumption⟩) (first | (go_at_call 9; refine (PDN.out _ ?_).mono ?_; exact PB.out; rintro e w3 ⟨rfl, hp3, hs3⟩; have X3 := Lib.hid (hs3.blk XB.out XB.out.lt hg1); have S3 := Lib.hid (hs3.blk SB.out SB.out.lt hne2); have P3 := Lib.hid hp3; have hb3 := hba.drew.trans (hs3.below (Nat.le_refl _) hba.size); have xl3 := X3.out.lt; have e0 := X3.out.cell 0; have e1 := X3.out.cell 1; have e2 := X3.out.cell 2; simp at e0 e1 e2; clear hp3 hs3) | (go_at_call 16; refine (SDN.out _ ?_).mono ?_; exact S3.out; rintro e w4 ⟨rfl, hs4, ht4⟩; have X4 := Lib.hid (ht4.blk X3.out X3.out.lt hg2); have P4 := Lib.hid (ht4.blk P3.out P3.out.lt hne); have S4 := Lib.hid hs4; have hb4 := hb3.trans (ht4.below hbl2 hb3.size); have k1 := X4.out.cell 1; have k2 := X4.out.cell 2; simp at k1 k2; clear hs4 ht4))
        have P5 := P4
        have S5 := S4
        clear hba XB PB SB G0 G1 G2 k1 k2 X3 P3 S3 X4 P4 S4 hb3 xl3
        have hcc1 : (c3 == c3) = true := by simp
        go_wp2_with fail
        go_at_call 11
        refine (rd_left w.heap.size q2 c3 (by omega) _ P5.out).mono ?_
        rintro e w5 ⟨rfl, rfl⟩
        go_wp2_with fail
        go_at_call 18
        refine (sleft b2 q2 c3 (by omega) _ S5.out).mono ?_
        rintro e w5 ⟨rfl, rfl⟩
        go_wp2_with fail
        go_at_call 12
        refine (rd_err w.heap.size q2 c3 _ P5.out).mono ?_
        rintro e w5 ⟨rfl, rfl⟩
        go_wp2_with fail
        go_at_call 19
        refine (serr b2 q2 c3 _ S5.out).mono ?_
        rintro e w5 ⟨rfl, rfl⟩
        go_wp2_with fail
        go_at_call 13
        refine (rd_end w.heap.size q2 c3 _ P5.out).mono ?_
        rintro e w5 ⟨rfl, rfl⟩
        go_wp2_with fail
        go_at_call 20
        refine (send b2 q2 c3 (by omega) _ S5.out).mono ?_
        rintro e w5 ⟨rfl, rfl⟩
        go_wp2
        go_roundw
        case rel => exact ⟨j + 1, q2, c3, by omega, by go_num, by omega, P5.out, S5.out, hb4⟩
        case measure => simp [intOf]; omega
      have z0 : (x.o % 4 == 0) = false := by simpa using h40
      have z1 : (x.o % 4 == 1) = false := by simpa using h41
      have z2 : (x.o % 4 == 2) = false := by simpa using h42
      obtain ⟨v, nn, c3, hZ⟩ := TkZ.ex q cc x.n
      have hr4 := restS_size q nn c3
      have PDN := Lib.hid (fun w' hb' => pdtake x.n n1 hZ w.heap.size (by omega) w' hb')
      have SDN := Lib.hid (fun w' hb' => sdtake x.n hZ b2 (by omega) w' hb')
      clear hZ
      generalize restS q nn c3 = q2 at *
      go_wp2_with fail
      have G0 : (wr.alloc (.cells #[.int .u8 x.o, .int .i64 x.n, .int .i64 x.m] 35)).drew.cell? ⟨wr.heap.size, 0, none⟩ = some (.int .u8 x.o) := XB.out.cell 0
      have G1 : (wr.alloc (.cells #[.int .u8 x.o, .int .i64 x.n, .int .i64 x.m] 35)).drew.cell? ⟨wr.heap.size, 1, none⟩ = some (.int .i64 x.n) := XB.out.cell 1
      have G2 : (wr.alloc (.cells #[.int .u8 x.o, .int .i64 x.n, .int .i64 x.m] 35)).drew.cell? ⟨wr.heap.size, 2, none⟩ = some (.int .i64 x.m) := XB.out.cell 2
      go_region_held3 (fun W => W.cell? ⟨wr.heap.size, 1, none⟩ = some (.int .i64 x.n) ∧ W.cell? ⟨wr.heap.size, 2, none⟩ = some (.int .i64 x.m)) (exact ⟨by assumption, by assumption⟩) (first | (go_at_call 10; refine (PDN.out _ ?_).mono ?_; exact PB.out; rintro e w3 ⟨rfl, hp3, hs3⟩; have X3 := Lib.hid (hs3.blk XB.out XB.out.lt hg1); have S3 := Lib.hid (hs3.blk SB.out SB.out.lt hne2); have P3 := Lib.hid hp3; have hb3 := hba.drew.trans (hs3.below (Nat.le_refl _) hba.size); have xl3 := X3.out.lt; have e0 := X3.out.cell 0; have e1 := X3.out.cell 1; have e2 := X3.out.cell 2; simp at e0 e1 e2; clear hp3 hs3) | (go_at_call 17; refine (SDN.out _ ?_).mono ?_; exact S3.out; rintro e w4 ⟨rfl, hs4, ht4⟩; have X4 := Lib.hid (ht4.blk X3.out X3.out.lt hg2); have P4 := Lib.hid (ht4.blk P3.out P3.out.lt hne); have S4 := Lib.hid hs4; have hb4 := hb3.trans (ht4.below hbl2 hb3.size); have k1 := X4.out.cell 1; have k2 := X4.out.cell 2; simp at k1 k2; clear hs4 ht4))
      have P5 := P4
      have S5 := S4
      clear hba XB PB SB G0 G1 G2 k1 k2 X3 P3 S3 X4 P4 S4 hb3 xl3
      have hcc1 : (c3 == c3) = true := by simp
      go_wp2_with fail
      go_at_call 11
      refine (rd_left w.heap.size q2 c3 (by omega) _ P5.out).mono ?_
      rintro e w5 ⟨rfl, rfl⟩
      go_wp2_with fail
      go_at_call 18
      refine (sleft b2 q2 c3 (by omega) _ S5.out).mono ?_
      rintro e w5 ⟨rfl, rfl⟩
      go_wp2_with fail
      go_at_call 12
      refine (rd_err w.heap.size q2 c3 _ P5.out).mono ?_
      rintro e w5 ⟨rfl, rfl⟩
      go_wp2_with fail
      go_at_call 19
      refine (serr b2 q2 c3 _ S5.out).mono ?_
      rintro e w5 ⟨rfl, rfl⟩
      go_wp2_with fail
      go_at_call 13
      refine (rd_end w.heap.size q2 c3 _ P5.out).mono ?_
      rintro e w5 ⟨rfl, rfl⟩
      go_wp2_with fail
      go_at_call 20
      refine (send b2 q2 c3 (by omega) _ S5.out).mono ?_
      rintro e w5 ⟨rfl, rfl⟩
      go_wp2
      go_roundw
      case rel => exact ⟨j + 1, q2, c3, by omega, by go_num, by omega, P5.out, S5.out, hb4⟩
      case measure => simp [intOf]; omega
    · skip
      go_wp2_with fail
      go_at_call 4
      refine (AW.out _ hb).mono ?_
      rintro e w7 ⟨rfl, hb7⟩
      go_wp2
      go_ret
      exact ⟨rfl, hb7⟩

theorem own : ownKnob Tryz.prog.godebug = none := by kernel_rfl
theorem laidOut : laidOutB Tryz.prog = true := by kernel_rfl
theorem gPow : Tryz.prog.globalNamed "internal/strconv.uint64pow10" = some 2 := by kernel_rfl
theorem gPowType : (Tryz.prog.globals[2]?).map (·.type) = some 116 := by kernel_rfl
theorem cellsPow : Tryz.prog.cellsOf 116 = 20 := by kernel_rfl
theorem cellsU64 : Tryz.prog.cellsOf 89 = 1 := by kernel_rfl
theorem room {W : World} (h : Pow W) : 3 ≤ W.heap.size := by
  have hc := Lib.TabIs.cell h gPow 0 (by decide)
  rcases Nat.lt_or_ge 2 W.heap.size with hl | hl
  · omega
  · simp [World.cell?, Array.getElem?_eq_none hl] at hc
theorem table {W : World} (h : laidMetH Tryz.prog Rows.wireReadsRow.laid W) : Pow W ∧ 3 ≤ W.heap.size := by
  rw [MakeChecks.laidMetH_plain _ _ _ (by kernel_rfl)] at h
  have h1 := h
  have hp : Pow W := Lib.tabIs_of_head (k := .u64) (zs := Lib.pow10Tab) gPow gPowType Tryz.underlying116 Tryz.underlying89 cellsU64 cellsPow h1.tail.tail
  exact ⟨hp, room hp⟩

noncomputable def laidWorld (os : Os) : World := World.laidAll Tryz.prog os Rows.wireReadsRow.laid
theorem laid_met (os : Os) : laidMetH Tryz.prog Rows.wireReadsRow.laid ((laidWorld os).forCall (fun _ _ => 0) ⟨#[], #[.string ByteArray.empty, .slice none 0 0], []⟩).memory := by
  rw [MakeChecks.laidMetH_plain _ _ _ (by kernel_rfl)]; exact laidMet_laidAll _ (by kernel_rfl) (by kernel_rfl)
theorem reads (os : Os) {H : Type} (enc : TypeId × Value → H) : ∃ places, DataW.whole enc Tryz.prog ((laidWorld os).forCall (fun _ _ => 0) ⟨#[], #[.string ByteArray.empty, .slice none 0 0], []⟩).memory Tryz.f3.params.toList Rows.wireReadsSpec.vars false (#[.string ByteArray.empty, .slice none 0 0] : Array Value).toList 8 = some ([.lit (.string []), .nil], [], places) :=
  ⟨[], by kernel_rfl⟩
set_option maxRecDepth 100000 in
theorem contract (H : Type) (enc : TypeId × Value → H) (W : World) (base : Nat) (args : Array Value) (ds gs : List (DataW H)) (before : List MemPlace)
    (hval0 : ∀ (j : Nat) t v, Tryz.f3.params[j]? = some t → args[j]? = some v → Value.okWide Tryz.prog W .any base t v)
    (hW : DataW.Whole enc Tryz.prog Tryz.f3.params.toList Rows.wireReadsSpec.vars false W args.toList ds gs before) (hL : laidMetH Tryz.prog Rows.wireReadsRow.laid W) :
    Calls Tryz.prog 3 args W fun e W' => ∃ v, e = .returned v ∧ Rows.wireReadsSpec.post enc Tryz.prog Tryz.f3 false true false false W args v W' := by
  have hval : ∀ (j : Nat) t v, Tryz.f3.params[j]? = some t → args[j]? = some v → Value.okWide Tryz.prog W .any base t v := hval0
  have hW' := hW
  obtain ⟨p, q, hA0, hV, rfl, hfz, hnd⟩ := hW
  have hA : DataW.TrodAll enc Tryz.prog W 0 (fun _ => true) true Tryz.f3.params.toList args.toList ds p := hA0
  rw [Tryz.params3] at hA hval
  obtain ⟨v0, vs0, d0, ds0, p0, q0, hargs, rfl, rfl, h0, r0⟩ := trodAll_cons hA
  obtain ⟨v1, vs1, d1, ds1, p1, q1, rfl, rfl, rfl, h1, r1⟩ := trodAll_cons r0
  obtain ⟨rfl, rfl, rfl⟩ := trodAll_nil r1
  obtain rfl : args = #[v0, v1] := by cases args; simp_all
  obtain ⟨rfl, rfl⟩ := trodVars_none hV
  have k0 := h0
  have lt0 : ∀ x ∈ p0, x.block < W.heap.size := by obtain ⟨m, hm⟩ := k0; exact DataW.trod_lt m _ _ _ hm
  obtain ⟨a0, rfl, -, -, w0⟩ := open_string Tryz.underlying9 (hval 0 9 v0 rfl rfl) h0
  have k1 := h1
  have lt1 : ∀ x ∈ p1, x.block < W.heap.size := by obtain ⟨m, hm⟩ := k1; exact DataW.trod_lt m _ _ _ hm
  obtain ⟨A, ka, ca, LL, rfl, lk, lc, lS, lL⟩ := open_reads (hval 1 22 v1 rfl rfl) h1
  clear hA0 hval0
  refine (walk a0 A ka ca LL W w0 lk lc lS lL (table hL)).mono fun e W' ⟨he, bel⟩ => ?_
  subst he
  exact ⟨_, rfl, _, _, _, [], _, [], hW', trodAll_mk1 (shut_bool Tryz.underlying4 _), (trodAll_cons_mk (Below.trod laidOut (by kernel_rfl) (of_decide_eq_true (by kernel_rfl)) k0 bel lt0) (trodAll_cons_mk (Below.trod laidOut (by kernel_rfl) (of_decide_eq_true (by kernel_rfl)) k1 bel lt1) trodAll_mk0)), rfl, bel.frame _, fun h => by cases h⟩

set_option maxRecDepth 100000 in
theorem lifted (os : Os) (started : os.Started) (H : Type) (enc : TypeId × Value → H) (F : Stop.Interp) :
    ReturnsInHanded {} Tryz.checked os 3 .any ((OpenSpec.ofChange Rows.wireReadsSpec).preRow enc Tryz.prog Tryz.f3 Rows.wireReadsRow.domain false Rows.wireReadsRow.laid) (((OpenSpec.ofChange Rows.wireReadsSpec).at F).post enc Tryz.prog Tryz.f3 false true false false) := by
  obtain ⟨places, hx⟩ := reads os enc
  refine returnsInHanded_of_row (C := Tryz.checked) (s := OpenSpec.ofChange Rows.wireReadsSpec) own started (by kernel_rfl) Tryz.func3
    (witness_row_at (enc := enc) (C := Tryz.checked) false (laidWorld os) #[.string ByteArray.empty, .slice none 0 0] (World.laidAll_os _ _ _) (by kernel_rfl) (by kernel_rfl) (by kernel_rfl)
      (OpenSpec.preRow_of_cond 8 hx (by kernel_rfl) (fun k hk => by cases hk) (by kernel_rfl) (laid_met os))) ?_
  intro W base args ds gs before hval hW _ _ _ hL _ _
  exact contract H enc W base args ds gs before hval hW hL
theorem said : Rows.WireReadsSaid :=
  OpenClaim.holds_of_cond 3 Tryz.f3 rfl rfl rfl rfl rfl rfl rfl ⟨rfl, rfl, rfl, rfl, rfl⟩ rfl rfl rfl rfl rfl (by kernel_rfl) Tryz.func3 (by kernel_rfl)
    (of_decide_eq_true (by kernel_rfl)) (by unfold Func.isWrapper; first | (rw [if_pos (by decide +kernel)]; kernel_rfl) | (rw [if_neg (by decide +kernel)]; exact ⟨rfl, rfl⟩))
    (fun os started H enc _ F => by rw [OpenClaim.pre_eq_preRow]; exact lifted os started H enc F)
/-- No parameter wants a stand-in; the program's own looks are off. -/
theorem plain (f : FuncId) (fn : Func) (hf : Tryz.pinned.checked.prog.funcNamed "cardnet/cardnetlaw06.WireReads" = some f) (hfn : Tryz.pinned.checked.prog.funcs[f]? = some fn) :
    true = Tryz.pinned.checked.prog.looks [] ∧ ∀ (j : Nat) t, fn.params[j]? = some t → Tryz.pinned.checked.prog.wantsStandIn t = false := by
  obtain rfl : f = 3 := Option.some.inj ((show Tryz.prog.funcNamed "cardnet/cardnetlaw06.WireReads" = some 3 by kernel_rfl).symm.trans hf) |>.symm
  obtain rfl : fn = Tryz.f3 := (Option.some.inj (Tryz.func3.symm.trans hfn)).symm
  refine ⟨by kernel_rfl, fun j t ht => ?_⟩
  rw [Tryz.params3] at ht
  have hm : t ∈ [9, 22] := by simpa using Array.mem_of_getElem? ht
  have hall : ([9, 22].all fun u => !Tryz.prog.wantsStandIn u) = true := by kernel_rfl
  exact (show Tryz.prog.wantsStandIn t = false by simpa using List.all_eq_true.1 hall t hm)
/-- THE CARD: the statement. -/
theorem proved : Rows.WireReadsCardSaid :=
  Claim7.holds_tied_plain_at .later [] _ _ _ _ said (fun _ h => by cases h) (by kernel_rfl) (fun _ h => by cases h) wireReads_row_tie rfl ⟨rfl, rfl⟩ (by kernel_rfl) rfl plain (by kernel_rfl)
#print axioms proved
end Go.Proofs.YtjemljhfopgmiaaGreatDoor.wireReads
