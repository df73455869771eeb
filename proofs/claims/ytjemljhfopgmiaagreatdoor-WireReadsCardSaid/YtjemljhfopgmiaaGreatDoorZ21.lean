/-
  CONTRACTS of wire: a reader's methods, for any reader and any arguments.
-/
import Derived.Test.YtjemljhfopgmiaaGreatDoorZ20
namespace Go.Proofs.YtjemljhfopgmiaaGreatDoor
open Go.RowKit
set_option linter.unusedVariables false
set_option linter.unusedSimpArgs false
abbrev RDT : TypeId := 42
theorem NumbP.uniq {s : ByteArray} {k : Nat} {v v' c c' : Int} (h : NumbP s k v c) (h' : NumbP s k v' c') : v = v' ∧ c = c' := by
  rcases h with ⟨a, rfl, rfl⟩ | ⟨a, b, rfl, rfl⟩ | ⟨a, b, rfl, rfl⟩ <;> rcases h' with ⟨a', rfl, rfl⟩ | ⟨a', b', rfl, rfl⟩ | ⟨a', b', rfl, rfl⟩ <;> first | exact ⟨rfl, rfl⟩ | (exfalso; omega) | (exfalso; contradiction)
theorem num1_gen (s : ByteArray) (k : Nat) (k1 : 1 ≤ k) (k2 : k ≤ 15) (hs : s.size ≤ 281474976710656) (B g h : Nat) (w : World) (hg : Blk w g 3 #[.int .i64 (k : Int)]) (hh : Blk w h 2 #[.int .i64 0]) (gh : ¬ g = h) (Bh : B ≤ h) (BW : B ≤ w.heap.size) :
    Calls Tryz.prog 26 #[.string s, .pointer (some ⟨g, 0, none⟩), .pointer (some ⟨h, 0, none⟩)] w fun e w' => ∃ (n : Nat) (c : Int), (∃ v, (NumbP s k v c ∧ n = k) ∧ Blk w' h 2 #[.int .i64 v]) ∧ (c = 0 → n ≤ s.size) ∧ e = .returned (.tuple #[.int .i64 (n : Int), .int .i64 c]) ∧ Below B w w' := by
  refine (num1_any s k k1 k2 hs B g h w hg hh gh Bh BW).mono ?_
  rintro e w' ⟨v, c, hN, rfl, hh', hb⟩
  exact ⟨k, c, ⟨v, ⟨hN, rfl⟩, hh'⟩, hN.fits, rfl, hb⟩
/-- What is left of s where a read answered c and took n bytes. -/
def restS (s : ByteArray) (n : Nat) (c : Int) : ByteArray := if c = 0 then s.extract n s.size else s
/-- What Num of a reader answers: the value, the bytes taken, the error. -/
def NumQ (s : ByteArray) (d : Int) (v : Int) (n : Nat) (c : Int) : Prop :=
  (¬ (1 ≤ d ∧ d ≤ 15) ∧ v = 0 ∧ n = 0 ∧ c = 4) ∨ ((1 ≤ d ∧ d ≤ 15) ∧ NumbP s d.toNat v c ∧ n = d.toNat)
theorem NumQ.uniq {s : ByteArray} {d v v' : Int} {n n' : Nat} {c c' : Int} (h : NumQ s d v n c) (h' : NumQ s d v' n' c') : v = v' ∧ n = n' ∧ c = c' := by
  rcases h with ⟨a, rfl, rfl, rfl⟩ | ⟨a, b, rfl⟩ <;> rcases h' with ⟨a', rfl, rfl, rfl⟩ | ⟨a', b', rfl⟩
  · exact ⟨rfl, rfl, rfl⟩
  · exact absurd a' a
  · exact absurd a a'
  · obtain ⟨rfl, rfl⟩ := b.uniq b'; exact ⟨rfl, rfl, rfl⟩
theorem AlR.uniq {s : ByteArray} {d : Nat} {t t' : ByteArray} {n n' : Nat} {c c' : Int} (h : AlR s d n c t) (h' : AlR s d n' c' t') : t = t' ∧ n = n' ∧ c = c' := by
  rcases h with ⟨a, rfl, rfl, rfl⟩ | ⟨a, b, rfl, rfl, rfl⟩ | ⟨a, b, rfl, rfl, rfl⟩ <;> rcases h' with ⟨a', rfl, rfl, rfl⟩ | ⟨a', b', rfl, rfl, rfl⟩ | ⟨a', b', rfl, rfl, rfl⟩ <;> first | exact ⟨rfl, rfl, rfl⟩ | (exfalso; omega) | (exfalso; contradiction)
theorem TkR.uniq {s : ByteArray} {d : Nat} {t t' : ByteArray} {n n' : Nat} {c c' : Int} (h : TkR s d n c t) (h' : TkR s d n' c' t') : t = t' ∧ n = n' ∧ c = c' := by
  rcases h with ⟨a, rfl, rfl, rfl⟩ | ⟨a, rfl, rfl, rfl⟩ <;> rcases h' with ⟨a', rfl, rfl, rfl⟩ | ⟨a', rfl, rfl, rfl⟩ <;> first | exact ⟨rfl, rfl, rfl⟩ | (exfalso; omega)
theorem VarR.uniq {s : ByteArray} {d : Nat} {m : Int} {t t' : ByteArray} {n n' : Nat} {c c' : Int} (h : VarR s d m n c t) (h' : VarR s d m n' c' t') : t = t' ∧ n = n' ∧ c = c' := by
  obtain ⟨v, e, hN, h⟩ := h
  obtain ⟨v', e', hN', h'⟩ := h'
  obtain ⟨rfl, rfl⟩ := hN.uniq hN'
  rcases h with ⟨a, rfl, rfl, rfl⟩ | ⟨a, b, rfl, rfl, rfl⟩ | ⟨a, b, b2, b3, rfl, rfl, rfl⟩ | ⟨a, b, b2, b3, rfl, rfl, rfl⟩ <;> rcases h' with ⟨a', rfl, rfl, rfl⟩ | ⟨a', b', rfl, rfl, rfl⟩ | ⟨a', b', b2', b3', rfl, rfl, rfl⟩ | ⟨a', b', b2', b3', rfl, rfl, rfl⟩ <;> first | exact ⟨rfl, rfl, rfl⟩ | (exfalso; omega)
/-- What Alpha, Take and Var of a reader answer. -/
def AlQ (s : ByteArray) (d : Int) (t : ByteArray) (n : Nat) (c : Int) : Prop :=
  (¬ (1 ≤ d ∧ d ≤ 255) ∧ t = ByteArray.empty ∧ n = 0 ∧ c = 4) ∨ ((1 ≤ d ∧ d ≤ 255) ∧ AlR s d.toNat n c t)
def TkQ (s : ByteArray) (d : Int) (t : ByteArray) (n : Nat) (c : Int) : Prop :=
  (d < 0 ∧ t = ByteArray.empty ∧ n = 0 ∧ c = 4) ∨ (0 ≤ d ∧ TkR s d.toNat n c t)
def VaQ (s : ByteArray) (d m : Int) (t : ByteArray) (n : Nat) (c : Int) : Prop :=
  (¬ ((d = 2 ∨ d = 3) ∧ 0 ≤ m) ∧ t = ByteArray.empty ∧ n = 0 ∧ c = 4) ∨ (((d = 2 ∨ d = 3) ∧ 0 ≤ m) ∧ VarR s d.toNat m n c t)
theorem AlQ.uniq {s : ByteArray} {d : Int} {t t' : ByteArray} {n n' : Nat} {c c' : Int} (h : AlQ s d t n c) (h' : AlQ s d t' n' c') : t = t' ∧ n = n' ∧ c = c' := by
  rcases h with ⟨a, rfl, rfl, rfl⟩ | ⟨a, b⟩ <;> rcases h' with ⟨a', rfl, rfl, rfl⟩ | ⟨a', b'⟩
  · exact ⟨rfl, rfl, rfl⟩
  · exact absurd a' a
  · exact absurd a a'
  · exact b.uniq b'
theorem TkQ.uniq {s : ByteArray} {d : Int} {t t' : ByteArray} {n n' : Nat} {c c' : Int} (h : TkQ s d t n c) (h' : TkQ s d t' n' c') : t = t' ∧ n = n' ∧ c = c' := by
  rcases h with ⟨a, rfl, rfl, rfl⟩ | ⟨a, b⟩ <;> rcases h' with ⟨a', rfl, rfl, rfl⟩ | ⟨a', b'⟩
  · exact ⟨rfl, rfl, rfl⟩
  · omega
  · omega
  · exact b.uniq b'
theorem VaQ.uniq {s : ByteArray} {d m : Int} {t t' : ByteArray} {n n' : Nat} {c c' : Int} (h : VaQ s d m t n c) (h' : VaQ s d m t' n' c') : t = t' ∧ n = n' ∧ c = c' := by
  rcases h with ⟨a, rfl, rfl, rfl⟩ | ⟨a, b⟩ <;> rcases h' with ⟨a', rfl, rfl, rfl⟩ | ⟨a', b'⟩
  · exact ⟨rfl, rfl, rfl⟩
  · exact absurd a' a
  · exact absurd a a'
  · exact b.uniq b'
set_option maxHeartbeats 1600000 in
set_option maxRecDepth 4000 in
theorem num_no (d : Int) (b : Nat) (s : ByteArray) (c : Int) (hc : c ≠ 0) (w : World) (hb : Blk w b RDT #[.string s, .int .i64 c]) :
    Calls Tryz.prog 7 #[.pointer (some ⟨b, 0, none⟩), .int .i64 d] w fun e w' => e = .returned (.int .i64 0) ∧ Below w.heap.size w w' := by
  have HB := Lib.hid hb
  go_enter Tryz.func7, Tryz.ntmps7
  go_wp2_with fail
  refine (read_no _ b s c hc _ ((HB.out.alloc _).alloc _)).mono ?_
  rintro e w1 ⟨⟨t, rfl⟩, rfl⟩
  go_wp2
  go_ret
  exact ⟨rfl, ((Below.refl _ w).alloc (Nat.le_refl _) _).alloc (by simp) _⟩
set_option maxHeartbeats 1600000 in
set_option maxRecDepth 4000 in
theorem num_nil (d : Int) (w : World) :
    Calls Tryz.prog 7 #[.pointer none, .int .i64 d] w fun e w' => e = .returned (.int .i64 0) ∧ Below w.heap.size w w' := by
  go_enter Tryz.func7, Tryz.ntmps7
  go_wp2_with fail
  refine (read_nil _ _).mono ?_
  rintro e w1 ⟨⟨t, rfl⟩, rfl⟩
  go_wp2
  go_ret
  exact ⟨rfl, ((Below.refl _ w).alloc (Nat.le_refl _) _).alloc (by simp) _⟩
set_option maxHeartbeats 1600000 in
set_option maxRecDepth 4000 in
theorem num_ok0 (d : Int) (hd : ¬ (1 ≤ d ∧ d ≤ 15)) (b : Nat) (s : ByteArray) (hs : s.size ≤ 281474976710656) (w : World) (hb : Blk w b RDT #[.string s, .int .i64 0]) :
    Calls Tryz.prog 7 #[.pointer (some ⟨b, 0, none⟩), .int .i64 d] w fun e w' => e = .returned (.int .i64 0) ∧ Blk w' b RDT #[.string s, .int .i64 4] ∧ Bes b w.heap.size w w' := by
  have hlt := hb.lt
  have E1 : (w.heap.size + 1) = (w.alloc (.cells #[.int .i64 d] 3)).heap.size := by simp
  have N0 := (Blk.new w 3 #[.int .i64 d]).alloc (.cells #[.int .i64 0] 2)
  have N1 := Blk.new (w.alloc (.cells #[.int .i64 d] 3)) 2 #[.int .i64 0]
  rw [← E1] at N1
  have V := Lib.hid (num1_bad s d hd w.heap.size w.heap.size (w.heap.size + 1) _ N0 N1)
  have C := Lib.hid (readb_num ⟨w.heap.size, 0, none⟩ ⟨w.heap.size + 1, 0, none⟩ b w.heap.size s (fun n c W => c = 4 ∧ Blk W (w.heap.size + 1) 2 #[.int .i64 0]) (fun n c W o u h => ⟨h.1, h.2.far (p := ⟨b, o, none⟩) (by show (w.heap.size + 1) ≠ b; omega) u⟩) hs _ ((hb.alloc _).alloc _) hb.lt V)
  clear N0 N1 V E1
  go_enter Tryz.func7, Tryz.ntmps7
  go_wp2_with fail
  refine C.out.mono ?_
  rintro e w1 ⟨n, c, ⟨rfl, hh1⟩, hn, ⟨q, rfl⟩, hb1, hw1⟩
  rw [if_neg (by decide)] at hb1
  have c0 := hh1.cell 0
  simp at c0
  go_wp2
  go_ret
  exact ⟨rfl, hb1, hw1.after (((Below.refl _ w).alloc (Nat.le_refl _) _).alloc (by simp) _)⟩
set_option maxHeartbeats 1600000 in
set_option maxRecDepth 4000 in
theorem num_ok1 (k : Nat) (k1 : 1 ≤ k) (k2 : k ≤ 15) (b : Nat) (s : ByteArray) (hs : s.size ≤ 281474976710656) (w : World) (hb : Blk w b RDT #[.string s, .int .i64 0]) :
    Calls Tryz.prog 7 #[.pointer (some ⟨b, 0, none⟩), .int .i64 (k : Int)] w fun e w' => ∃ v n c, (NumbP s k v c ∧ n = k) ∧ e = .returned (.int .i64 v) ∧ Blk w' b RDT #[.string (restS s n c), .int .i64 c] ∧ Bes b w.heap.size w w' := by
  have hlt := hb.lt
  have E1 : (w.heap.size + 1) = (w.alloc (.cells #[.int .i64 (k : Int)] 3)).heap.size := by simp
  have N0 := (Blk.new w 3 #[.int .i64 (k : Int)]).alloc (.cells #[.int .i64 0] 2)
  have N1 := Blk.new (w.alloc (.cells #[.int .i64 (k : Int)] 3)) 2 #[.int .i64 0]
  rw [← E1] at N1
  have V := Lib.hid (num1_gen s k k1 k2 hs w.heap.size w.heap.size (w.heap.size + 1) _ N0 N1 (by omega) (by omega) (by simp; omega))
  have C := Lib.hid (readb_num ⟨w.heap.size, 0, none⟩ ⟨w.heap.size + 1, 0, none⟩ b w.heap.size s (fun n c W => ∃ v, (NumbP s k v c ∧ n = k) ∧ Blk W (w.heap.size + 1) 2 #[.int .i64 v]) (fun n c W o u h => by obtain ⟨v, h1, h2⟩ := h; exact ⟨v, h1, h2.far (p := ⟨b, o, none⟩) (by show (w.heap.size + 1) ≠ b; omega) u⟩) hs _ ((hb.alloc _).alloc _) hb.lt V)
  clear N0 N1 V E1
  go_enter Tryz.func7, Tryz.ntmps7
  go_wp2_with fail
  refine C.out.mono ?_
  rintro e w1 ⟨n, c, ⟨v, hR, hh1⟩, hn, ⟨q, rfl⟩, hb1, hw1⟩
  have HR := Lib.hid hR
  clear hR hn
  have c0 := hh1.cell 0
  simp at c0
  go_wp2
  go_ret
  exact ⟨v, n, c, HR.out, rfl, hb1, hw1.after (((Below.refl _ w).alloc (Nat.le_refl _) _).alloc (by simp) _)⟩
set_option maxHeartbeats 1600000 in
set_option maxRecDepth 4000 in
theorem alpha_no (d : Int) (b : Nat) (s : ByteArray) (c : Int) (hc : c ≠ 0) (w : World) (hb : Blk w b RDT #[.string s, .int .i64 c]) :
    Calls Tryz.prog 8 #[.pointer (some ⟨b, 0, none⟩), .int .i64 d] w fun e w' => e = .returned (.string ByteArray.empty) ∧ Below w.heap.size w w' := by
  have HB := Lib.hid hb
  go_enter Tryz.func8, Tryz.ntmps8
  go_wp2_with fail
  refine (read_no _ b s c hc _ ((HB.out.alloc _).alloc _)).mono ?_
  rintro e w1 ⟨⟨t, rfl⟩, rfl⟩
  go_wp2
  go_ret
  exact ⟨rfl, ((Below.refl _ w).alloc (Nat.le_refl _) _).alloc (by simp) _⟩
set_option maxHeartbeats 1600000 in
set_option maxRecDepth 4000 in
theorem alpha_nil (d : Int) (w : World) :
    Calls Tryz.prog 8 #[.pointer none, .int .i64 d] w fun e w' => e = .returned (.string ByteArray.empty) ∧ Below w.heap.size w w' := by
  go_enter Tryz.func8, Tryz.ntmps8
  go_wp2_with fail
  refine (read_nil _ _).mono ?_
  rintro e w1 ⟨⟨t, rfl⟩, rfl⟩
  go_wp2
  go_ret
  exact ⟨rfl, ((Below.refl _ w).alloc (Nat.le_refl _) _).alloc (by simp) _⟩
set_option maxHeartbeats 1600000 in
set_option maxRecDepth 4000 in
theorem alpha_ok0 (d : Int) (hd : ¬ (1 ≤ d ∧ d ≤ 255)) (b : Nat) (s : ByteArray) (hs : s.size ≤ 281474976710656) (w : World) (hb : Blk w b RDT #[.string s, .int .i64 0]) :
    Calls Tryz.prog 8 #[.pointer (some ⟨b, 0, none⟩), .int .i64 d] w fun e w' => e = .returned (.string ByteArray.empty) ∧ Blk w' b RDT #[.string s, .int .i64 4] ∧ Bes b w.heap.size w w' := by
  have hlt := hb.lt
  have E1 : (w.heap.size + 1) = (w.alloc (.cells #[.int .i64 d] 3)).heap.size := by simp
  have N0 := (Blk.new w 3 #[.int .i64 d]).alloc (.cells #[.string ByteArray.empty] 9)
  have N1 := Blk.new (w.alloc (.cells #[.int .i64 d] 3)) 9 #[.string ByteArray.empty]
  rw [← E1] at N1
  have V := Lib.hid (alpha1_bad s d hd w.heap.size w.heap.size (w.heap.size + 1) _ N0 N1)
  have C := Lib.hid (readb_alpha ⟨w.heap.size, 0, none⟩ ⟨w.heap.size + 1, 0, none⟩ b w.heap.size s (fun n c W => c = 4 ∧ Blk W (w.heap.size + 1) 9 #[.string ByteArray.empty]) (fun n c W o u h => ⟨h.1, h.2.far (p := ⟨b, o, none⟩) (by show (w.heap.size + 1) ≠ b; omega) u⟩) hs _ ((hb.alloc _).alloc _) hb.lt V)
  clear N0 N1 V E1
  go_enter Tryz.func8, Tryz.ntmps8
  go_wp2_with fail
  refine C.out.mono ?_
  rintro e w1 ⟨n, c, ⟨rfl, hh1⟩, hn, ⟨q, rfl⟩, hb1, hw1⟩
  rw [if_neg (by decide)] at hb1
  have c0 := hh1.cell 0
  simp at c0
  go_wp2
  go_ret
  exact ⟨rfl, hb1, hw1.after (((Below.refl _ w).alloc (Nat.le_refl _) _).alloc (by simp) _)⟩
set_option maxHeartbeats 1600000 in
set_option maxRecDepth 4000 in
theorem alpha_ok1 (k : Nat) (k1 : 1 ≤ k) (k2 : k ≤ 255) (b : Nat) (s : ByteArray) (hs : s.size ≤ 281474976710656) (w : World) (hb : Blk w b RDT #[.string s, .int .i64 0]) :
    Calls Tryz.prog 8 #[.pointer (some ⟨b, 0, none⟩), .int .i64 (k : Int)] w fun e w' => ∃ v n c, AlR s k n c v ∧ e = .returned (.string v) ∧ Blk w' b RDT #[.string (restS s n c), .int .i64 c] ∧ Bes b w.heap.size w w' := by
  have hlt := hb.lt
  have E1 : (w.heap.size + 1) = (w.alloc (.cells #[.int .i64 (k : Int)] 3)).heap.size := by simp
  have N0 := (Blk.new w 3 #[.int .i64 (k : Int)]).alloc (.cells #[.string ByteArray.empty] 9)
  have N1 := Blk.new (w.alloc (.cells #[.int .i64 (k : Int)] 3)) 9 #[.string ByteArray.empty]
  rw [← E1] at N1
  have V := Lib.hid (alpha1 s k k1 k2 hs w.heap.size w.heap.size (w.heap.size + 1) _ N0 N1 (by omega) (by omega) (by simp; omega))
  have C := Lib.hid (readb_alpha ⟨w.heap.size, 0, none⟩ ⟨w.heap.size + 1, 0, none⟩ b w.heap.size s (fun n c W => ∃ v, AlR s k n c v ∧ Blk W (w.heap.size + 1) 9 #[.string v]) (fun n c W o u h => by obtain ⟨v, h1, h2⟩ := h; exact ⟨v, h1, h2.far (p := ⟨b, o, none⟩) (by show (w.heap.size + 1) ≠ b; omega) u⟩) hs _ ((hb.alloc _).alloc _) hb.lt V)
  clear N0 N1 V E1
  go_enter Tryz.func8, Tryz.ntmps8
  go_wp2_with fail
  refine C.out.mono ?_
  rintro e w1 ⟨n, c, ⟨v, hR, hh1⟩, hn, ⟨q, rfl⟩, hb1, hw1⟩
  have HR := Lib.hid hR
  clear hR hn
  have c0 := hh1.cell 0
  simp at c0
  go_wp2
  go_ret
  exact ⟨v, n, c, HR.out, rfl, hb1, hw1.after (((Below.refl _ w).alloc (Nat.le_refl _) _).alloc (by simp) _)⟩
set_option maxHeartbeats 1600000 in
set_option maxRecDepth 4000 in
theorem take_no (d : Int) (b : Nat) (s : ByteArray) (c : Int) (hc : c ≠ 0) (w : World) (hb : Blk w b RDT #[.string s, .int .i64 c]) :
    Calls Tryz.prog 10 #[.pointer (some ⟨b, 0, none⟩), .int .i64 d] w fun e w' => e = .returned (.string ByteArray.empty) ∧ Below w.heap.size w w' := by
  have HB := Lib.hid hb
  go_enter Tryz.func10, Tryz.ntmps10
  go_wp2_with fail
  refine (read_no _ b s c hc _ ((HB.out.alloc _).alloc _)).mono ?_
  rintro e w1 ⟨⟨t, rfl⟩, rfl⟩
  go_wp2
  go_ret
  exact ⟨rfl, ((Below.refl _ w).alloc (Nat.le_refl _) _).alloc (by simp) _⟩
set_option maxHeartbeats 1600000 in
set_option maxRecDepth 4000 in
theorem take_nil (d : Int) (w : World) :
    Calls Tryz.prog 10 #[.pointer none, .int .i64 d] w fun e w' => e = .returned (.string ByteArray.empty) ∧ Below w.heap.size w w' := by
  go_enter Tryz.func10, Tryz.ntmps10
  go_wp2_with fail
  refine (read_nil _ _).mono ?_
  rintro e w1 ⟨⟨t, rfl⟩, rfl⟩
  go_wp2
  go_ret
  exact ⟨rfl, ((Below.refl _ w).alloc (Nat.le_refl _) _).alloc (by simp) _⟩
set_option maxHeartbeats 1600000 in
set_option maxRecDepth 4000 in
theorem take_ok0 (d : Int) (hd : ¬ (0 ≤ d)) (b : Nat) (s : ByteArray) (hs : s.size ≤ 281474976710656) (w : World) (hb : Blk w b RDT #[.string s, .int .i64 0]) :
    Calls Tryz.prog 10 #[.pointer (some ⟨b, 0, none⟩), .int .i64 d] w fun e w' => e = .returned (.string ByteArray.empty) ∧ Blk w' b RDT #[.string s, .int .i64 4] ∧ Bes b w.heap.size w w' := by
  have hlt := hb.lt
  have E1 : (w.heap.size + 1) = (w.alloc (.cells #[.int .i64 d] 3)).heap.size := by simp
  have N0 := (Blk.new w 3 #[.int .i64 d]).alloc (.cells #[.string ByteArray.empty] 9)
  have N1 := Blk.new (w.alloc (.cells #[.int .i64 d] 3)) 9 #[.string ByteArray.empty]
  rw [← E1] at N1
  have V := Lib.hid (take1_bad s d (by omega) w.heap.size w.heap.size (w.heap.size + 1) _ N0 N1)
  have C := Lib.hid (readb_take ⟨w.heap.size, 0, none⟩ ⟨w.heap.size + 1, 0, none⟩ b w.heap.size s (fun n c W => c = 4 ∧ Blk W (w.heap.size + 1) 9 #[.string ByteArray.empty]) (fun n c W o u h => ⟨h.1, h.2.far (p := ⟨b, o, none⟩) (by show (w.heap.size + 1) ≠ b; omega) u⟩) hs _ ((hb.alloc _).alloc _) hb.lt V)
  clear N0 N1 V E1
  go_enter Tryz.func10, Tryz.ntmps10
  go_wp2_with fail
  refine C.out.mono ?_
  rintro e w1 ⟨n, c, ⟨rfl, hh1⟩, hn, ⟨q, rfl⟩, hb1, hw1⟩
  rw [if_neg (by decide)] at hb1
  have c0 := hh1.cell 0
  simp at c0
  go_wp2
  go_ret
  exact ⟨rfl, hb1, hw1.after (((Below.refl _ w).alloc (Nat.le_refl _) _).alloc (by simp) _)⟩
set_option maxHeartbeats 1600000 in
set_option maxRecDepth 4000 in
theorem take_ok1 (k : Nat) (k2 : k ≤ 9223372036854775807) (b : Nat) (s : ByteArray) (hs : s.size ≤ 281474976710656) (w : World) (hb : Blk w b RDT #[.string s, .int .i64 0]) :
    Calls Tryz.prog 10 #[.pointer (some ⟨b, 0, none⟩), .int .i64 (k : Int)] w fun e w' => ∃ v n c, TkR s k n c v ∧ e = .returned (.string v) ∧ Blk w' b RDT #[.string (restS s n c), .int .i64 c] ∧ Bes b w.heap.size w w' := by
  have hlt := hb.lt
  have E1 : (w.heap.size + 1) = (w.alloc (.cells #[.int .i64 (k : Int)] 3)).heap.size := by simp
  have N0 := (Blk.new w 3 #[.int .i64 (k : Int)]).alloc (.cells #[.string ByteArray.empty] 9)
  have N1 := Blk.new (w.alloc (.cells #[.int .i64 (k : Int)] 3)) 9 #[.string ByteArray.empty]
  rw [← E1] at N1
  have V := Lib.hid (take1 s k k2 hs w.heap.size w.heap.size (w.heap.size + 1) _ N0 N1 (by omega) (by omega) (by simp; omega))
  have C := Lib.hid (readb_take ⟨w.heap.size, 0, none⟩ ⟨w.heap.size + 1, 0, none⟩ b w.heap.size s (fun n c W => ∃ v, TkR s k n c v ∧ Blk W (w.heap.size + 1) 9 #[.string v]) (fun n c W o u h => by obtain ⟨v, h1, h2⟩ := h; exact ⟨v, h1, h2.far (p := ⟨b, o, none⟩) (by show (w.heap.size + 1) ≠ b; omega) u⟩) hs _ ((hb.alloc _).alloc _) hb.lt V)
  clear N0 N1 V E1
  go_enter Tryz.func10, Tryz.ntmps10
  go_wp2_with fail
  refine C.out.mono ?_
  rintro e w1 ⟨n, c, ⟨v, hR, hh1⟩, hn, ⟨q, rfl⟩, hb1, hw1⟩
  have HR := Lib.hid hR
  clear hR hn
  have c0 := hh1.cell 0
  simp at c0
  go_wp2
  go_ret
  exact ⟨v, n, c, HR.out, rfl, hb1, hw1.after (((Below.refl _ w).alloc (Nat.le_refl _) _).alloc (by simp) _)⟩
set_option maxHeartbeats 1600000 in
set_option maxRecDepth 4000 in
theorem var_no (d m : Int) (b : Nat) (s : ByteArray) (c : Int) (hc : c ≠ 0) (w : World) (hb : Blk w b RDT #[.string s, .int .i64 c]) :
    Calls Tryz.prog 9 #[.pointer (some ⟨b, 0, none⟩), .int .i64 d, .int .i64 m] w fun e w' => e = .returned (.string ByteArray.empty) ∧ Below w.heap.size w w' := by
  have HB := Lib.hid hb
  go_enter Tryz.func9, Tryz.ntmps9
  go_wp2_with fail
  refine (read_no _ b s c hc _ (((HB.out.alloc _).alloc _).alloc _)).mono ?_
  rintro e w1 ⟨⟨t, rfl⟩, rfl⟩
  go_wp2
  go_ret
  exact ⟨rfl, (((Below.refl _ w).alloc (Nat.le_refl _) _).alloc (by simp) _).alloc (by simp; omega) _⟩
set_option maxHeartbeats 1600000 in
set_option maxRecDepth 4000 in
theorem var_nil (d m : Int) (w : World) :
    Calls Tryz.prog 9 #[.pointer none, .int .i64 d, .int .i64 m] w fun e w' => e = .returned (.string ByteArray.empty) ∧ Below w.heap.size w w' := by
  go_enter Tryz.func9, Tryz.ntmps9
  go_wp2_with fail
  refine (read_nil _ _).mono ?_
  rintro e w1 ⟨⟨t, rfl⟩, rfl⟩
  go_wp2
  go_ret
  exact ⟨rfl, (((Below.refl _ w).alloc (Nat.le_refl _) _).alloc (by simp) _).alloc (by simp; omega) _⟩
set_option maxHeartbeats 1600000 in
set_option maxRecDepth 4000 in
theorem var_ok0 (d m : Int) (hd : ¬ ((d = 2 ∨ d = 3) ∧ 0 ≤ m)) (b : Nat) (s : ByteArray) (hs : s.size ≤ 281474976710656) (w : World) (hb : Blk w b RDT #[.string s, .int .i64 0]) :
    Calls Tryz.prog 9 #[.pointer (some ⟨b, 0, none⟩), .int .i64 d, .int .i64 m] w fun e w' => e = .returned (.string ByteArray.empty) ∧ Blk w' b RDT #[.string s, .int .i64 4] ∧ Bes b w.heap.size w w' := by
  have hlt := hb.lt
  have E1 : (w.heap.size + 1) = (w.alloc (.cells #[.int .i64 d] 3)).heap.size := by simp
  have E2 : (w.heap.size + 2) = ((w.alloc (.cells #[.int .i64 d] 3)).alloc (.cells #[.int .i64 m] 3)).heap.size := by simp
  have N0 := ((Blk.new w 3 #[.int .i64 d]).alloc (.cells #[.int .i64 m] 3)).alloc (.cells #[.string ByteArray.empty] 9)
  have N1 := (Blk.new (w.alloc (.cells #[.int .i64 d] 3)) 3 #[.int .i64 m]).alloc (.cells #[.string ByteArray.empty] 9)
  rw [← E1] at N1
  have N2 := Blk.new ((w.alloc (.cells #[.int .i64 d] 3)).alloc (.cells #[.int .i64 m] 3)) 9 #[.string ByteArray.empty]
  rw [← E2] at N2
  have V := Lib.hid (var1_bad s d m hd w.heap.size w.heap.size (w.heap.size + 1) (w.heap.size + 2) _ N0 N1 N2)
  have C := Lib.hid (readb_var ⟨w.heap.size, 0, none⟩ ⟨w.heap.size + 1, 0, none⟩ ⟨w.heap.size + 2, 0, none⟩ b w.heap.size s (fun n c W => c = 4 ∧ Blk W (w.heap.size + 2) 9 #[.string ByteArray.empty]) (fun n c W o u h => ⟨h.1, h.2.far (p := ⟨b, o, none⟩) (by show (w.heap.size + 2) ≠ b; omega) u⟩) hs _ (((hb.alloc _).alloc _).alloc _) hb.lt V)
  clear N0 N1 N2 V E1 E2
  go_enter Tryz.func9, Tryz.ntmps9
  go_wp2_with fail
  refine C.out.mono ?_
  rintro e w1 ⟨n, c, ⟨rfl, hh1⟩, hn, ⟨q, rfl⟩, hb1, hw1⟩
  rw [if_neg (by decide)] at hb1
  have c0 := hh1.cell 0
  simp at c0
  go_wp2
  go_ret
  exact ⟨rfl, hb1, hw1.after ((((Below.refl _ w).alloc (Nat.le_refl _) _).alloc (by simp) _).alloc (by simp; omega) _)⟩
set_option maxHeartbeats 1600000 in
set_option maxRecDepth 4000 in
theorem var_ok2 (m : Int) (m0 : 0 ≤ m) (b : Nat) (s : ByteArray) (hs : s.size ≤ 281474976710656) (w : World) (hb : Blk w b RDT #[.string s, .int .i64 0]) :
    Calls Tryz.prog 9 #[.pointer (some ⟨b, 0, none⟩), .int .i64 2, .int .i64 m] w fun e w' => ∃ v n c, VarR s 2 m n c v ∧ e = .returned (.string v) ∧ Blk w' b RDT #[.string (restS s n c), .int .i64 c] ∧ Bes b w.heap.size w w' := by
  have hlt := hb.lt
  have E1 : (w.heap.size + 1) = (w.alloc (.cells #[.int .i64 2] 3)).heap.size := by simp
  have E2 : (w.heap.size + 2) = ((w.alloc (.cells #[.int .i64 2] 3)).alloc (.cells #[.int .i64 m] 3)).heap.size := by simp
  have N0 := ((Blk.new w 3 #[.int .i64 2]).alloc (.cells #[.int .i64 m] 3)).alloc (.cells #[.string ByteArray.empty] 9)
  have N1 := (Blk.new (w.alloc (.cells #[.int .i64 2] 3)) 3 #[.int .i64 m]).alloc (.cells #[.string ByteArray.empty] 9)
  rw [← E1] at N1
  have N2 := Blk.new ((w.alloc (.cells #[.int .i64 2] 3)).alloc (.cells #[.int .i64 m] 3)) 9 #[.string ByteArray.empty]
  rw [← E2] at N2
  have V := Lib.hid (var1_2 s m m0 hs w.heap.size w.heap.size (w.heap.size + 1) (w.heap.size + 2) _ N0 N1 N2 (by omega) (by omega) (by omega) (by simp; omega))
  have C := Lib.hid (readb_var ⟨w.heap.size, 0, none⟩ ⟨w.heap.size + 1, 0, none⟩ ⟨w.heap.size + 2, 0, none⟩ b w.heap.size s (fun n c W => ∃ v, VarR s 2 m n c v ∧ Blk W (w.heap.size + 2) 9 #[.string v]) (fun n c W o u h => by obtain ⟨v, h1, h2⟩ := h; exact ⟨v, h1, h2.far (p := ⟨b, o, none⟩) (by show (w.heap.size + 2) ≠ b; omega) u⟩) hs _ (((hb.alloc _).alloc _).alloc _) hb.lt V)
  clear N0 N1 N2 V E1 E2
  go_enter Tryz.func9, Tryz.ntmps9
  go_wp2_with fail
  refine C.out.mono ?_
  rintro e w1 ⟨n, c, ⟨v, hR, hh1⟩, hn, ⟨q, rfl⟩, hb1, hw1⟩
  have HR := Lib.hid hR
  clear hR hn
  have c0 := hh1.cell 0
  simp at c0
  go_wp2
  go_ret
  exact ⟨v, n, c, HR.out, rfl, hb1, hw1.after ((((Below.refl _ w).alloc (Nat.le_refl _) _).alloc (by simp) _).alloc (by simp; omega) _)⟩
set_option maxHeartbeats 1600000 in
set_option maxRecDepth 4000 in
theorem var_ok3 (m : Int) (m0 : 0 ≤ m) (b : Nat) (s : ByteArray) (hs : s.size ≤ 281474976710656) (w : World) (hb : Blk w b RDT #[.string s, .int .i64 0]) :
    Calls Tryz.prog 9 #[.pointer (some ⟨b, 0, none⟩), .int .i64 3, .int .i64 m] w fun e w' => ∃ v n c, VarR s 3 m n c v ∧ e = .returned (.string v) ∧ Blk w' b RDT #[.string (restS s n c), .int .i64 c] ∧ Bes b w.heap.size w w' := by
  have hlt := hb.lt
  have E1 : (w.heap.size + 1) = (w.alloc (.cells #[.int .i64 3] 3)).heap.size := by simp
  have E2 : (w.heap.size + 2) = ((w.alloc (.cells #[.int .i64 3] 3)).alloc (.cells #[.int .i64 m] 3)).heap.size := by simp
  have N0 := ((Blk.new w 3 #[.int .i64 3]).alloc (.cells #[.int .i64 m] 3)).alloc (.cells #[.string ByteArray.empty] 9)
  have N1 := (Blk.new (w.alloc (.cells #[.int .i64 3] 3)) 3 #[.int .i64 m]).alloc (.cells #[.string ByteArray.empty] 9)
  rw [← E1] at N1
  have N2 := Blk.new ((w.alloc (.cells #[.int .i64 3] 3)).alloc (.cells #[.int .i64 m] 3)) 9 #[.string ByteArray.empty]
  rw [← E2] at N2
  have V := Lib.hid (var1_3 s m m0 hs w.heap.size w.heap.size (w.heap.size + 1) (w.heap.size + 2) _ N0 N1 N2 (by omega) (by omega) (by omega) (by simp; omega))
  have C := Lib.hid (readb_var ⟨w.heap.size, 0, none⟩ ⟨w.heap.size + 1, 0, none⟩ ⟨w.heap.size + 2, 0, none⟩ b w.heap.size s (fun n c W => ∃ v, VarR s 3 m n c v ∧ Blk W (w.heap.size + 2) 9 #[.string v]) (fun n c W o u h => by obtain ⟨v, h1, h2⟩ := h; exact ⟨v, h1, h2.far (p := ⟨b, o, none⟩) (by show (w.heap.size + 2) ≠ b; omega) u⟩) hs _ (((hb.alloc _).alloc _).alloc _) hb.lt V)
  clear N0 N1 N2 V E1 E2
  go_enter Tryz.func9, Tryz.ntmps9
  go_wp2_with fail
  refine C.out.mono ?_
  rintro e w1 ⟨n, c, ⟨v, hR, hh1⟩, hn, ⟨q, rfl⟩, hb1, hw1⟩
  have HR := Lib.hid hR
  clear hR hn
  have c0 := hh1.cell 0
  simp at c0
  go_wp2
  go_ret
  exact ⟨v, n, c, HR.out, rfl, hb1, hw1.after ((((Below.refl _ w).alloc (Nat.le_refl _) _).alloc (by simp) _).alloc (by simp; omega) _)⟩
end Go.Proofs.YtjemljhfopgmiaaGreatDoor
