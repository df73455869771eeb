/-
  CONTRACTS of wire: a reader's methods by their determined results; a region cut off from what follows it.
-/
import Derived.Test.YtjemljhfopgmiaaGreatDoorZ25
namespace Go.Proofs.YtjemljhfopgmiaaGreatDoor
open Go.RowKit
set_option linter.unusedVariables false
set_option linter.unusedSimpArgs false
def CutPost (A : Act) (F : World → Prop) : Exit → Act → World → Prop
  | .normal, a', w' => a' = A ∧ F w'
  | _, _, _ => False
theorem region_cut {P : Program} {c : Code} {Q : Exit → Act → World → Prop} {a : Act} {w : World} (F : World → Prop) {A : Act} (h : Code.wp P c (CutPost A F) a w) (h2 : ∀ w', F w' → Q .normal A w') : Code.wp P c Q a w :=
  Code.wp_mono (fun e a' w' hh => by
    cases e
    case normal =>
      obtain ⟨rfl, hF⟩ := (hh : a' = A ∧ F w')
      exact h2 w' hF
    all_goals exact (hh : False).elim) h
theorem NumbP.ex (s : ByteArray) (k : Nat) : ∃ v c, NumbP s k v c := by
  by_cases h1 : s.size < k
  · exact ⟨0, 1, .inl ⟨h1, rfl, rfl⟩⟩
  · by_cases h2 : Dgs (s.extract 0 k)
    · exact ⟨_, 0, .inr (.inr ⟨by omega, h2, rfl, rfl⟩)⟩
    · exact ⟨0, 2, .inr (.inl ⟨by omega, h2, rfl, rfl⟩)⟩
theorem NumQ.ex (s : ByteArray) (d : Int) : ∃ v n c, NumQ s d v n c := by
  by_cases h : 1 ≤ d ∧ d ≤ 15
  · obtain ⟨v, c, hN⟩ := NumbP.ex s d.toNat
    exact ⟨v, _, c, .inr ⟨h, hN, rfl⟩⟩
  · exact ⟨0, 0, 4, .inl ⟨h, rfl, rfl, rfl⟩⟩
theorem AlQ.ex (s : ByteArray) (d : Int) : ∃ v n c, AlQ s d v n c := by
  by_cases h : 1 ≤ d ∧ d ≤ 255
  · by_cases h1 : s.size < d.toNat
    · exact ⟨_, 0, 1, .inr ⟨h, .inl ⟨h1, rfl, rfl, rfl⟩⟩⟩
    · by_cases h2 : Prs (s.extract 0 d.toNat)
      · exact ⟨_, _, 0, .inr ⟨h, .inr (.inr ⟨by omega, h2, rfl, rfl, rfl⟩)⟩⟩
      · exact ⟨_, 0, 2, .inr ⟨h, .inr (.inl ⟨by omega, h2, rfl, rfl, rfl⟩)⟩⟩
  · exact ⟨_, 0, 4, .inl ⟨h, rfl, rfl, rfl⟩⟩
theorem TkQ.ex (s : ByteArray) (d : Int) : ∃ v n c, TkQ s d v n c := by
  by_cases h : d < 0
  · exact ⟨_, 0, 4, .inl ⟨h, rfl, rfl, rfl⟩⟩
  · by_cases h1 : s.size < d.toNat
    · exact ⟨_, 0, 1, .inr ⟨by omega, .inl ⟨h1, rfl, rfl, rfl⟩⟩⟩
    · exact ⟨_, _, 0, .inr ⟨by omega, .inr ⟨by omega, rfl, rfl, rfl⟩⟩⟩
theorem VaQ.ex (s : ByteArray) (d m : Int) : ∃ v n c, VaQ s d m v n c := by
  by_cases h : (d = 2 ∨ d = 3) ∧ 0 ≤ m
  · obtain ⟨v, e, hN⟩ := NumbP.ex s d.toNat
    have hb := hN.bd (by omega)
    by_cases he : e = 0
    · by_cases h1 : m < v ∨ 255 < v
      · exact ⟨_, 0, 3, .inr ⟨h, v, e, hN, .inr (.inl ⟨he, h1, rfl, rfl, rfl⟩)⟩⟩
      · by_cases h2 : (s.size : Int) < d.toNat + v
        · exact ⟨_, 0, 1, .inr ⟨h, v, e, hN, .inr (.inr (.inl ⟨he, by omega, by omega, h2, rfl, rfl, rfl⟩))⟩⟩
        · exact ⟨_, _, 0, .inr ⟨h, v, e, hN, .inr (.inr (.inr ⟨he, by omega, by omega, by omega, rfl, rfl, rfl⟩))⟩⟩
    · exact ⟨_, 0, e, .inr ⟨h, v, e, hN, .inl ⟨he, rfl, rfl, rfl⟩⟩⟩
  · exact ⟨_, 0, 4, .inl ⟨h, rfl, rfl, rfl⟩⟩
theorem NumZ.ex (s : ByteArray) (c0 d : Int) : ∃ v n c, NumZ s c0 d v n c := by
  by_cases h : c0 = 0
  · obtain ⟨v, n, c, hQ⟩ := NumQ.ex s d
    exact ⟨v, n, c, .inr ⟨h, hQ⟩⟩
  · exact ⟨_, 0, c0, .inl ⟨h, rfl, rfl, rfl⟩⟩
theorem pdnum (d : Int) {c0 : Int} {s : ByteArray} {v : Int} {n : Nat} {c : Int} (h : NumZ s c0 d v n c) (b : Nat) (hs : s.size ≤ 281474976710656) (w : World) (hb : Blk w b RDT #[.string s, .int .i64 c0]) :
    Calls Tryz.prog 7 #[.pointer (some ⟨b, 0, none⟩), .int .i64 d] w fun e w' => e = .returned (.int .i64 v) ∧ Blk w' b RDT #[.string (restS s n c), .int .i64 c] ∧ Bes b w.heap.size w w' := by
  refine (pnum d b s c0 hs w hb).mono ?_
  rintro e w' ⟨v', n', c', hZ, rfl, h1, h2⟩
  obtain ⟨rfl, rfl, rfl⟩ := h.uniq hZ
  exact ⟨rfl, h1, h2⟩
theorem sdnum (d : Int) {c0 : Int} {s : ByteArray} {v : Int} {n : Nat} {c : Int} (h : NumZ s c0 d v n c) (b : Nat) (hs : s.size ≤ 281474976710656) (w : World) (hb : Blk w b RST #[.string s, .int .i64 c0]) :
    Calls Tryz.prog 14 #[.pointer (some ⟨b, 0, none⟩), .int .i64 d] w fun e w' => e = .returned (.int .i64 v) ∧ Blk w' b RST #[.string (restS s n c), .int .i64 c] ∧ Bes b w.heap.size w w' := by
  refine (snum d b s c0 hs w hb).mono ?_
  rintro e w' ⟨v', n', c', hZ, rfl, h1, h2⟩
  obtain ⟨rfl, rfl, rfl⟩ := h.uniq hZ
  exact ⟨rfl, h1, h2⟩
theorem AlZ.ex (s : ByteArray) (c0 d : Int) : ∃ v n c, AlZ s c0 d v n c := by
  by_cases h : c0 = 0
  · obtain ⟨v, n, c, hQ⟩ := AlQ.ex s d
    exact ⟨v, n, c, .inr ⟨h, hQ⟩⟩
  · exact ⟨_, 0, c0, .inl ⟨h, rfl, rfl, rfl⟩⟩
theorem pdalpha (d : Int) {c0 : Int} {s : ByteArray} {v : ByteArray} {n : Nat} {c : Int} (h : AlZ s c0 d v n c) (b : Nat) (hs : s.size ≤ 281474976710656) (w : World) (hb : Blk w b RDT #[.string s, .int .i64 c0]) :
    Calls Tryz.prog 8 #[.pointer (some ⟨b, 0, none⟩), .int .i64 d] w fun e w' => e = .returned (.string v) ∧ Blk w' b RDT #[.string (restS s n c), .int .i64 c] ∧ Bes b w.heap.size w w' := by
  refine (palpha d b s c0 hs w hb).mono ?_
  rintro e w' ⟨v', n', c', hZ, rfl, h1, h2⟩
  obtain ⟨rfl, rfl, rfl⟩ := h.uniq hZ
  exact ⟨rfl, h1, h2⟩
theorem sdalpha (d : Int) {c0 : Int} {s : ByteArray} {v : ByteArray} {n : Nat} {c : Int} (h : AlZ s c0 d v n c) (b : Nat) (hs : s.size ≤ 281474976710656) (w : World) (hb : Blk w b RST #[.string s, .int .i64 c0]) :
    Calls Tryz.prog 15 #[.pointer (some ⟨b, 0, none⟩), .int .i64 d] w fun e w' => e = .returned (.string v) ∧ Blk w' b RST #[.string (restS s n c), .int .i64 c] ∧ Bes b w.heap.size w w' := by
  refine (salpha d b s c0 hs w hb).mono ?_
  rintro e w' ⟨v', n', c', hZ, rfl, h1, h2⟩
  obtain ⟨rfl, rfl, rfl⟩ := h.uniq hZ
  exact ⟨rfl, h1, h2⟩
theorem TkZ.ex (s : ByteArray) (c0 d : Int) : ∃ v n c, TkZ s c0 d v n c := by
  by_cases h : c0 = 0
  · obtain ⟨v, n, c, hQ⟩ := TkQ.ex s d
    exact ⟨v, n, c, .inr ⟨h, hQ⟩⟩
  · exact ⟨_, 0, c0, .inl ⟨h, rfl, rfl, rfl⟩⟩
theorem pdtake (d : Int) (d1 : d ≤ 9223372036854775807) {c0 : Int} {s : ByteArray} {v : ByteArray} {n : Nat} {c : Int} (h : TkZ s c0 d v n c) (b : Nat) (hs : s.size ≤ 281474976710656) (w : World) (hb : Blk w b RDT #[.string s, .int .i64 c0]) :
    Calls Tryz.prog 10 #[.pointer (some ⟨b, 0, none⟩), .int .i64 d] w fun e w' => e = .returned (.string v) ∧ Blk w' b RDT #[.string (restS s n c), .int .i64 c] ∧ Bes b w.heap.size w w' := by
  refine (ptake d d1 b s c0 hs w hb).mono ?_
  rintro e w' ⟨v', n', c', hZ, rfl, h1, h2⟩
  obtain ⟨rfl, rfl, rfl⟩ := h.uniq hZ
  exact ⟨rfl, h1, h2⟩
theorem sdtake (d : Int) {c0 : Int} {s : ByteArray} {v : ByteArray} {n : Nat} {c : Int} (h : TkZ s c0 d v n c) (b : Nat) (hs : s.size ≤ 281474976710656) (w : World) (hb : Blk w b RST #[.string s, .int .i64 c0]) :
    Calls Tryz.prog 17 #[.pointer (some ⟨b, 0, none⟩), .int .i64 d] w fun e w' => e = .returned (.string v) ∧ Blk w' b RST #[.string (restS s n c), .int .i64 c] ∧ Bes b w.heap.size w w' := by
  refine (stake d b s c0 hs w hb).mono ?_
  rintro e w' ⟨v', n', c', hZ, rfl, h1, h2⟩
  obtain ⟨rfl, rfl, rfl⟩ := h.uniq hZ
  exact ⟨rfl, h1, h2⟩
theorem VaZ.ex (s : ByteArray) (c0 d m : Int) : ∃ v n c, VaZ s c0 d m v n c := by
  by_cases h : c0 = 0
  · obtain ⟨v, n, c, hQ⟩ := VaQ.ex s d m
    exact ⟨v, n, c, .inr ⟨h, hQ⟩⟩
  · exact ⟨_, 0, c0, .inl ⟨h, rfl, rfl, rfl⟩⟩
theorem pdvar (d m : Int) {c0 : Int} {s : ByteArray} {v : ByteArray} {n : Nat} {c : Int} (h : VaZ s c0 d m v n c) (b : Nat) (hs : s.size ≤ 281474976710656) (w : World) (hb : Blk w b RDT #[.string s, .int .i64 c0]) :
    Calls Tryz.prog 9 #[.pointer (some ⟨b, 0, none⟩), .int .i64 d, .int .i64 m] w fun e w' => e = .returned (.string v) ∧ Blk w' b RDT #[.string (restS s n c), .int .i64 c] ∧ Bes b w.heap.size w w' := by
  refine (pvar d m b s c0 hs w hb).mono ?_
  rintro e w' ⟨v', n', c', hZ, rfl, h1, h2⟩
  obtain ⟨rfl, rfl, rfl⟩ := h.uniq hZ
  exact ⟨rfl, h1, h2⟩
theorem sdvar (d m : Int) {c0 : Int} {s : ByteArray} {v : ByteArray} {n : Nat} {c : Int} (h : VaZ s c0 d m v n c) (b : Nat) (hs : s.size ≤ 281474976710656) (w : World) (hb : Blk w b RST #[.string s, .int .i64 c0]) :
    Calls Tryz.prog 16 #[.pointer (some ⟨b, 0, none⟩), .int .i64 d, .int .i64 m] w fun e w' => e = .returned (.string v) ∧ Blk w' b RST #[.string (restS s n c), .int .i64 c] ∧ Bes b w.heap.size w w' := by
  refine (svar d m b s c0 hs w hb).mono ?_
  rintro e w' ⟨v', n', c', hZ, rfl, h1, h2⟩
  obtain ⟨rfl, rfl, rfl⟩ := h.uniq hZ
  exact ⟨rfl, h1, h2⟩
end Go.Proofs.YtjemljhfopgmiaaGreatDoor
