/-
  The table of places that the reference's Block lays.
-/
import Derived.Test.YtckcfgbcnefbhaaRefG
namespace Go.Proofs.Ytckcfgbcnefbhaa
open Go.RowKit
set_option linter.unusedVariables false
set_option maxRecDepth 100000

/-- The table of places, as the reference lays it. -/
def tabL (w : World) : World := ((((((((w.alloc (.cells #[.int .i64 0, .int .i64 4, .int .i64 8, .int .i64 12] 3)).alloc (.cells #[.int .i64 1, .int .i64 5, .int .i64 9, .int .i64 13] 3)).alloc (.cells #[.int .i64 2, .int .i64 6, .int .i64 10, .int .i64 14] 3)).alloc (.cells #[.int .i64 3, .int .i64 7, .int .i64 11, .int .i64 15] 3)).alloc (.cells #[.int .i64 0, .int .i64 5, .int .i64 10, .int .i64 15] 3)).alloc (.cells #[.int .i64 1, .int .i64 6, .int .i64 11, .int .i64 12] 3)).alloc (.cells #[.int .i64 2, .int .i64 7, .int .i64 8, .int .i64 13] 3)).alloc (.cells #[.int .i64 3, .int .i64 4, .int .i64 9, .int .i64 14] 3)).alloc (.cells #[.slice (some ⟨w.heap.size, 0, none⟩) 4 4, .slice (some ⟨w.heap.size + 1, 0, none⟩) 4 4, .slice (some ⟨w.heap.size + 1 + 1, 0, none⟩) 4 4, .slice (some ⟨w.heap.size + 1 + 1 + 1, 0, none⟩) 4 4, .slice (some ⟨w.heap.size + 1 + 1 + 1 + 1, 0, none⟩) 4 4, .slice (some ⟨w.heap.size + 1 + 1 + 1 + 1 + 1, 0, none⟩) 4 4, .slice (some ⟨w.heap.size + 1 + 1 + 1 + 1 + 1 + 1, 0, none⟩) 4 4, .slice (some ⟨w.heap.size + 1 + 1 + 1 + 1 + 1 + 1 + 1, 0, none⟩) 4 4] 65)
def tabRow (k : Nat) : List Value := (List.range 4).map fun i => .int .i64 ((place k i : Nat) : Int)
def tabAll (M : Nat) : List Value := (List.range 8).map fun k => .slice (some ⟨M + k, 0, none⟩) 4 4
theorem tab_rows (w : World) : (∀ k, k < 8 → RowIs (tabL w) (w.heap.size + k) 3 (tabRow k)) ∧ RowIs (tabL w) (w.heap.size + 8) 65 (tabAll w.heap.size) ∧ Below w.heap.size w (tabL w) := by
  have hs : ∀ (w : World) (o : Obj), (w.alloc o).heap.size = w.heap.size + 1 := fun w o => by simp
  unfold tabL
  have r0 := RowIs.new w 3 (tabRow 0)
  have s1 : (w.alloc (.cells #[.int .i64 0, .int .i64 4, .int .i64 8, .int .i64 12] 3)).heap.size = w.heap.size + 1 := by rw [hs]
  have b1 : Below w.heap.size w (w.alloc (.cells #[.int .i64 0, .int .i64 4, .int .i64 8, .int .i64 12] 3)) := (Below.refl _ _).alloc (Nat.le_refl _) _
  replace r0 : RowIs (w.alloc (.cells #[.int .i64 0, .int .i64 4, .int .i64 8, .int .i64 12] 3)) (w.heap.size + 0) 3 (tabRow 0) := r0
  generalize w.alloc (.cells #[.int .i64 0, .int .i64 4, .int .i64 8, .int .i64 12] 3) = w1 at *
  have r1 := RowIs.new w1 3 (tabRow 1)
  have s2 : (w1.alloc (.cells #[.int .i64 1, .int .i64 5, .int .i64 9, .int .i64 13] 3)).heap.size = w.heap.size + 2 := by rw [hs, s1]
  have b2 : Below w.heap.size w (w1.alloc (.cells #[.int .i64 1, .int .i64 5, .int .i64 9, .int .i64 13] 3)) := b1.alloc b1.size _
  replace r1 : RowIs (w1.alloc (.cells #[.int .i64 1, .int .i64 5, .int .i64 9, .int .i64 13] 3)) (w.heap.size + 1) 3 (tabRow 1) := s1 ▸ r1
  replace r0 := r0.alloc (.cells #[.int .i64 1, .int .i64 5, .int .i64 9, .int .i64 13] 3)
  generalize w1.alloc (.cells #[.int .i64 1, .int .i64 5, .int .i64 9, .int .i64 13] 3) = w2 at *
  have r2 := RowIs.new w2 3 (tabRow 2)
  have s3 : (w2.alloc (.cells #[.int .i64 2, .int .i64 6, .int .i64 10, .int .i64 14] 3)).heap.size = w.heap.size + 3 := by rw [hs, s2]
  have b3 : Below w.heap.size w (w2.alloc (.cells #[.int .i64 2, .int .i64 6, .int .i64 10, .int .i64 14] 3)) := b2.alloc b2.size _
  replace r2 : RowIs (w2.alloc (.cells #[.int .i64 2, .int .i64 6, .int .i64 10, .int .i64 14] 3)) (w.heap.size + 2) 3 (tabRow 2) := s2 ▸ r2
  replace r0 := r0.alloc (.cells #[.int .i64 2, .int .i64 6, .int .i64 10, .int .i64 14] 3)
  replace r1 := r1.alloc (.cells #[.int .i64 2, .int .i64 6, .int .i64 10, .int .i64 14] 3)
  generalize w2.alloc (.cells #[.int .i64 2, .int .i64 6, .int .i64 10, .int .i64 14] 3) = w3 at *
  have r3 := RowIs.new w3 3 (tabRow 3)
  have s4 : (w3.alloc (.cells #[.int .i64 3, .int .i64 7, .int .i64 11, .int .i64 15] 3)).heap.size = w.heap.size + 4 := by rw [hs, s3]
  have b4 : Below w.heap.size w (w3.alloc (.cells #[.int .i64 3, .int .i64 7, .int .i64 11, .int .i64 15] 3)) := b3.alloc b3.size _
  replace r3 : RowIs (w3.alloc (.cells #[.int .i64 3, .int .i64 7, .int .i64 11, .int .i64 15] 3)) (w.heap.size + 3) 3 (tabRow 3) := s3 ▸ r3
  replace r0 := r0.alloc (.cells #[.int .i64 3, .int .i64 7, .int .i64 11, .int .i64 15] 3)
  replace r1 := r1.alloc (.cells #[.int .i64 3, .int .i64 7, .int .i64 11, .int .i64 15] 3)
  replace r2 := r2.alloc (.cells #[.int .i64 3, .int .i64 7, .int .i64 11, .int .i64 15] 3)
  generalize w3.alloc (.cells #[.int .i64 3, .int .i64 7, .int .i64 11, .int .i64 15] 3) = w4 at *
  have r4 := RowIs.new w4 3 (tabRow 4)
  have s5 : (w4.alloc (.cells #[.int .i64 0, .int .i64 5, .int .i64 10, .int .i64 15] 3)).heap.size = w.heap.size + 5 := by rw [hs, s4]
  have b5 : Below w.heap.size w (w4.alloc (.cells #[.int .i64 0, .int .i64 5, .int .i64 10, .int .i64 15] 3)) := b4.alloc b4.size _
  replace r4 : RowIs (w4.alloc (.cells #[.int .i64 0, .int .i64 5, .int .i64 10, .int .i64 15] 3)) (w.heap.size + 4) 3 (tabRow 4) := s4 ▸ r4
  replace r0 := r0.alloc (.cells #[.int .i64 0, .int .i64 5, .int .i64 10, .int .i64 15] 3)
  replace r1 := r1.alloc (.cells #[.int .i64 0, .int .i64 5, .int .i64 10, .int .i64 15] 3)
  replace r2 := r2.alloc (.cells #[.int .i64 0, .int .i64 5, .int .i64 10, .int .i64 15] 3)
  replace r3 := r3.alloc (.cells #[.int .i64 0, .int .i64 5, .int .i64 10, .int .i64 15] 3)
  generalize w4.alloc (.cells #[.int .i64 0, .int .i64 5, .int .i64 10, .int .i64 15] 3) = w5 at *
  have r5 := RowIs.new w5 3 (tabRow 5)
  have s6 : (w5.alloc (.cells #[.int .i64 1, .int .i64 6, .int .i64 11, .int .i64 12] 3)).heap.size = w.heap.size + 6 := by rw [hs, s5]
  have b6 : Below w.heap.size w (w5.alloc (.cells #[.int .i64 1, .int .i64 6, .int .i64 11, .int .i64 12] 3)) := b5.alloc b5.size _
  replace r5 : RowIs (w5.alloc (.cells #[.int .i64 1, .int .i64 6, .int .i64 11, .int .i64 12] 3)) (w.heap.size + 5) 3 (tabRow 5) := s5 ▸ r5
  replace r0 := r0.alloc (.cells #[.int .i64 1, .int .i64 6, .int .i64 11, .int .i64 12] 3)
  replace r1 := r1.alloc (.cells #[.int .i64 1, .int .i64 6, .int .i64 11, .int .i64 12] 3)
  replace r2 := r2.alloc (.cells #[.int .i64 1, .int .i64 6, .int .i64 11, .int .i64 12] 3)
  replace r3 := r3.alloc (.cells #[.int .i64 1, .int .i64 6, .int .i64 11, .int .i64 12] 3)
  replace r4 := r4.alloc (.cells #[.int .i64 1, .int .i64 6, .int .i64 11, .int .i64 12] 3)
  generalize w5.alloc (.cells #[.int .i64 1, .int .i64 6, .int .i64 11, .int .i64 12] 3) = w6 at *
  have r6 := RowIs.new w6 3 (tabRow 6)
  have s7 : (w6.alloc (.cells #[.int .i64 2, .int .i64 7, .int .i64 8, .int .i64 13] 3)).heap.size = w.heap.size + 7 := by rw [hs, s6]
  have b7 : Below w.heap.size w (w6.alloc (.cells #[.int .i64 2, .int .i64 7, .int .i64 8, .int .i64 13] 3)) := b6.alloc b6.size _
  replace r6 : RowIs (w6.alloc (.cells #[.int .i64 2, .int .i64 7, .int .i64 8, .int .i64 13] 3)) (w.heap.size + 6) 3 (tabRow 6) := s6 ▸ r6
  replace r0 := r0.alloc (.cells #[.int .i64 2, .int .i64 7, .int .i64 8, .int .i64 13] 3)
  replace r1 := r1.alloc (.cells #[.int .i64 2, .int .i64 7, .int .i64 8, .int .i64 13] 3)
  replace r2 := r2.alloc (.cells #[.int .i64 2, .int .i64 7, .int .i64 8, .int .i64 13] 3)
  replace r3 := r3.alloc (.cells #[.int .i64 2, .int .i64 7, .int .i64 8, .int .i64 13] 3)
  replace r4 := r4.alloc (.cells #[.int .i64 2, .int .i64 7, .int .i64 8, .int .i64 13] 3)
  replace r5 := r5.alloc (.cells #[.int .i64 2, .int .i64 7, .int .i64 8, .int .i64 13] 3)
  generalize w6.alloc (.cells #[.int .i64 2, .int .i64 7, .int .i64 8, .int .i64 13] 3) = w7 at *
  have r7 := RowIs.new w7 3 (tabRow 7)
  have s8 : (w7.alloc (.cells #[.int .i64 3, .int .i64 4, .int .i64 9, .int .i64 14] 3)).heap.size = w.heap.size + 8 := by rw [hs, s7]
  have b8 : Below w.heap.size w (w7.alloc (.cells #[.int .i64 3, .int .i64 4, .int .i64 9, .int .i64 14] 3)) := b7.alloc b7.size _
  replace r7 : RowIs (w7.alloc (.cells #[.int .i64 3, .int .i64 4, .int .i64 9, .int .i64 14] 3)) (w.heap.size + 7) 3 (tabRow 7) := s7 ▸ r7
  replace r0 := r0.alloc (.cells #[.int .i64 3, .int .i64 4, .int .i64 9, .int .i64 14] 3)
  replace r1 := r1.alloc (.cells #[.int .i64 3, .int .i64 4, .int .i64 9, .int .i64 14] 3)
  replace r2 := r2.alloc (.cells #[.int .i64 3, .int .i64 4, .int .i64 9, .int .i64 14] 3)
  replace r3 := r3.alloc (.cells #[.int .i64 3, .int .i64 4, .int .i64 9, .int .i64 14] 3)
  replace r4 := r4.alloc (.cells #[.int .i64 3, .int .i64 4, .int .i64 9, .int .i64 14] 3)
  replace r5 := r5.alloc (.cells #[.int .i64 3, .int .i64 4, .int .i64 9, .int .i64 14] 3)
  replace r6 := r6.alloc (.cells #[.int .i64 3, .int .i64 4, .int .i64 9, .int .i64 14] 3)
  generalize w7.alloc (.cells #[.int .i64 3, .int .i64 4, .int .i64 9, .int .i64 14] 3) = w8 at *
  have r8 := RowIs.new w8 65 (tabAll w.heap.size)
  rw [s8] at r8
  refine ⟨?_, r8, b8.alloc b8.size _⟩
  intro k hk
  match k, hk with
  | 0, _ => exact r0.alloc _
  | 1, _ => exact r1.alloc _
  | 2, _ => exact r2.alloc _
  | 3, _ => exact r3.alloc _
  | 4, _ => exact r4.alloc _
  | 5, _ => exact r5.alloc _
  | 6, _ => exact r6.alloc _
  | 7, _ => exact r7.alloc _
theorem tabRow_at (k i : Nat) (h : i < 4) : (tabRow k)[i]? = some (.int .i64 ((place k i : Nat) : Int)) := by simp [tabRow, h]
theorem tabAll_at (M k : Nat) (h : k < 8) : (tabAll M)[k]? = some (.slice (some ⟨M + k, 0, none⟩) 4 4) := by simp [tabAll, h]
theorem place_lt : ∀ k, k < 8 → ∀ i, i < 4 → place k i < 16 := by decide

end Go.Proofs.Ytckcfgbcnefbhaa
