/-
  The book's lists of whole numbers: SameInts, markInts, copyInts.
-/
import Derived.Test.YtmpmhepaonifpaaBok0
import Derived.Test.YtmpmhepaonifpaaRowI
namespace Go.Proofs.Ytmpmhepaonifpaa
open Go.RowKit
set_option linter.unusedVariables false
set_option maxRecDepth 100000
set_option linter.unusedSimpArgs false

theorem seenI_at {w : World} {v : Value} {l : List Int} (h : Seen w v (cellsI l)) (hl : 0 < l.length) : ∃ g cap, v = .slice (some ⟨g, 0, none⟩) l.length cap ∧ ∀ j, j < l.length → w.cell? ⟨g, j, none⟩ = some (.int .i64 (l.getD j 0)) := by
  obtain ⟨g, cap, rfl, hc⟩ := h.full (by rw [cellsI_len]; exact hl)
  exact ⟨g, cap, by rw [cellsI_len], fun j hj => hc j _ (cellsI_at l j hj)⟩

set_option maxHeartbeats 1000000 in
/-- Two lists that hold the same are alike. -/
theorem book_sameInts (l : List Int) (va vb : Value) (w : World) (ha : Seen w va (cellsI l)) (hb : Seen w vb (cellsI l)) (hl : l.length ≤ 4611686018427387904) :
    Calls Try.prog 14 #[va, vb] w fun e w' => e = .returned (.bool true) ∧ Below w.heap.size w w' := by
  by_cases h0 : 0 < l.length
  · obtain ⟨g, cap, rfl, hg⟩ := seenI_at ha h0
    obtain ⟨g', cap', rfl, hg'⟩ := seenI_at hb h0
    have G : Hid _ := hg
    have G' : Hid _ := hg'
    clear hg hg' ha hb
    generalize hn : l.length = n at *
    go_enter Try.func14, Try.ntmps14
    go_wp2_with fail
    go_loopw [5] (fun i wr => ∃ k : Nat, k ≤ n ∧ i = .int .i64 k ∧ Below w.heap.size w wr) (fun i _ => n - (intOf i).toNat)
    case atStart => exact ⟨0, Nat.zero_le _, rfl, Below.refl _ _⟩
    case round =>
      obtain ⟨k, hk, rfl, hbel⟩ := hrel
      by_cases hlt : k < n
      · have c1 := G.out k hlt
        have c2 := G'.out k hlt
        have b1 : g < w.heap.size := World.block_lt_of_cell? w ⟨g, k, none⟩ c1
        have b2 : g' < w.heap.size := World.block_lt_of_cell? w ⟨g', k, none⟩ c2
        replace c1 := (hbel.cell (p := ⟨g, k, none⟩) b1).trans c1
        replace c2 := (hbel.cell (p := ⟨g', k, none⟩) b2).trans c2
        have d1 : decide ((k : Int) < (n : Int)) = true := by simp; omega
        have d2 : (k : Int) < (n : Int) := by omega
        generalize l.getD k 0 = X at *
        go_wp2_with fail
        go_region
        go_wp2
        go_roundw
        case rel => exact ⟨k + 1, by omega, by go_num, hbel.drew⟩
        case measure => simp [intOf]; omega
      · have d1 : decide ((k : Int) < (n : Int)) = false := by simp; omega
        go_wp2
        go_ret
        exact ⟨rfl, hbel⟩
  · have hn : l = [] := List.eq_nil_of_length_eq_zero (by omega)
    subst hn
    obtain ⟨ao, cap, rfl⟩ := ha.form
    obtain ⟨ao', cap', rfl⟩ := hb.form
    rw [show (cellsI []).length = 0 from rfl]
    clear ha hb
    go_enter Try.func14, Try.ntmps14
    go_wp2_with fail
    go_loopw [5] (fun i wr => i = .int .i64 0 ∧ wr = w) (fun i _ => 0)
    case atStart => exact ⟨rfl, rfl⟩
    case round =>
      obtain ⟨rfl, rfl⟩ := hrel
      go_wp2
      go_ret
      exact ⟨rfl, Below.refl _ _⟩

/-- The marks of list i: as many as n, the first one's place is a. -/
def marksI (i a n : Nat) : List Int := (List.range n).map (fun k => -1000000 * (i : Int) - ((a + k : Nat) : Int) - 7)
theorem marksI_len (i a n : Nat) : (marksI i a n).length = n := by simp [marksI]
theorem marksI_succ (i a n : Nat) : marksI i a (n + 1) = marksI i a n ++ [-1000000 * (i : Int) - ((a + n : Nat) : Int) - 7] := by
  simp [marksI, List.range_succ]
theorem marksI_app (i a n m : Nat) : marksI i a n ++ marksI i (a + n) m = marksI i a (n + m) := by
  induction m with
  | zero => simp [marksI]
  | succ m ih => rw [marksI_succ, ← List.append_assoc, ih, ← Nat.add_assoc n m 1, marksI_succ, Nat.add_assoc a n m]

set_option maxRecDepth 100000 in
set_option maxHeartbeats 1000000 in
theorem book_markInts (i a n : Nat) (w : World) (hi : i ≤ 100000) (ha : a ≤ 1000000000) (hn : n ≤ 1000000000) :
    Calls Try.prog 59 #[.int .i64 i, .int .i64 a, .int .i64 n] w fun e w' => (∃ v, OwnI w' w.heap.size v (marksI i a n) ∧ e = .returned v) ∧ Below w.heap.size w w' := by
  obtain ⟨i0, hi0, hz0, hz1, hz2⟩ := info_parts infoI
  have hnil : OwnI w w.heap.size (.slice none 0 0) (marksI i a 0) := World.ownsRow_nil w _ _ _
  go_enter Try.func59, Try.ntmps59
  go_wp2_with fail
  go_loopw [7, 8] (fun v k wr => ∃ m : Nat, m ≤ n ∧ k = .int .i64 ((a + m : Nat) : Int) ∧ OwnI wr w.heap.size v (marksI i a m) ∧ Below w.heap.size w wr) (fun _ k _ => a + n - (intOf k).toNat)
  case atStart => exact ⟨0, Nat.zero_le _, by simp, hnil, Below.refl _ _⟩
  case round =>
    clear hnil
    obtain ⟨m, hm, rfl, hown, hbel⟩ := hrel
    by_cases hlt : m < n
    · have hown' : wr.ownsRow w.heap.size 3 1 u7 m (cellsI (marksI i a m)) := by have := hown; unfold OwnI at this; rwa [marksI_len] at this
      have HS : Hid (marksI i a (m + 1) = marksI i a m ++ [-1000000 * (i : Int) - ((a + m : Nat) : Int) - 7]) := marksI_succ i a m
      have hx : -1000000000000 ≤ -1000000 * (i : Int) - ((a + m : Nat) : Int) - 7 := by omega
      have d1 : decide (((a + m : Nat) : Int) < (a : Int) + (n : Int)) = true := by simp; omega
      clear hown
      obtain ⟨km, hkm⟩ : ∃ km, km = a + m := ⟨_, rfl⟩
      rw [← hkm] at HS hx d1 ⊢
      have HK : Hid (km = a + m) := hkm
      have hk2 : km ≤ 2000000000 := by omega
      clear hkm
      obtain ⟨X, hX⟩ : ∃ X, -1000000 * (i : Int) - (km : Int) - 7 = X := ⟨_, rfl⟩
      rw [hX] at HS hx
      go_wp2_with (first | (at_builtin; refine wpList_append_lies _ rfl (.tmp 17) (.tmp 23) 22 rfl w.heap.size 3 i0 (.int .i64 0) 1 8 Try.underlying22 hi0 hz0 hz1 hz2 rfl (by decide) u7 m (cellsI (marksI i a m)) rfl (hown'.alloc _) ⟨wr.heap.size, 0, none⟩ 1 1 (cellsI [X]) rfl rfl (World.news_of_block (heap_alloc_new wr _)) (cellsI_one _) (by decide) (by unfold maxLen; omega) (by omega) (by have := hbel.size; simp; omega) _ rfl ?_))
      intro g2 cap2 w2 hown2 hgrow2 hat hlt2
      go_wp2
      go_roundw
      case rel =>
        refine ⟨m + 1, by omega, by rw [HK.out]; go_num, ?_, ?_⟩
        · unfold OwnI
          rw [HS.out, cellsI_append, List.length_append, marksI_len]
          exact hown2
        · have hz := hbel.size
          exact (hbel.alloc (by omega) _).grown hgrow2 (by simp; omega) (fun j hj => (hown'.lt j hj).1)
      case measure => simp only [intOf]; have := HK.out; omega
    · have d1 : decide (((a + m : Nat) : Int) < (a : Int) + (n : Int)) = false := by simp; omega
      obtain rfl : m = n := by omega
      go_wp2
      go_ret
      exact ⟨⟨_, hown, rfl⟩, hbel⟩

end Go.Proofs.Ytmpmhepaonifpaa
