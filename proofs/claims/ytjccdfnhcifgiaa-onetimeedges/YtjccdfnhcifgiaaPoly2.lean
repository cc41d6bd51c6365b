/-
  The contracts of package onetime's plus and settle.
-/
import Derived.Test.YtjccdfnhcifgiaaPoly1
namespace Go.Proofs.Ytjccdfnhcifgiaa
open Go.RowKit
set_option linter.unusedVariables false
set_option maxRecDepth 100000

/-- The sums of the first k limbs, those behind them as they were. -/
def addL (x y : List Int) : Nat → List Int
  | 0 => x
  | k + 1 => (addL x y k).set k (x.getD k 0 + y.getD k 0)
theorem addL_len (x y : List Int) : ∀ k, (addL x y k).length = x.length
  | 0 => rfl
  | k + 1 => by rw [addL, List.length_set, addL_len x y k]
theorem addL_at (x y : List Int) (j : Nat) : ∀ k, k ≤ j → (addL x y k).getD j 0 = x.getD j 0
  | 0, _ => rfl
  | k + 1, h => by
    rw [addL, List.getD_eq_getElem?_getD, List.getElem?_set_ne (by omega), ← List.getD_eq_getElem?_getD]
    exact addL_at x y j k (by omega)

set_option maxHeartbeats 1000000 in
theorem onetime_plus (x y : List Int) (w : World) (hl : x.length = 5) (hl2 : y.length = 5) (hb : allB x 4611686018427387904) (hb2 : allB y 4611686018427387904) :
    Calls Try.prog 20 #[.agg (cells64 x).toArray, .agg (cells64 y).toArray] w fun e w' => e = .returned (.agg (cells64 (addL x y 5)).toArray) ∧ Below w.heap.size w w' := by
  have r1 : RowIs (((w.alloc (.cells (cells64 x).toArray 37)).alloc (.cells (cells64 y).toArray 37)).alloc (.cells (cells64 z5).toArray 37)) w.heap.size 37 (cells64 (addL x y 0)) := ((RowIs.new w _ _).alloc _).alloc _
  have r2 : RowIs (((w.alloc (.cells (cells64 x).toArray 37)).alloc (.cells (cells64 y).toArray 37)).alloc (.cells (cells64 z5).toArray 37)) (w.heap.size + 1) 37 (cells64 y) := by
    have := (RowIs.new (w.alloc (.cells (cells64 x).toArray 37)) 37 (cells64 y)).alloc (.cells (cells64 z5).toArray 37)
    simpa using this
  have r3 : RowIs (((w.alloc (.cells (cells64 x).toArray 37)).alloc (.cells (cells64 y).toArray 37)).alloc (.cells (cells64 z5).toArray 37)) (w.heap.size + 1 + 1) 37 (cells64 z5) := by
    have := RowIs.new ((w.alloc (.cells (cells64 x).toArray 37)).alloc (.cells (cells64 y).toArray 37)) 37 (cells64 z5)
    simpa using this
  have b1 : Below w.heap.size w (((w.alloc (.cells (cells64 x).toArray 37)).alloc (.cells (cells64 y).toArray 37)).alloc (.cells (cells64 z5).toArray 37)) := (((Below.refl _ _).alloc (Nat.le_refl _) _).alloc (by simp) _).alloc (by simp; omega) _
  obtain ⟨cx, hcx⟩ : ∃ cx, cx = (cells64 x).toArray := ⟨_, rfl⟩
  obtain ⟨cy, hcy⟩ : ∃ cy, cy = (cells64 y).toArray := ⟨_, rfl⟩
  rw [← hcx, ← hcy] at r1 r2 r3 b1
  rw [← hcx, ← hcy]
  clear hcx hcy
  go_enter Try.func20, Try.ntmps20
  go_wp2_with (first | (refine wpList_boxN (z := cx) rfl rfl rfl w.heap.size rfl ?_) | (refine wpList_boxN (z := cy) rfl rfl rfl (w.heap.size + 1) (by simp) ?_) | (refine wpList_allocN rfl rfl run_alloc5 (w.heap.size + 1 + 1) (by simp) ?_))
  generalize ((w.alloc (.cells cx 37)).alloc (.cells cy 37)).alloc (.cells (cells64 z5).toArray 37) = w2 at *
  go_loopw [6] (fun i wr => ∃ k : Nat, k ≤ 5 ∧ i = .int .i64 k ∧ RowIs wr w.heap.size 37 (cells64 (addL x y k)) ∧ RowIs wr (w.heap.size + 1) 37 (cells64 y) ∧ RowIs wr (w.heap.size + 1 + 1) 37 (cells64 z5) ∧ Below w.heap.size w wr) (fun i _ => 5 - (intOf i).toNat)
  case atStart => exact ⟨0, by omega, rfl, r1, r2, r3, b1⟩
  case round =>
    clear r1 r2 r3 b1
    obtain ⟨k, hk, rfl, q1, q2, q3, hbel⟩ := hrel
    by_cases hlt : k < 5
    · have hc := q1.cellAt (cells64_at (addL x y k) k (by rw [addL_len]; omega))
      rw [addL_at x y k k (Nat.le_refl _)] at hc
      have hz := q1.frozen k
      have hc2 := q2.cellAt (cells64_at y k (by omega))
      have hB := hb k
      have hB2 := hb2 k
      have hx0 := hB.1
      have hx1 := hB.2
      have hy0 := hB2.1
      have hy1 := hB2.2
      have HN : Hid (RowIs (wr.setCell ⟨w.heap.size, k, none⟩ (.int .u64 (x.getD k 0 + y.getD k 0))) w.heap.size 37 (cells64 (addL x y (k + 1)))) := by
        have := q1.set k (.int .u64 (x.getD k 0 + y.getD k 0))
        rw [cells64_set] at this
        exact this
      clear hB hB2
      have HQ2 : Hid (RowIs wr (w.heap.size + 1) 37 (cells64 y)) := q2
      have HQ3 : Hid (RowIs wr (w.heap.size + 1 + 1) 37 (cells64 z5)) := q3
      clear q1 q2 q3
      generalize x.getD k 0 = X at *
      generalize y.getD k 0 = Y at *
      go_wp2
      go_region
      go_wp2
      go_roundw
      case rel => exact ⟨k + 1, by omega, by go_num, HN.out, HQ2.out.setOther (by simp) _, HQ3.out.setOther (by simp; omega) _, (hbel.setCell (Nat.le_refl _) _).drew⟩
      case measure => simp [intOf]; omega
    · obtain rfl : k = 5 := by omega
      have hlen : (cells64 (addL x y 5)).length = 5 := by rw [cells64_len, addL_len, hl]
      have hone := all_oneCell_toArray (cells64_one (addL x y 5))
      obtain ⟨cs, hcs⟩ : ∃ cs, cs = cells64 (addL x y 5) := ⟨_, rfl⟩
      rw [← hcs] at q1 hlen hone
      have HE : Hid (cs = cells64 (addL x y 5)) := hcs
      clear hcs
      have hz5 : (cells64 z5).length = 5 := rfl
      go_wp2_with (first | (refine wpList_load_mid rfl 37 _ rfl w.heap.size 0 rfl cs _ q1.all Try.underlying37 rfl (by rw [size5, hlen]) ?_) | (refine wpList_store_mid rfl 37 _ _ rfl (w.heap.size + 1 + 1) 0 cs.toArray rfl rfl (q3.there (by simp [hlen, hz5])) (by rw [size5]; simp [hlen]) hone ?_))
      refine bodyPost_ret (v := .agg cs.toArray) (results_row rfl _ _ (w.heap.size + 1 + 1) cs _ (by simp [Act.put]) ?_ Try.underlying37 rfl (by rw [size5, hlen])) rfl ⟨by rw [HE.out], bel_setCells hbel (by omega) _ _⟩
      exact World.rangeAt_setCells_same _ _ _ _ (q3.there (by simp [hlen, hz5]))

end Go.Proofs.Ytjccdfnhcifgiaa
