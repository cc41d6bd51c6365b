/-
  The contract of package onetime's settle.
-/
import Derived.Test.YtjccdfnhcifgiaaPoly2
namespace Go.Proofs.Ytjccdfnhcifgiaa
open Go.RowKit
set_option linter.unusedVariables false
set_option maxRecDepth 100000

/-- Settled, what was carried out of the last limb brought back five times. -/
def setL (x : List Int) : List Int :=
  (((carL x 5).set 0 ((carL x 5).getD 0 0 + 5 * carO x 5)).set 1 ((carL x 5).getD 1 0 + ((carL x 5).getD 0 0 + 5 * carO x 5) / 67108864)).set 0 (((carL x 5).getD 0 0 + 5 * carO x 5) % 67108864)
theorem setL_len (x : List Int) : (setL x).length = x.length := by rw [setL, List.length_set, List.length_set, List.length_set, carL_len]

theorem carL_five (a b c d e : Int) : carL [a, b, c, d, e] 5 = [(0 + a) % 67108864, ((0 + a) / 67108864 + b) % 67108864, (((0 + a) / 67108864 + b) / 67108864 + c) % 67108864, ((((0 + a) / 67108864 + b) / 67108864 + c) / 67108864 + d) % 67108864, (((((0 + a) / 67108864 + b) / 67108864 + c) / 67108864 + d) / 67108864 + e) % 67108864] := rfl
theorem carO_five (a b c d e : Int) : carO [a, b, c, d, e] 5 = (((((0 + a) / 67108864 + b) / 67108864 + c) / 67108864 + d) / 67108864 + e) / 67108864 := rfl
theorem five_of (x : List Int) (h : x.length = 5) : ∃ a b c d e, x = [a, b, c, d, e] := by
  match x, h with
  | [a, b, c, d, e], _ => exact ⟨a, b, c, d, e, rfl⟩
theorem carL_lt (x : List Int) (hl : x.length = 5) (j : Nat) : 0 ≤ (carL x 5).getD j 0 ∧ (carL x 5).getD j 0 < 67108864 := by
  obtain ⟨a, b, c, d, e, rfl⟩ := five_of x hl
  rw [carL_five]
  match j with
  | 0 => exact ⟨Int.emod_nonneg _ (by decide), Int.emod_lt_of_pos _ (by decide)⟩
  | 1 => exact ⟨Int.emod_nonneg _ (by decide), Int.emod_lt_of_pos _ (by decide)⟩
  | 2 => exact ⟨Int.emod_nonneg _ (by decide), Int.emod_lt_of_pos _ (by decide)⟩
  | 3 => exact ⟨Int.emod_nonneg _ (by decide), Int.emod_lt_of_pos _ (by decide)⟩
  | 4 => exact ⟨Int.emod_nonneg _ (by decide), Int.emod_lt_of_pos _ (by decide)⟩
  | n + 5 => exact ⟨Int.le_refl 0, show (0 : Int) < 67108864 by decide⟩

set_option maxHeartbeats 1000000 in
theorem onetime_settle (x : List Int) (w : World) (hl : x.length = 5) (hb : allB x 9223372036854775808) :
    Calls Try.prog 28 #[.agg (cells64 x).toArray] w fun e w' => e = .returned (.agg (cells64 (setL x)).toArray) ∧ Below w.heap.size w w' := by
  have r1 : RowIs ((w.alloc (.cells (cells64 x).toArray 37)).alloc (.cells (cells64 z5).toArray 37)) w.heap.size 37 (cells64 x) := (RowIs.new w _ _).alloc _
  have r2 : RowIs ((w.alloc (.cells (cells64 x).toArray 37)).alloc (.cells (cells64 z5).toArray 37)) (w.heap.size + 1) 37 (cells64 z5) := by
    have := RowIs.new (w.alloc (.cells (cells64 x).toArray 37)) 37 (cells64 z5)
    simpa using this
  have b1 : Below w.heap.size w ((w.alloc (.cells (cells64 x).toArray 37)).alloc (.cells (cells64 z5).toArray 37)) := ((Below.refl _ _).alloc (Nat.le_refl _) _).alloc (by simp) _
  have hs2 : ((w.alloc (.cells (cells64 x).toArray 37)).alloc (.cells (cells64 z5).toArray 37)).heap.size = w.heap.size + 2 := by simp
  have HCA : Hid (∀ w : World, Calls Try.prog 32 #[.agg (cells64 x).toArray] w fun e w' => e = .returned (.tuple #[.agg (cells64 (carL x 5)).toArray, .int .u64 (carO x 5)]) ∧ Below w.heap.size w w') := fun w => onetime_carry x w hl hb
  have hxl : (cells64 x).length = 5 := by rw [cells64_len, hl]
  have hO := carO_bd x hb 5
  have h0 := carL_lt x hl 0
  have h1 := carL_lt x hl 1
  have HS : Hid (setL x = (((carL x 5).set 0 ((carL x 5).getD 0 0 + 5 * carO x 5)).set 1 ((carL x 5).getD 1 0 + ((carL x 5).getD 0 0 + 5 * carO x 5) / 67108864)).set 0 (((carL x 5).getD 0 0 + 5 * carO x 5) % 67108864)) := rfl
  have hyl : (carL x 5).length = 5 := by rw [carL_len, hl]
  generalize carL x 5 = y at *
  generalize carO x 5 = O at *
  generalize setL x = sx at *
  obtain ⟨cx, hcx⟩ : ∃ cx, cx = cells64 x := ⟨_, rfl⟩
  rw [← hcx] at r1 r2 b1 HCA hxl hs2
  rw [← hcx]
  clear hcx hl hb
  generalize hw2 : (w.alloc (.cells cx.toArray 37)).alloc (.cells (cells64 z5).toArray 37) = w2 at *
  have HW2 : Hid (_ = w2) := hw2
  clear hw2
  have hyc : (cells64 y).length = 5 := by rw [cells64_len, hyl]
  have hyo := all_oneCell_toArray (cells64_one y)
  have c0 : (cells64 y)[0]? = some (.int .u64 (y.getD 0 0)) := cells64_at y 0 (by omega)
  have c1 : (cells64 y)[1]? = some (.int .u64 (y.getD 1 0)) := cells64_at y 1 (by omega)
  have hz5 : (cells64 z5).length = 5 := rfl
  have o0 := hO.1
  have o1 := hO.2
  have y00 := h0.1
  have y01 := h0.2
  have y10 := h1.1
  have y11 := h1.2
  have ha := and26 (y.getD 0 0 + 5 * O) (by omega) (by omega)
  clear hO h0 h1
  go_enter Try.func28, Try.ntmps28
  go_wp2_with (first | (refine wpList_boxN (z := cx.toArray) rfl rfl rfl w.heap.size rfl ?_) | (refine wpList_allocN rfl rfl run_alloc5 (w.heap.size + 1) (by simp) ?_; rw [HW2.out]) | (refine wpList_load_mid rfl 37 _ rfl w.heap.size 0 rfl cx _ r1.all Try.underlying37 rfl (by rw [size5, hxl]) ?_))
  refine (HCA.out _).mono ?_
  rintro e w3 ⟨rfl, b2⟩
  have p1 : RowIs w3 w.heap.size 37 cx := r1.below b2 (by omega)
  have p2 : RowIs w3 (w.heap.size + 1) 37 (cells64 z5) := r2.below b2 (by omega)
  have b3 : Below w.heap.size w w3 := b1.trans (b2.mono b1.size)
  clear r1 r2 b1 b2 hs2
  have hset : (((cells64 y).set 0 (.int .u64 (y.getD 0 0 + 5 * O))).set 1 (.int .u64 (y.getD 1 0 + (y.getD 0 0 + 5 * O) / 67108864))).set 0 (.int .u64 ((y.getD 0 0 + 5 * O) % 67108864)) = cells64 sx := by rw [cells64_set, cells64_set, cells64_set, HS.out]
  have hsl : (cells64 sx).length = 5 := by rw [cells64_len, HS.out, List.length_set, List.length_set, List.length_set, hyl]
  have hso := all_oneCell_toArray (cells64_one sx)
  generalize hw4 : w3.setCells w.heap.size 0 (cells64 y) = w4
  have q1 : RowIs w4 w.heap.size 37 (cells64 y) := hw4 ▸ p1.putAll (by rw [hyc, hxl])
  have q2 : RowIs w4 (w.heap.size + 1) 37 (cells64 z5) := (hw4 ▸ (Upon.refl w.heap.size _).setCells 0 (cells64 y) : Upon w.heap.size _ w4).row p2 (by simp)
  have q3 : Below w.heap.size w w4 := hw4 ▸ bel_setCells b3 (Nat.le_refl _) 0 (cells64 y)
  have HT : Hid (w3.there w.heap.size 0 (cells64 y).toArray.size) := p1.there (by simp [hyc, hxl])
  have HW4 : Hid (w3.setCells w.heap.size 0 (cells64 y).toArray.toList = w4) := hw4
  have HR : Hid (RowIs (((w4.setCell ⟨w.heap.size, 0, none⟩ (.int .u64 (y.getD 0 0 + 5 * O))).setCell ⟨w.heap.size, 1, none⟩ (.int .u64 (y.getD 1 0 + (y.getD 0 0 + 5 * O) / 67108864))).setCell ⟨w.heap.size, 0, none⟩ (.int .u64 ((y.getD 0 0 + 5 * O) % 67108864))) w.heap.size 37 (cells64 sx)) := hset ▸ ((q1.set 0 _).set 1 _).set 0 _
  have HR2 : Hid (RowIs (((w4.setCell ⟨w.heap.size, 0, none⟩ (.int .u64 (y.getD 0 0 + 5 * O))).setCell ⟨w.heap.size, 1, none⟩ (.int .u64 (y.getD 1 0 + (y.getD 0 0 + 5 * O) / 67108864))).setCell ⟨w.heap.size, 0, none⟩ (.int .u64 ((y.getD 0 0 + 5 * O) % 67108864))) (w.heap.size + 1) 37 (cells64 z5)) := ((q2.setOther (by simp) _).setOther (by simp) _).setOther (by simp) _
  have HB : Hid (Below w.heap.size w (((w4.setCell ⟨w.heap.size, 0, none⟩ (.int .u64 (y.getD 0 0 + 5 * O))).setCell ⟨w.heap.size, 1, none⟩ (.int .u64 (y.getD 1 0 + (y.getD 0 0 + 5 * O) / 67108864))).setCell ⟨w.heap.size, 0, none⟩ (.int .u64 ((y.getD 0 0 + 5 * O) % 67108864)))) := ((q3.setCell (Nat.le_refl _) _).setCell (Nat.le_refl _) _).setCell (Nat.le_refl _) _
  have d0 := q1.cellAt c0
  have d1 := q1.cellAt c1
  have z0 := q1.frozen 0
  have z1 := q1.frozen 1
  clear hset hw4 p1 p2 b3 q1 q2 q3 c0 c1 HS
  generalize y.getD 0 0 = Y0 at *
  generalize y.getD 1 0 = Y1 at *
  generalize hcs : cells64 sx = cs at *
  have HE : Hid (cells64 sx = cs) := hcs
  clear hcs
  obtain ⟨cy, hcy⟩ : ∃ cy, cy = (cells64 y).toArray := ⟨_, rfl⟩
  rw [← hcy] at HT HW4 hyo
  rw [← hcy]
  have hys : (Try.prog.info? 37).map (·.size) = some cy.size := by rw [size5, hcy]; simp [hyc]
  clear hcy hyc
  go_wp2_with (first | (refine wpList_store_mid rfl 37 _ _ rfl w.heap.size 0 cy rfl rfl ?_ hys hyo ?_; exact HT.out; rw [HW4.out]) | (refine wpList_load_mid rfl 37 _ rfl w.heap.size 0 rfl cs _ ?_ Try.underlying37 rfl (by rw [size5, hsl]) ?_; exact HR.out.all) | (refine wpList_store_mid rfl 37 _ _ rfl (w.heap.size + 1) 0 cs.toArray rfl rfl ?_ (by rw [size5]; simp [hsl]) hso ?_; exact HR2.out.there (by simp [hsl, hz5])))
  refine bodyPost_ret (v := .agg cs.toArray) (results_row rfl _ _ (w.heap.size + 1) cs _ (by simp [Act.put]) ?_ Try.underlying37 rfl (by rw [size5, hsl])) rfl ⟨by rw [← HE.out], bel_setCells HB.out (by omega) _ _⟩
  exact World.rangeAt_setCells_same _ _ _ _ (HR2.out.there (by simp [hsl, hz5]))

end Go.Proofs.Ytjccdfnhcifgiaa
