/-
  The contract of package stream's firstState.
-/
import Derived.Test.YtckcfgbcnefbhaaCha4
namespace Go.Proofs.Ytckcfgbcnefbhaa
open Go.RowKit
set_option linter.unusedVariables false
set_option maxRecDepth 100000

def z16 : List Int := List.replicate 16 0
theorem z16_len : z16.length = 16 := rfl
theorem size16 : (Try.prog.info? 41).map (·.size) = some 16 := by kernel_rfl
theorem zero16 : (Try.prog.info? 41).map (·.zero) = some (some (.agg (cells32 z16).toArray)) := by kernel_rfl
theorem run_alloc16 (w : World) : (Instr.alloc 41 true (.tuple #[])).run Try.prog w = .ok (.pointer (some ⟨w.heap.size, 0, none⟩)) (w.alloc (.cells (cells32 z16).toArray 41)) := by
  obtain ⟨i, hi, hz⟩ := zero_parts zero16
  exact run_alloc_zero _ i _ hi hz w
theorem len16 : Try.prog.arrayLen 41 = 16 := by kernel_rfl
theorem elem16 : Try.prog.elem 41 = 22 := by kernel_rfl
theorem slice16_lh (w : World) (b : Nat) (l h : Int) (h0 : 0 ≤ l) (h1 : l ≤ h) (h2 : h ≤ 16) (h3 : l < 16) :
    (Instr.sliceAt 41 (.pointer (some ⟨b, 0, none⟩)) (some (.int .i64 l)) (some (.int .i64 h)) none).run Try.prog w = .ok (.slice (some ⟨b, l.toNat, none⟩) (h - l).toNat (16 - l.toNat)) w := by
  rw [run_sliceAt_array_lh w 41 ⟨b, 0, none⟩ (by rw [len16, elem16]; exact Try.underlying41) .i64 .i64 l h h0 h1 (by rw [len16]; omega), elem16, run_sizeOf cells30, len16]
  simp only [Result.andThen_ok, slicedAt]
  rw [if_neg (by omega), Addr.add_mid, Nat.mul_one, Nat.zero_add, show h.toNat - l.toNat = (h - l).toNat from by omega]
theorem slice16_l (w : World) (b : Nat) (l : Int) (h0 : 0 ≤ l) (h3 : l < 16) :
    (Instr.sliceAt 41 (.pointer (some ⟨b, 0, none⟩)) (some (.int .i64 l)) none none).run Try.prog w = .ok (.slice (some ⟨b, l.toNat, none⟩) (16 - l.toNat) (16 - l.toNat)) w := by
  rw [run_sliceAt_array_l w 41 ⟨b, 0, none⟩ (by rw [len16, elem16]; exact Try.underlying41) .i64 l h0 (by rw [len16]; omega), elem16, run_sizeOf cells30, len16]
  simp only [Result.andThen_ok, slicedAt]
  rw [if_neg (by omega), Addr.add_mid, Nat.mul_one, Nat.zero_add]

/-- The four fixed words, the rest zero. -/
def fixed16 : List Int := fixed4 ++ List.replicate 12 0
theorem fixed16_len : fixed16.length = 16 := rfl
theorem first_of (key : ByteArray) (c : Int) (nonce : ByteArray) : fillTo (fillTo (fixed16.set 12 c) 4 key 8) 13 nonce 3 = firstL key c nonce := by
  rw [firstL]
  have e1 : fillTo (fixed16.set 12 c) 4 key 8 = (fixed4 ++ wordsTo key 8) ++ [c, 0, 0, 0] := rfl
  have hl : (fixed4 ++ wordsTo key 8).length = 12 := by simp [wordsTo_len, fixed4]
  generalize fixed4 ++ wordsTo key 8 = m at *
  have e2 : fillTo (m ++ [c, 0, 0, 0]) 13 nonce 3 = (m ++ [c]) ++ wordsTo nonce 3 := by
    unfold fillTo
    rw [List.take_append, List.drop_append, hl, List.take_of_length_le (by omega), List.drop_of_length_le (by omega)]
    simp
  rw [e1, e2]

set_option maxRecDepth 100000 in
set_option maxHeartbeats 1000000 in
theorem stream_firstState (key : ByteArray) (c : Int) (nonce : ByteArray) (w : World) (hk : key.size = 32) (hn : nonce.size = 12) (hc : W32 c) :
    Calls Try.prog 20 #[.string key, .int .u32 c, .string nonce] w fun e w' => e = .returned (.agg (cells32 (firstL key c nonce)).toArray) ∧ Below w.heap.size w w' := by
  have hf1 : fixed16.length = 16 := rfl
  have hone := all_oneCell_toArray (cells32_one fixed16)
  have hr2 : RowIs ((w.alloc (.cells (cells32 z16).toArray 41)).alloc (.cells (cells32 z16).toArray 41)) (w.heap.size + 1) 41 (cells32 z16) := by
    have := RowIs.new (w.alloc (.cells (cells32 z16).toArray 41)) 41 (cells32 z16)
    simpa using this
  have hr1 : RowIs ((w.alloc (.cells (cells32 z16).toArray 41)).alloc (.cells (cells32 z16).toArray 41)) w.heap.size 41 (cells32 z16) := (RowIs.new w _ (cells32 z16)).alloc _
  have hb2 : Below w.heap.size w ((w.alloc (.cells (cells32 z16).toArray 41)).alloc (.cells (cells32 z16).toArray 41)) := ((Below.refl _ _).alloc (Nat.le_refl _) _).alloc (by simp) _
  have hp1 : ∀ w' g l, l.length = 16 → RowIs w' g 41 (cells32 l) → Calls Try.prog 32 #[.slice (some ⟨g, 4, none⟩) 8 12, .string key] w' fun e w'' => e = .returned (.tuple #[]) ∧ RowIs w'' g 41 (cells32 (fillTo l 4 key 8)) ∧ Upon g w' w'' := fun w' g l hl hr => stream_putWords g 4 8 12 l key w' hl (by decide) (by omega) hr
  have hp2 : ∀ w' g l, l.length = 16 → RowIs w' g 41 (cells32 l) → Calls Try.prog 32 #[.slice (some ⟨g, 13, none⟩) 3 3, .string nonce] w' fun e w'' => e = .returned (.tuple #[]) ∧ RowIs w'' g 41 (cells32 (fillTo l 13 nonce 3)) ∧ Upon g w' w'' := fun w' g l hl hr => stream_putWords g 13 3 3 l nonce w' hl (by decide) (by omega) hr
  have HP1 : Hid _ := hp1
  have HP2 : Hid _ := hp2
  clear hp1 hp2
  have hs1 : ∀ w' : World, (Instr.sliceAt 41 (.pointer (some ⟨w.heap.size + 1, 0, none⟩)) (some (.int .i64 4)) (some (.int .i64 12)) none).run Try.prog w' = .ok (.slice (some ⟨w.heap.size + 1, 4, none⟩) 8 12) w' := fun w' => slice16_lh w' _ 4 12 (by decide) (by decide) (by decide) (by decide)
  have hs2 : ∀ w' : World, (Instr.sliceAt 41 (.pointer (some ⟨w.heap.size + 1, 0, none⟩)) (some (.int .i64 13)) none none).run Try.prog w' = .ok (.slice (some ⟨w.heap.size + 1, 13, none⟩) 3 3) w' := fun w' => slice16_l w' _ 13 (by decide) (by decide)
  go_enter Try.func20, Try.ntmps20
  go_wp2_with (first | (refine wpList_allocN rfl rfl run_alloc16 w.heap.size rfl ?_) | (refine wpList_allocN rfl rfl run_alloc16 (w.heap.size + 1) (by simp) ?_) | (refine wpList_build rfl 41 _ rfl (cells32 fixed16).toArray (by kernel_rfl) ?_) | (refine wpList_store_mid rfl 41 _ _ rfl (w.heap.size + 1) 0 (cells32 fixed16).toArray rfl rfl (hr2.there (by decide)) size16 hone ?_; generalize hw3 : World.setCells _ _ _ _ = w3; have q1 : RowIs w3 (w.heap.size + 1) 41 (cells32 fixed16) := hw3 ▸ hr2.sets (cells32 fixed16) 0 (by decide); have q2 : RowIs w3 w.heap.size 41 (cells32 z16) := (hw3 ▸ (Upon.refl (w.heap.size + 1) _).setCells 0 (cells32 fixed16) : Upon (w.heap.size + 1) _ w3).row hr1 (by simp); have q3 : Below w.heap.size w w3 := hw3 ▸ bel_setCells hb2 (by simp) 0 (cells32 fixed16); clear hw3 hr2 hr1 hb2; have c12 : w3.cell? ⟨w.heap.size + 1, 12, none⟩ = some (.int .u32 0) := q1.cellAt rfl; have z12 := q1.frozen 12))
  have q4 : RowIs (w3.setCell ⟨w.heap.size + 1, 12, none⟩ (.int .u32 c)) (w.heap.size + 1) 41 (cells32 (fixed16.set 12 c)) := by
    have := q1.set 12 (.int .u32 c)
    rwa [cells32_set] at this
  have q5 : RowIs (w3.setCell ⟨w.heap.size + 1, 12, none⟩ (.int .u32 c)) w.heap.size 41 (cells32 z16) := q2.setOther (by simp) _
  have q6 : Below w.heap.size w (w3.setCell ⟨w.heap.size + 1, 12, none⟩ (.int .u32 c)) := q3.setCell (by simp) _
  clear q1 q2 q3 c12 z12
  generalize w3.setCell ⟨w.heap.size + 1, 12, none⟩ (.int .u32 c) = w4 at *
  refine (HP1.out _ _ _ rfl q4).mono ?_
  rintro e w5 ⟨rfl, r1, u1⟩
  have q7 : RowIs w5 w.heap.size 41 (cells32 z16) := u1.row q5 (by simp)
  have q8 : Below w.heap.size w w5 := q6.trans (u1.below (by simp) q6.size)
  clear q4 q5 q6 u1
  go_wp2_with fail
  refine (HP2.out _ _ _ (fillTo_len _ _ _ _ (Nat.le_of_ble_eq_true rfl)) r1).mono ?_
  rintro e w6 ⟨rfl, r2, u2⟩
  rw [first_of] at r2
  have q9 : RowIs w6 w.heap.size 41 (cells32 z16) := u2.row q7 (by simp)
  have qa : Below w.heap.size w w6 := q8.trans (u2.below (by simp) q8.size)
  clear q7 q8 u2 r1
  have hlen : (cells32 (firstL key c nonce)).length = 16 := by rw [cells32_len, firstL_len]
  have hone2 := all_oneCell_toArray (cells32_one (firstL key c nonce))
  have HCS : Hid (∃ cs, cs = cells32 (firstL key c nonce)) := ⟨_, rfl⟩
  obtain ⟨cs, hcs⟩ := HCS.out
  rw [← hcs] at r2 hlen hone2
  have HE : Hid (cs = cells32 (firstL key c nonce)) := hcs
  clear hcs HCS
  go_wp2_with (first | (refine wpList_load_mid rfl 41 _ rfl (w.heap.size + 1) 0 rfl cs _ (r2.range (by rw [List.drop_zero, List.take_length])) Try.underlying41 rfl (by rw [size16, hlen]) ?_) | (refine wpList_store_mid rfl 41 _ _ rfl w.heap.size 0 cs.toArray rfl rfl (q9.there (by simp [hlen, cells32_len, z16_len])) (by rw [size16]; simp [hlen]) hone2 ?_))
  refine bodyPost_ret (v := .agg cs.toArray) (results_row rfl _ _ w.heap.size cs _ (by simp [Act.put]) ?_ Try.underlying41 rfl (by rw [size16, hlen])) rfl ⟨by rw [HE.out], bel_setCells qa (by omega) _ _⟩
  exact World.rangeAt_setCells_same _ _ _ _ (q9.there (by simp [hlen, cells32_len, z16_len]))

end Go.Proofs.Ytckcfgbcnefbhaa
