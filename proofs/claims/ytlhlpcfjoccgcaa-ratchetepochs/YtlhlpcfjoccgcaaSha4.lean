/-
  The contract of package digest's schedule.
-/
import Derived.Test.YtlhlpcfjoccgcaaSha3
import Derived.Deep.RegionHeld3
namespace Go.Proofs.Ytlhlpcfjoccgcaa
open Go.RowKit
set_option linter.unusedVariables false
set_option maxRecDepth 100000

set_option maxRecDepth 100000 in
set_option maxHeartbeats 1000000 in
theorem dig_schedule (b o : Nat) (blk : List UInt8) (w : World) (hl : blk.length = 64) (hr : w.rangeAt b o (cells8 blk)) (hb : b < w.heap.size) :
    Calls Try.prog 70 #[.pointer (some ⟨b, o, none⟩)] w fun e w' => e = .returned (.agg (cells32 (wTo blk 64)).toArray) ∧ Below w.heap.size w w' := by
  go_enter Try.func70, Try.ntmps70
  go_wp2_with (first | (refine wpList_alloc rfl rfl run_alloc64 ?_))
  have hr2 : RowIs ((w.alloc (.cells (cells32 z64).toArray 76)).alloc (.cells (cells32 z64).toArray 76)) (w.heap.size + 1) 76 (cells32 z64) := by
    have := RowIs.new (w.alloc (.cells (cells32 z64).toArray 76)) 76 (cells32 z64)
    simpa using this
  have hr1 : RowIs ((w.alloc (.cells (cells32 z64).toArray 76)).alloc (.cells (cells32 z64).toArray 76)) w.heap.size 76 (cells32 z64) := (RowIs.new w _ _).alloc _
  have hb2 : Below w.heap.size w ((w.alloc (.cells (cells32 z64).toArray 76)).alloc (.cells (cells32 z64).toArray 76)) := ((Below.refl _ _).alloc (Nat.le_refl _) _).alloc (by simp) _
  generalize (w.alloc (.cells (cells32 z64).toArray 76)).alloc (.cells (cells32 z64).toArray 76) = w2 at *
  go_loopw [6] (fun i wr => ∃ k : Nat, k ≤ 16 ∧ i = .int .i64 k ∧ RowIs wr (w.heap.size + 1) 76 (cells32 (wTo blk k ++ List.replicate (64 - k) 0)) ∧ RowIs wr w.heap.size 76 (cells32 z64) ∧ Below w.heap.size w wr) (fun i _ => 16 - (intOf i).toNat)
  case atStart => exact ⟨0, by omega, rfl, hr2, hr1, hb2⟩
  case round =>
    clear hr2 hr1 hb2
    obtain ⟨k, hk, rfl, hrow, hrow1, hbel⟩ := hrel
    by_cases hlt : k < 16
    · have hsl := slice_lh wr b o (4 * (k : Int)) (4 * ((k : Int) + 1)) (by omega) (by omega) (by omega) (by omega)
      rw [show (4 * (k : Int)).toNat = 4 * k from by omega, show (4 * ((k : Int) + 1) - 4 * (k : Int)).toNat = 4 from by omega] at hsl
      have hp : ((blk.drop (4 * k)).take 4).length = 4 := by simp; omega
      have hcv : (convert 37 9 (.slice (some ⟨b, o + 4 * k, none⟩) 4 (64 - 4 * k))).run Try.prog wr = .ok (.string (str ((blk.drop (4 * k)).take 4))) wr := by
        refine range_string ?_ hp.symm
        rw [← cells8_part]
        exact range_part (range_below hr hbel hb) _ _
      have HB : Hid (bigS (str ((blk.drop (4 * k)).take 4)) = wNext blk (wTo blk k)) := by rw [wNext_lo blk k hlt]; exact big4 _ (by omega)
      have hw : W32 (wNext blk (wTo blk k)) := by rw [wNext_lo blk k hlt]; exact num4_w _ (by omega)
      have hw0 := hw.1
      have hw1 := hw.2
      have HN : Hid ((cells32 (wTo blk k ++ List.replicate (64 - k) 0)).set k (.int .u32 (wNext blk (wTo blk k))) = cells32 (wTo blk (k + 1) ++ List.replicate (64 - (k + 1)) 0)) := row_next blk k (by omega)
      generalize wNext blk (wTo blk k) = nx at *
      have hst : (str ((blk.drop (4 * k)).take 4)).size ≤ maxLen := by rw [str_size, hp]; decide
      generalize str ((blk.drop (4 * k)).take 4) = st at *
      have hcell := hrow.cellAt (j := k) (List.getElem?_eq_getElem (by rw [row_len blk k (by omega)]; omega))
      have hfr := hrow.frozen k
      go_wp2_with (first | (go_at_call 77; refine (octet_big _ _ hst).mono ?_; rintro e w' ⟨rfl, rfl⟩; rw [HB.out]))
      go_roundw
      case rel => exact ⟨k + 1, by omega, by go_num, by rw [← HN.out]; exact hrow.set _ _, hrow1.setOther (by simp) _, hbel.setCell (by simp) _⟩
      case measure => simp [intOf]; omega
    · have hk16 : k = 16 := by omega
      have hrow16 := hrow
      rw [hk16] at hrow16
      clear hrow hk16
      go_wp2
      clear hlt hk
      go_loopw [5] (fun i wr => ∃ k : Nat, 16 ≤ k ∧ k ≤ 64 ∧ i = .int .i64 k ∧ RowIs wr (w.heap.size + 1) 76 (cells32 (wTo blk k ++ List.replicate (64 - k) 0)) ∧ RowIs wr w.heap.size 76 (cells32 z64) ∧ Below w.heap.size w wr) (fun i _ => 64 - (intOf i).toNat)
      case atStart => exact ⟨16, by omega, by omega, rfl, hrow16, hrow1, hbel⟩
      case round =>
        clear hrow16 hrow1 hbel
        obtain ⟨k, hk0, hk, rfl, hrow, hrow1, hbel⟩ := hrel
        by_cases hlt : k < 64
        · have c16 := hrow.cellAt (row_at blk k (k - 16) (by omega) hk)
          have c15 := hrow.cellAt (row_at blk k (k - 15) (by omega) hk)
          have c7 := hrow.cellAt (row_at blk k (k - 7) (by omega) hk)
          have c2 := hrow.cellAt (row_at blk k (k - 2) (by omega) hk)
          have HN : Hid ((cells32 (wTo blk k ++ List.replicate (64 - k) 0)).set k (.int .u32 (wNext blk (wTo blk k))) = cells32 (wTo blk (k + 1) ++ List.replicate (64 - (k + 1)) 0)) := row_next blk k (by omega)
          have HW : Hid (wNext blk (wTo blk k) = _) := wNext_hi blk k (by omega)
          have w16 := getD_w (wTo_w blk k) (k - 16)
          have w15 := getD_w (wTo_w blk k) (k - 15)
          have w7 := getD_w (wTo_w blk k) (k - 7)
          have w2 := getD_w (wTo_w blk k) (k - 2)
          have hcell := hrow.cellAt (j := k) (List.getElem?_eq_getElem (by rw [row_len blk k (by omega)]; omega))
          have hfr := hrow.frozen k
          generalize (cells32 (wTo blk k ++ List.replicate (64 - k) 0))[k]'_ = old at hcell
          generalize (wTo blk k).getD (k - 16) 0 = x16 at *
          generalize (wTo blk k).getD (k - 15) 0 = x15 at *
          generalize (wTo blk k).getD (k - 7) 0 = x7 at *
          generalize (wTo blk k).getD (k - 2) 0 = x2 at *
          have a16 : IntKind.i64.wrap ((k : Int) - 16) = (k : Int) - 16 := IntWalk.i64_in _ ⟨by omega, by omega⟩
          have a15 : IntKind.i64.wrap ((k : Int) - 15) = (k : Int) - 15 := IntWalk.i64_in _ ⟨by omega, by omega⟩
          have a7 : IntKind.i64.wrap ((k : Int) - 7) = (k : Int) - 7 := IntWalk.i64_in _ ⟨by omega, by omega⟩
          have a2 : IntKind.i64.wrap ((k : Int) - 2) = (k : Int) - 2 := IntWalk.i64_in _ ⟨by omega, by omega⟩
          have i16 : ∀ w', (Instr.indexAt 76 (.pointer (some ⟨w.heap.size + 1, 0, none⟩)) (.int .i64 ((k : Int) - 16))).run Try.prog w' = .ok (.pointer (some ⟨w.heap.size + 1, k - 16, none⟩)) w' := fun w' => by have := index39 w' (w.heap.size + 1) 0 ((k : Int) - 16) (k - 16) (by omega) (by omega); rwa [Nat.zero_add] at this
          have i15 : ∀ w', (Instr.indexAt 76 (.pointer (some ⟨w.heap.size + 1, 0, none⟩)) (.int .i64 ((k : Int) - 15))).run Try.prog w' = .ok (.pointer (some ⟨w.heap.size + 1, k - 15, none⟩)) w' := fun w' => by have := index39 w' (w.heap.size + 1) 0 ((k : Int) - 15) (k - 15) (by omega) (by omega); rwa [Nat.zero_add] at this
          have i7 : ∀ w', (Instr.indexAt 76 (.pointer (some ⟨w.heap.size + 1, 0, none⟩)) (.int .i64 ((k : Int) - 7))).run Try.prog w' = .ok (.pointer (some ⟨w.heap.size + 1, k - 7, none⟩)) w' := fun w' => by have := index39 w' (w.heap.size + 1) 0 ((k : Int) - 7) (k - 7) (by omega) (by omega); rwa [Nat.zero_add] at this
          have i2 : ∀ w', (Instr.indexAt 76 (.pointer (some ⟨w.heap.size + 1, 0, none⟩)) (.int .i64 ((k : Int) - 2))).run Try.prog w' = .ok (.pointer (some ⟨w.heap.size + 1, k - 2, none⟩)) w' := fun w' => by have := index39 w' (w.heap.size + 1) 0 ((k : Int) - 2) (k - 2) (by omega) (by omega); rwa [Nat.zero_add] at this
          have ne16 : ¬ k = k - 16 := by omega
          have ne15 : ¬ k = k - 15 := by omega
          have ne7 : ¬ k = k - 7 := by omega
          have ne2 : ¬ k = k - 2 := by omega
          have k0 : (0 : Int) ≤ (k : Int) := by omega
          have k64 : (k : Int) < 64 := by omega
          go_wp2_with fail
          go_region_held3 (fun w' => w'.cell? ⟨w.heap.size + 1, k - 16, none⟩ = some (.int .u32 x16) ∧ w'.cell? ⟨w.heap.size + 1, k - 15, none⟩ = some (.int .u32 x15) ∧ w'.cell? ⟨w.heap.size + 1, k - 7, none⟩ = some (.int .u32 x7) ∧ w'.cell? ⟨w.heap.size + 1, k - 2, none⟩ = some (.int .u32 x2)) (first | (go_split_ands; refine ⟨?_, ?_, ?_, ?_⟩ <;> first | assumption | (refine cell_set_other ?_ ?_; assumption; omega) | (rw [World.cell?_drew]; assumption)) | go_keep) (first | (go_at_call 78; refine (dig_sigma0 _ _ w15).mono ?_; rintro e w' ⟨rfl, rfl⟩) | (go_at_call 79; refine (dig_sigma1 _ _ w2).mono ?_; rintro e w' ⟨rfl, rfl⟩))
          go_wp2
          go_roundw
          case rel =>
            have e : (((x16 + sg0 x15) % 4294967296 + x7) % 4294967296 + sg1 x2) % 4294967296 = wNext blk (wTo blk k) := by
              rw [HW.out]; rfl
            rw [e]
            exact ⟨k + 1, by omega, by omega, by go_num, by rw [← HN.out]; exact hrow.set _ _, hrow1.setOther (by simp) _, (hbel.setCell (by simp) _).drew⟩
          case measure => simp [intOf]; omega
        · have hk64 : k = 64 := by omega
          have hfull : cells32 (wTo blk k ++ List.replicate (64 - k) 0) = cells32 (wTo blk 64) := by rw [hk64]; simp
          rw [hfull] at hrow
          have hlen : (cells32 (wTo blk 64)).length = 64 := by rw [cells32_len, wTo_len]
          have hone := all_oneCell_toArray (cells32_one (wTo blk 64))
          clear hfull hk64
          obtain ⟨cs, hcs⟩ : ∃ cs, cs = cells32 (wTo blk 64) := ⟨_, rfl⟩
          rw [← hcs] at hrow hlen hone
          have HCS : Hid (cs = cells32 (wTo blk 64)) := hcs
          clear hcs
          go_wp2_with (first | (refine wpList_load_mid rfl 76 _ rfl (w.heap.size + 1) 0 rfl cs _ (hrow.range (by rw [List.drop_zero, List.take_length])) Try.underlying76 rfl (by rw [size64, hlen]) ?_) | (refine wpList_store_mid rfl 76 _ _ rfl w.heap.size 0 cs.toArray rfl rfl (hrow1.there (by simp [hlen, cells32_len, z64_len])) (by rw [size64]; simp [hlen]) hone ?_))
          refine bodyPost_ret (v := .agg cs.toArray) (results_row rfl _ _ w.heap.size cs _ (by simp [Act.put]) ?_ Try.underlying76 rfl (by rw [size64, hlen])) rfl ⟨by rw [HCS.out], bel_setCells hbel (Nat.le_refl _) _ _⟩
          exact World.rangeAt_setCells_same _ _ _ _ (hrow1.there (by simp [hlen, cells32_len, z64_len]))

end Go.Proofs.Ytlhlpcfjoccgcaa
