/-
  The contract of package stream's Xor: the loop.
-/
import Derived.Test.YtckcfgbcnefbhaaCha7
namespace Go.Proofs.Ytckcfgbcnefbhaa
open Go.RowKit
set_option linter.unusedVariables false
set_option maxRecDepth 100000

theorem bel_chain' {w w1 w2 : World} (h1 : Below w.heap.size w w1) (h2 : Below w1.heap.size w1 w2) : Below w.heap.size w w2 := h1.trans (h2.mono h1.size)

set_option maxRecDepth 100000 in
set_option maxHeartbeats 2000000 in
theorem stream_xor_yes (key : ByteArray) (c : Int) (nonce b : ByteArray) (w : World) (hk : key.size = 32) (hn : nonce.size = 12) (hc : W32 c) (hb : b.size ≤ 1000000) :
    Calls Try.prog 13 #[.string key, .int .u32 c, .string nonce, .string b] w fun e w' => e = .returned (.tuple #[.string (hideS key c nonce b), .bool true]) ∧ Below w.heap.size w w' := by
  have hfit : decide (key.size = 32 ∧ nonce.size = 12) = true := by simp [hk, hn]
  have hA := stream_areFit key nonce w
  rw [hfit] at hA
  have HBK : Hid (∀ (c : Int) (w : World), W32 c → Calls Try.prog 12 #[.string key, .int .u32 c, .string nonce] w fun e w' => e = .returned (.tuple #[.string (blockS key c nonce), .bool true]) ∧ Below w.heap.size w w') := fun c w h => stream_block_yes key c nonce w hk hn h
  go_enter Try.func13, Try.ntmps13
  go_wp2_with (first | (go_at_call 19; refine hA.mono ?_; rintro e w' ⟨rfl, rfl⟩))
  have r0 : RowIs (w.alloc (.cells #[.int .u32 0] 50)) w.heap.size 50 [.int .u32 0] := RowIs.new w _ _
  have b0 : Below w.heap.size w (w.alloc (.cells #[.int .u32 0] 50)) := (Below.refl _ _).alloc (Nat.le_refl _) _
  generalize w.alloc (.cells #[.int .u32 0] 50) = w1 at *
  refine (u32_store ⟨w.heap.size, 0, none⟩ _ c w1 (r0.cellAt rfl) (r0.frozen 0)).mono ?_
  rintro e w' ⟨rfl, rfl⟩
  have r1 : RowIs (w1.setCell ⟨w.heap.size, 0, none⟩ (.int .u32 c)) w.heap.size 50 [.int .u32 c] := r0.set 0 _
  have b1 : Below w.heap.size w (w1.setCell ⟨w.heap.size, 0, none⟩ (.int .u32 c)) := b0.setCell (Nat.le_refl _) _
  clear r0 b0
  generalize w1.setCell ⟨w.heap.size, 0, none⟩ (.int .u32 c) = w2 at *
  have r2 : RowIs (w2.alloc (.cells #[.pointer none, .slice none 0 0] 54)) w.heap.size 50 [.int .u32 c] := r1.alloc _
  have b2 : Below w.heap.size w (w2.alloc (.cells #[.pointer none, .slice none 0 0] 54)) := b1.alloc b1.size _
  have hbk : (w2.alloc (.cells #[.pointer none, .slice none 0 0] 54)).heap[w2.heap.size]? = some (.cells #[.pointer none, .slice none 0 0] 54 (0, 0)) := RowIs.new w2 _ [.pointer none, .slice none 0 0]
  have hsz : w2.heap.size ≤ (w2.alloc (.cells #[.pointer none, .slice none 0 0] 54)).heap.size := by simp
  have hlt := r1.lt
  have hle := b1.size
  clear r1 b1
  go_wp2_with fail
  generalize w2.alloc (.cells #[.pointer none, .slice none 0 0] 54) = w3 at *
  refine (Try.Builder_Grow_fresh w2.heap.size w2.heap.size b.size w3 (Nat.le_refl _) hbk hsz (by omega)).mono ?_
  rintro e w4 ⟨rfl, d4, b4⟩
  have r4 : RowIs w4 w.heap.size 50 [.int .u32 c] := r2.below b4 hlt
  have e4 : Below w.heap.size w w4 := b2.trans (b4.mono (Nat.le_of_lt hlt))
  have s4 : w2.heap.size ≤ w4.heap.size := Nat.le_trans hsz b4.size
  clear r2 b2 hbk hsz b4
  generalize w2.heap.size = N at *
  have H0 : Hid (hideTo key c nonce b 0 = []) := by show xorL _ _ = _; unfold xorL; simp [keysTo]
  have C0 : Hid (addI c ((0 : Nat) : Int) = c) := addI_zero hc
  go_wp2_with fail
  go_loopw [12] (fun v wr => ∃ j : Nat, j ≤ b.size ∧ RowIs wr w.heap.size 50 [.int .u32 (addI c (j : Int))] ∧ Lib.BuilderAt 54 5 N N (.pointer (some ⟨N, 0, none⟩)) (cells8 (hideTo key c nonce b j)) wr ∧ Below w.heap.size w wr ∧ N ≤ wr.heap.size) (fun _ wr => b.size - bLen wr N)
  case atStart => exact ⟨0, Nat.zero_le _, by rw [C0.out]; exact r4, by rw [H0.out]; exact d4, e4, s4⟩
  case round =>
    clear r4 d4 e4 s4 H0 C0
    obtain ⟨j, hj, rr, rb, rd, rs⟩ := hrel
    have hlen : (cells8 (hideTo key c nonce b j)).length = min b.size (64 * j) := by rw [cells8_len, hideTo_len]
    by_cases hlt64 : 64 * j < b.size
    · rw [show min b.size (64 * j) = 64 * j from by omega] at hlen
      have hL : ∀ w', Lib.BuilderAt 54 5 N N (.pointer (some ⟨N, 0, none⟩)) (cells8 (hideTo key c nonce b j)) w' → Calls Try.prog 25 #[.pointer (some ⟨N, 0, none⟩)] w' fun e w'' => e = .returned (.int .i64 (64 * (j : Int))) ∧ w' = w'' := by
        intro w' h
        refine (Try.Builder_Len N N _ w' (Or.inr h)).mono ?_
        rintro e w'' ⟨rfl, rfl⟩
        exact ⟨by rw [hlen]; simp, rfl⟩
      have HL : Hid _ := hL
      clear hL
      have hcmp : 64 * (j : Int) < (b.size : Int) := by omega
      have hx : W32 (addI c (j : Int)) := addI_w _ _
      have hsub : (addI (addI c (j : Int)) 1 - 1) % 4294967296 = addI c (j : Int) := by
        have h1 := hx.1
        have h2 := hx.2
        generalize addI c (j : Int) = x at *
        unfold addI
        omega
      have HN : Hid (addI c ((j + 1 : Nat) : Int) = addI (addI c (j : Int)) 1) := by
        show _ = _
        rw [addI_addI, Int.natCast_add]; rfl
      have HH : Hid (hideTo key c nonce b (j + 1) = hideTo key c nonce b j ++ xorL (b.data.toList.drop (64 * j)) (blockL key (addI c (j : Int)) nonce)) := hideTo_succ key c nonce b j (by omega)
      have hsl := drop_str b (64 * j) (64 * (j : Int)) (by simp) (by omega)
      have HX : Hid (xorS (str (b.data.toList.drop (64 * j))) (blockS key (addI c (j : Int)) nonce) = str (xorL (b.data.toList.drop (64 * j)) (blockL key (addI c (j : Int)) nonce))) := by
        show xorS _ _ = _
        unfold xorS blockS str
        rfl
      have hds : (str (b.data.toList.drop (64 * j))).size ≤ 1000000 := by rw [str_size]; simp; omega
      have hbz := blockS_size key (addI c (j : Int)) nonce
      have hxl : (xorL (b.data.toList.drop (64 * j)) (blockL key (addI c (j : Int)) nonce)).length ≤ 64 := by unfold xorL; rw [List.length_zipWith, blockL_len]; omega
      have hbkx := fun w => HBK.out (addI c (j : Int)) w hx
      have HB2 : Hid _ := hbkx
      clear hbkx HBK
      have hm1 := bLen_of rb
      rw [hlen] at hm1
      generalize addI c (j : Int) = x at *
      have HY0 : Hid (∃ y, addI x 1 = y) := ⟨_, rfl⟩
      obtain ⟨y, hy⟩ := HY0.out
      rw [hy] at hsub HN
      have HY : Hid (addI x 1 = y) := hy
      clear hy HY0
      go_wp2_with fail
      refine (HL.out _ rb).mono ?_
      rintro e w' ⟨rfl, rfl⟩
      go_wp2_with fail
      refine (u32_add ⟨w.heap.size, 0, none⟩ x 1 wr (rr.cellAt rfl) (rr.frozen 0)).mono ?_
      rintro e w' ⟨rfl, rfl⟩
      rw [HY.out]
      have r5 : RowIs (wr.setCell ⟨w.heap.size, 0, none⟩ (.int .u32 y)) w.heap.size 50 [.int .u32 y] := rr.set 0 _
      have d5 := builder_set rb (a := ⟨w.heap.size, 0, none⟩) hlt (.int .u32 y)
      have e5 : Below w.heap.size w (wr.setCell ⟨w.heap.size, 0, none⟩ (.int .u32 y)) := rd.setCell (Nat.le_refl _) _
      have s5 : N ≤ (wr.setCell ⟨w.heap.size, 0, none⟩ (.int .u32 y)).heap.size := by simpa [World.setCell] using rs
      clear rr rb rd rs
      generalize wr.setCell ⟨w.heap.size, 0, none⟩ (.int .u32 y) = w5 at *
      go_wp2_with fail
      refine (HB2.out w5).mono ?_
      rintro e w6 ⟨rfl, b6⟩
      have r6 := r5.below b6 r5.lt
      have d6 := builder_kept d5 b6
      have e6 := bel_chain' e5 b6
      have s6 := Nat.le_trans s5 b6.size
      clear r5 d5 e5 s5 b6
      go_wp2_with fail
      refine (HL.out _ d6).mono ?_
      rintro e w' ⟨rfl, rfl⟩
      go_wp2_with fail
      refine (octet_xor _ _ _ (by omega) (by rw [hbz]; omega)).mono ?_
      rintro e w7 ⟨rfl, b7⟩
      rw [HX.out]
      have r7 := r6.below b7 r6.lt
      have d7 := builder_kept d6 b7
      have e7 := bel_chain' e6 b7
      have s7 := Nat.le_trans s6 b7.size
      clear r6 d6 e6 s6 b7
      go_wp2_with fail
      refine (Try.Builder_WriteString N N _ _ w7 (Or.inr d7) (by rw [hlen, str_size]; omega) s7).mono ?_
      rintro e w8 ⟨rfl, d8, b8⟩
      rw [strCells_str, ← cells8_append, ← HH.out] at d8
      have r8 := r7.below b8 hlt
      have e8 := e7.trans (b8.mono (Nat.le_of_lt hlt))
      have s8 := Nat.le_trans s7 b8.size
      have hm2 := bLen_of d8
      rw [cells8_len, hideTo_len] at hm2
      go_wp2_with fail
      go_roundw
      case rel => exact ⟨j + 1, by omega, by rw [HN.out]; exact r8, d8, e8, s8⟩
      case measure => rw [hm1, hm2]; omega
    · rw [show min b.size (64 * j) = b.size from by omega] at hlen
      have hL := Try.Builder_Len N N _ wr (Or.inr rb)
      rw [hlen] at hL
      have hS := Try.Builder_String_any N N (hideTo key c nonce b j) wr (Or.inr rb) rs
      have HE : Hid (hideS key c nonce b = str (hideTo key c nonce b j)) := hideS_at key c nonce b j (by omega)
      go_wp2_with (first | (go_at_call 25; refine hL.mono ?_; rintro e w' ⟨rfl, rfl⟩) | (go_at_call 29; refine hS.mono ?_; rintro e w5 ⟨rfl, b5⟩))
      go_ret2
      exact ⟨ret_sb HE.out.symm, rd.trans (b5.mono (Nat.le_of_lt hlt))⟩

theorem stream_xor_no (key : ByteArray) (c : Int) (nonce b : ByteArray) (w : World) (h : ¬ (key.size = 32 ∧ nonce.size = 12)) :
    Calls Try.prog 13 #[.string key, .int .u32 c, .string nonce, .string b] w fun e w' => e = .returned (.tuple #[.string ⟨#[]⟩, .bool false]) ∧ w = w' := by
  have hA := stream_areFit key nonce w
  rw [decide_eq_false h] at hA
  clear h
  go_enter Try.func13, Try.ntmps13
  go_wp2_with (first | (go_at_call 19; refine hA.mono ?_; rintro e w' ⟨rfl, rfl⟩))
  go_ret2
  exact ⟨rfl, rfl⟩

end Go.Proofs.Ytckcfgbcnefbhaa
