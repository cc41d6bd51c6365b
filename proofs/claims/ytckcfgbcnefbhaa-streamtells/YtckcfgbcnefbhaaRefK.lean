/-
  The contract of the reference's Stream.
-/
import Derived.Test.YtckcfgbcnefbhaaRefH
import Derived.Test.YtckcfgbcnefbhaaCha8
import Derived.Test.YtckcfgbcnefbhaaOct6
namespace Go.Proofs.Ytckcfgbcnefbhaa
open Go.RowKit
set_option linter.unusedVariables false
set_option maxRecDepth 100000

set_option maxRecDepth 100000 in
set_option maxHeartbeats 2000000 in
theorem ref_stream (key : ByteArray) (c : Int) (nonce b : ByteArray) (w : World) (hk : key.size = 32) (hn : nonce.size = 12) (hc : W32 c) (hb : b.size ≤ 1000000) :
    Calls Try.prog 15 #[.string key, .int .u32 c, .string nonce, .string b] w fun e w' => e = .returned (.string (hideS key c nonce b)) ∧ Below w.heap.size w w' := by
  have HBK : Hid (∀ (c : Int) (w : World), W32 c → Calls Try.prog 14 #[.string key, .int .u32 c, .string nonce] w fun e w' => e = .returned (.string (blockS key c nonce)) ∧ Below w.heap.size w w') := fun c w h => ref_block key c nonce w hk hn h
  have H0 : Hid (hideTo key c nonce b 0 = []) := by show xorL _ _ = _; unfold xorL; simp [keysTo]
  have C0 : Hid (addI c ((0 : Nat) : Int) = c) := addI_zero hc
  go_enter Try.func15, Try.ntmps15
  go_wp2_with fail
  go_loopw [1, 9, 10] (fun cv o i wr => ∃ j : Nat, j ≤ b.size ∧ i = .int .i64 (64 * (j : Int)) ∧ cv = .int .u32 (addI c (j : Int)) ∧ o = .string (str (hideTo key c nonce b j)) ∧ Below w.heap.size w wr) (fun _ _ i _ => (b.size + 64 - (intOf i).toNat))
  case atStart => exact ⟨0, Nat.zero_le _, rfl, by rw [C0.out], by rw [H0.out]; rfl, Below.refl _ _⟩
  case round =>
    clear H0 C0
    obtain ⟨j, hj, rfl, rfl, rfl, bel⟩ := hrel
    by_cases hlt : 64 * j < b.size
    · have hcmp : 64 * (j : Int) < (b.size : Int) := by omega
      have hx : W32 (addI c (j : Int)) := addI_w _ _
      have HN : Hid (addI c ((j + 1 : Nat) : Int) = (addI c (j : Int) + 1) % 4294967296) := by
        show _ = addI (addI c (j : Int)) 1
        rw [addI_addI, Int.natCast_add]; rfl
      have HH : Hid (hideTo key c nonce b (j + 1) = hideTo key c nonce b j ++ xorL (b.data.toList.drop (64 * j)) (blockL key (addI c (j : Int)) nonce)) := hideTo_succ key c nonce b j (by omega)
      have hsl := drop_str b (64 * j) (64 * (j : Int)) (by simp) (by omega)
      have HX : Hid (xorS (str (b.data.toList.drop (64 * j))) (blockS key (addI c (j : Int)) nonce) = str (xorL (b.data.toList.drop (64 * j)) (blockL key (addI c (j : Int)) nonce))) := by
        show xorS _ _ = _
        unfold xorS blockS str
        rfl
      have hds : (str (b.data.toList.drop (64 * j))).size ≤ 1000000 := by rw [str_size]; simp; omega
      have hbz := blockS_size key (addI c (j : Int)) nonce
      have hxl : (xorL (b.data.toList.drop (64 * j)) (blockL key (addI c (j : Int)) nonce)).length ≤ 64 := by unfold xorL; rw [List.length_zipWith, blockL_len]; omega
      have hl1 : (str (hideTo key c nonce b j)).size ≤ 1000000 := by rw [str_size, hideTo_len]; omega
      have hcat : str (hideTo key c nonce b j) ++ str (xorL (b.data.toList.drop (64 * j)) (blockL key (addI c (j : Int)) nonce)) = str (hideTo key c nonce b (j + 1)) := by rw [str_cat5, HH.out]
      have hl2 : (str (xorL (b.data.toList.drop (64 * j)) (blockL key (addI c (j : Int)) nonce))).size ≤ 64 := by rw [str_size]; exact hxl
      have hbkx := fun w => HBK.out (addI c (j : Int)) w hx
      have hxr := fun w => ref_xor (str (b.data.toList.drop (64 * j))) (blockS key (addI c (j : Int)) nonce) w (by omega) (by rw [hbz]; omega)
      rw [HX.out] at hxr
      have HB2 : Hid _ := hbkx
      have HXR : Hid _ := hxr
      clear hbkx HBK hxr HX HH hxl hbz hds
      have hln : ¬ (9223372036854775807 < (str (hideTo key c nonce b j)).size + (str (xorL (b.data.toList.drop (64 * j)) (blockL key (addI c (j : Int)) nonce))).size) := by omega
      generalize str (xorL (b.data.toList.drop (64 * j)) (blockL key (addI c (j : Int)) nonce)) = X at *
      generalize blockS key (addI c (j : Int)) nonce = Y at *
      generalize str (b.data.toList.drop (64 * j)) = Z at *
      generalize str (hideTo key c nonce b j) = V at *
      generalize addI c (j : Int) = x at *
      have hx0 := hx.1
      have hx1 := hx.2
      clear hx
      have HCAT : Hid (V ++ X = str (hideTo key c nonce b (j + 1))) := hcat
      clear hcat
      go_wp2_with fail
      replace bel := bel.drew
      go_region_held3 (fun w' => True) (exact True.intro) (first | (go_at_call 14; refine (HB2.out _).mono ?_; rintro e w5 ⟨rfl, b5⟩; replace bel := bel_chain' bel b5; clear b5) | (go_at_call 17; refine (HXR.out _).mono ?_; rintro e w6 ⟨rfl, b6⟩; replace bel := bel_chain' bel b6; clear b6))
      go_wp2
      go_roundw
      case rel => exact ⟨j + 1, by omega, by rw [show (64 : Int) * ((j + 1 : Nat) : Int) = 64 * (j : Int) + 64 from by omega], by rw [HN.out], by rw [HCAT.out], bel⟩
      case measure => simp [intOf]; omega
    · have HE : Hid (hideS key c nonce b = str (hideTo key c nonce b j)) := hideS_at key c nonce b j (by omega)
      have hcmp : ¬ 64 * (j : Int) < (b.size : Int) := by omega
      go_wp2
      go_ret
      exact ⟨ret_str HE.out.symm, bel⟩

end Go.Proofs.Ytckcfgbcnefbhaa
