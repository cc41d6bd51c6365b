/-
  The contract of the reference's Hex.
-/
import Derived.Test.YtgbdcgebbfcpoaaOct7
namespace Go.Proofs.Ytgbdcgebbfcpoaa
open Go.RowKit
set_option linter.unusedVariables false

theorem u8_quo16 (b : UInt8) : IntKind.u8.wrap ((b.toNat : Int) / 16) = (b.toNat : Int) / 16 := by
  have := b.toNat_lt
  rw [IntKind.wrap_u8']; omega
theorem digits_at : ∀ n : Nat, n < 16 → ∀ h, ((⟨#[48, 49, 50, 51, 52, 53, 54, 55, 56, 57, 97, 98, 99, 100, 101, 102]⟩ : ByteArray)[n]'h) = digB n := by
  intro n hn
  match n, hn with
  | 0, _ => intro h; rfl
  | 1, _ => intro h; rfl
  | 2, _ => intro h; rfl
  | 3, _ => intro h; rfl
  | 4, _ => intro h; rfl
  | 5, _ => intro h; rfl
  | 6, _ => intro h; rfl
  | 7, _ => intro h; rfl
  | 8, _ => intro h; rfl
  | 9, _ => intro h; rfl
  | 10, _ => intro h; rfl
  | 11, _ => intro h; rfl
  | 12, _ => intro h; rfl
  | 13, _ => intro h; rfl
  | 14, _ => intro h; rfl
  | 15, _ => intro h; rfl
  | n + 16, h => omega

set_option maxHeartbeats 1000000 in
theorem ref_hex (s : ByteArray) (w : World) (hs : s.size ≤ 70368744177664) :
    Calls Try.prog 25 #[.string s] w fun e w' => e = .returned (.string (hexS s)) ∧ Below w.heap.size w w' := by
  obtain ⟨i0, hi, hz0, hz1, hz2⟩ := info_parts info8
  go_enter Try.func25, Try.ntmps25
  go_wp2
  go_loopw [3, 4] (fun v i wr => ∃ (k : Nat) (l : List UInt8), k ≤ s.size ∧ i = .int .i64 k ∧ Hid (l = hexL (s.data.toList.take k)) ∧ wr.ownsRow w.heap.size 5 1 v (2 * k) (cells8 l) ∧ Below w.heap.size w wr) (fun _ i _ => s.size - (intOf i).toNat)
  case atStart => exact ⟨0, [], Nat.zero_le _, rfl, rfl, World.ownsRow_nil _ _ _ _, Below.refl _ _⟩
  case round =>
    obtain ⟨k, l, hk, rfl, HL, hown, hbel⟩ := hrel
    by_cases hlt : k < s.size
    · have hby : (s[k].toNat : Int) < 256 := by have := s[k].toNat_lt; omega
      have hq := u8_quo16 s[k]
      have htm : ((s[k].toNat : Int)).tmod 16 = (s[k].toNat : Int) % 16 := Int.tmod_eq_emod_of_nonneg (by omega)
      have hq16 : (s[k].toNat : Int) / 16 < 16 := by omega
      have hr16 : (s[k].toNat : Int) % 16 < 16 := by omega
      have hq0 : 0 ≤ (s[k].toNat : Int) / 16 := by omega
      have hr0 : 0 ≤ (s[k].toNat : Int) % 16 := by omega
      have et1 : ((s[k].toNat : Int) / 16).toNat = s[k].toNat / 16 := by omega
      have et2 : ((s[k].toNat : Int) % 16).toNat = s[k].toNat % 16 := by omega
      have hd1 := digits_at (s[k].toNat / 16) (by omega)
      have hd2 := digits_at (s[k].toNat % 16) (by omega)
      go_wp2
      go_region_held3 (fun w' => True) (exact True.intro) (first | (refine step_append_lies _ rfl (.tmp 11) (.tmp 22) 33 rfl w.heap.size 5 i0 (.int .u8 0) 1 1 Try.underlying33 hi hz0 hz1 hz2 rfl (by decide) u3 (2 * k) (cells8 l) rfl (hown.alloc _).drew ⟨wr.heap.size, 0, none⟩ 2 2 (cells8 [digB (s[k].toNat / 16), digB (s[k].toNat % 16)]) rfl rfl (World.news_of_block (heap_alloc_new wr _)) (cells8_one _) (by decide) (by unfold maxLen; omega) (by omega) (by have := hbel.size; simp; omega) _ rfl ?_; intro g cap w2 hown2 hgrow2 hat hlt2))
      all_goals
        go_wp2
        go_roundw
        case rel =>
          refine ⟨k + 1, l ++ [digB (s[k].toNat / 16), digB (s[k].toNat % 16)], by omega, by go_num, ?_, ?_, ?_⟩
          · show _ = _
            rw [take_snoc s k hlt, hexL_append, ← HL.out]; rfl
          · rw [cells8_append]; exact hown2
          · have hz := hbel.size
            exact ((hbel.alloc (by omega) _).drew).grown hgrow2 (by simp; omega) (fun j hj => (hown.lt j hj).1)
        case measure => simp [intOf]; omega
    · have hconv := own_string_any hown
      go_wp2
      go_ret
      refine ⟨ret_str ?_, hbel⟩
      unfold hexS
      rw [HL.out, List.take_of_length_le (by simp; omega)]

end Go.Proofs.Ytgbdcgebbfcpoaa
