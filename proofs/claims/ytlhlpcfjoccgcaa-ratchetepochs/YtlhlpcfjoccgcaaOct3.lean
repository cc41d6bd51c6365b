/-
  The contracts of the reference's PutBig and PutLittle.
-/
import Derived.Test.YtlhlpcfjoccgcaaOct2
namespace Go.Proofs.Ytlhlpcfjoccgcaa
open Go.RowKit
set_option linter.unusedVariables false
set_option maxRecDepth 100000

theorem and255 (V : Int) (h0 : 0 ≤ V) (h1 : V < 18446744073709551616) : bits BinOp.and IntKind.u64 V 255 = V % 256 := by
  rw [u64_and _ _ h0 h1 (by omega) (by omega), show (255 : Int).toNat = 255 from rfl, nat_mask8]
  omega

theorem down256 (v : Int) (m : Nat) : v / 2 ^ (8 * m) / 256 = v / 2 ^ (8 * (m + 1)) := by
  rw [Int.ediv_ediv_of_nonneg (Int.pow_nonneg (by decide)), show (8 * (m + 1)) = 8 * m + 8 from by omega, Int.pow_add]
  rfl

theorem low_byte {v V : Int} {m : Nat} (h : V = v / 2 ^ (8 * m)) : V % 256 = ((byteOf v m).toNat : Int) := by rw [byteOf_val, h]

set_option maxHeartbeats 400000 in
set_option maxRecDepth 100000 in
theorem ref_putBig_yes (v : Int) (n : Nat) (w : World) (h0 : 0 ≤ v) (h1 : v < 18446744073709551616) (n1 : 1 ≤ n) (n8 : n ≤ 8) :
    Calls Try.prog 25 #[.int .u64 v, .int .i64 n] w fun e w' => e = .returned (.string (putBigS v n)) ∧ Below w.heap.size w w' := by
  obtain ⟨i0, hi, hz0, hz1, hz2⟩ := info_parts info8
  go_enter Try.func25, Try.ntmps25
  go_wp2_with (first | (at_make; refine wpList_make_full _ rfl _ _ 37 rfl w.heap.size 5 i0 (.int .u8 0) 1 Try.underlying37 hi hz0 hz1 .i64 .i64 n n n rfl rfl rfl rfl (by rw [hz2]; omega) (by unfold maxLen; omega) (Nat.le_refl _) ?_))
  intro w1 hown hgrow
  rw [made8] at hown
  have hb1 : Below w.heap.size w w1 := (Below.refl _ w).grown hgrow (Nat.le_refl _) (by intro k hk; cases hk)
  clear hgrow
  go_wp2
  go_loopw [0, 6] (fun x i wr => ∃ (k : Nat) (V : Int) (l : List UInt8), k ≤ n ∧ 0 ≤ V ∧ V < 18446744073709551616 ∧ x = .int .u64 V ∧ Hid (V = v / 2 ^ (8 * k)) ∧ i = .int .i64 ((n : Int) - 1 - k) ∧ l.length = n ∧ (∀ j, j < k → l[n - 1 - j]? = some (byteOf v j)) ∧ wr.ownsRow w.heap.size 5 1 (.slice (some ⟨w.heap.size, 0, none⟩) n n) n (cells8 l) ∧ Below w.heap.size w wr) (fun _ i _ => (intOf i + 1).toNat)
  case atStart => exact ⟨0, v, List.replicate n 0, Nat.zero_le _, h0, h1, rfl, by simp [Hid], by go_num, by simp, by intro j hj; omega, hown, hb1⟩
  case round =>
    clear hown hb1
    obtain ⟨k, V, l, hk, hV0, hV1, rfl, hV, rfl, hl, hbs, hown, hbel⟩ := hrel
    by_cases hlt : k < n
    · have hcell := hown.cellAt (n - 1 - k) (by omega)
      have hfz := hown.frozenAt (n - 1 - k)
      rw [cells8_at l (n - 1 - k) (by omega)] at hcell
      have hand := and255 V hV0 hV1
      have hlow : V % 256 = ((byteOf v k).toNat : Int) := low_byte hV.out
      have hlt8 : ((byteOf v k).toNat : Int) < 256 := by have := (byteOf v k).toNat_lt; omega
      rw [hlow] at hand
      clear hlow
      go_wp2
      go_roundw
      case rel =>
        have hs := own_store hown hbel (Nat.le_refl _) (n - 1 - k) (byteOf v k)
        exact ⟨k + 1, V / 256, l.set (n - 1 - k) (byteOf v k), by omega, by omega, by omega, rfl, by rw [hV.out]; exact down256 v k, by go_num, by simpa using hl, set_back hl hbs hlt, hs.1, hs.2⟩
      case measure => simp [intOf]; omega
    · have hkn : k = n := by omega
      subst hkn
      have hconv := own_string hown
      go_wp2
      go_ret
      refine ⟨?_, hbel⟩
      rw [show putBigS v k = str l from by unfold putBigS putBig; rw [if_pos (by omega)]; congr 1; exact (big_of hl hbs).symm]
      rfl

theorem ref_putBig (v n : Int) (w : World) (h0 : 0 ≤ v) (h1 : v < 18446744073709551616) :
    Calls Try.prog 25 #[.int .u64 v, .int .i64 n] w fun e w' => e = .returned (.string (putBigS v n)) ∧ Below w.heap.size w w' := by
  by_cases h : 1 ≤ n ∧ n ≤ 8
  · obtain ⟨m, rfl⟩ := Int.eq_ofNat_of_zero_le (show 0 ≤ n from by omega)
    exact ref_putBig_yes v m w h0 h1 (by omega) (by omega)
  · have hno : Hid (putBigS v n = ⟨#[]⟩) := putBigS_no v n h
    rcases (show n < 1 ∨ 8 < n from by omega) with h' | h'
    all_goals
      clear h
      go_enter Try.func25, Try.ntmps25
      go_wp2
      go_ret
      exact ⟨ret_str hno.out.symm, Below.refl _ _⟩

end Go.Proofs.Ytlhlpcfjoccgcaa
