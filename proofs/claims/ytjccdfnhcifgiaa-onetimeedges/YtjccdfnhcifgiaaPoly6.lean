/-
  The contract of package onetime's numberOf.
-/
import Derived.Test.YtjccdfnhcifgiaaPoly5
namespace Go.Proofs.Ytjccdfnhcifgiaa
open Go.RowKit
set_option linter.unusedVariables false
set_option maxRecDepth 100000

/-- One limb of a text's number. -/
def limbN (b : ByteArray) (k : Nat) : Int := littleS (b.extract (min (3 * k) b.size) b.size) / 2 ^ (2 * k) % 67108864
def nuL (b : ByteArray) : Nat → List Int
  | 0 => z5
  | k + 1 => (nuL b k).set k (limbN b k)
theorem nuL_len (b : ByteArray) : ∀ k, (nuL b k).length = 5
  | 0 => rfl
  | k + 1 => by rw [nuL, List.length_set, nuL_len b k]
theorem shr_le (v : Int) (k : Nat) (h : 0 ≤ v) : 0 ≤ v / 2 ^ k ∧ v / 2 ^ k ≤ v := by
  have hp : (0 : Int) < 2 ^ k := Int.pow_pos (by decide)
  exact ⟨Int.ediv_nonneg h (Int.le_of_lt hp), Int.ediv_le_self _ h⟩

set_option maxRecDepth 100000 in
set_option maxHeartbeats 1000000 in
theorem onetime_numberOf (b : ByteArray) (w : World) (hs : b.size ≤ 100) :
    Calls Try.prog 18 #[.string b] w fun e w' => e = .returned (.agg (cells64 (nuL b 5)).toArray) ∧ Below w.heap.size w w' := by
  obtain ⟨w2, hw2⟩ : ∃ w2, w2 = (w.alloc (.cells (cells64 z5).toArray 37)).alloc (.cells (cells64 z5).toArray 37) := ⟨_, rfl⟩
  have r1 : RowIs w2 w.heap.size 37 (cells64 z5) := hw2 ▸ (RowIs.new w _ _).alloc _
  have r2 : RowIs w2 (w.heap.size + 1) 37 (cells64 (nuL b 0)) := by
    have := RowIs.new (w.alloc (.cells (cells64 z5).toArray 37)) 37 (cells64 z5)
    rw [← hw2] at this
    simp at this
    exact this
  have b1 : Below w.heap.size w w2 := hw2 ▸ ((Below.refl _ _).alloc (Nat.le_refl _) _).alloc (by simp) _
  have HW2 : Hid ((w.alloc (.cells (cells64 z5).toArray 37)).alloc (.cells (cells64 z5).toArray 37) = w2) := hw2.symm
  clear hw2
  have hs1 : (w.alloc (.cells (cells64 z5).toArray 37)).heap.size = w.heap.size + 1 := by simp
  have HL : Hid (∀ (s : ByteArray) (w : World), s.size ≤ maxLen → Calls Try.prog 27 #[.string s] w fun e w' => e = .returned (.int .u64 (littleS s)) ∧ w = w') := octet_little
  go_enter Try.func18, Try.ntmps18
  go_wp2_with (first | (refine wpList_allocN rfl rfl run_alloc5 w.heap.size rfl ?_) | (refine wpList_allocN rfl rfl run_alloc5 (w.heap.size + 1) hs1 ?_; rw [HW2.out]))
  clear HW2 hs1
  go_loopw [6] (fun i wr => ∃ k : Nat, k ≤ 5 ∧ i = .int .i64 k ∧ RowIs wr w.heap.size 37 (cells64 z5) ∧ RowIs wr (w.heap.size + 1) 37 (cells64 (nuL b k)) ∧ Below w.heap.size w wr) (fun i _ => 5 - (intOf i).toNat)
  case atStart => exact ⟨0, by omega, rfl, r1, r2, b1⟩
  case round =>
    clear r1 r2 b1
    obtain ⟨k, hk, rfl, q1, q2, hbel⟩ := hrel
    by_cases hlt : k < 5
    · obtain ⟨v, hc⟩ : ∃ v, wr.cell? ⟨w.heap.size + 1, k, none⟩ = some v := ⟨_, q2.cellAt (List.getElem?_eq_getElem (by rw [cells64_len, nuL_len]; exact hlt))⟩
      have hz := q2.frozen k
      have HN : Hid (RowIs (wr.setCell ⟨w.heap.size + 1, k, none⟩ (.int .u64 (littleS (b.extract (min (3 * k) b.size) b.size) / 2 ^ (2 * k) % 67108864))) (w.heap.size + 1) 37 (cells64 (nuL b (k + 1)))) := by
        have := q2.set k (.int .u64 (limbN b k))
        rw [cells64_set] at this
        exact this
      have ht : (2 * (k : Int)).toNat = 2 * k := by omega
      have h64 : ¬ (64 ≤ 2 * k) := by omega
      have ht2 : 2 * (k : Int) < 64 := by omega
      have ht0 : 0 ≤ 2 * (k : Int) := by omega
      have Q1 : Hid _ := q1
      clear q1 q2
      by_cases h3 : b.size < 3 * k
      · rw [show min (3 * k) b.size = b.size from by omega, show b.extract b.size b.size = ByteArray.empty from by simp] at HN
        have hd3 : (b.size : Int) < 3 * (k : Int) := by omega
        have hbd := littleS_bd ByteArray.empty
        have hsh := shr_le (littleS ByteArray.empty) (2 * k) hbd.1
        have ha := and26 (littleS ByteArray.empty / 2 ^ (2 * k)) hsh.1 (by omega)
        have hb0 := hbd.1
        have hb1 := hbd.2
        have hlit := HL.out ByteArray.empty wr (by decide)
        clear hsh hbd
        generalize littleS ByteArray.empty = L at *
        go_wp2_with (first | (go_at_call 27; refine hlit.mono ?_; rintro e w' ⟨rfl, rfl⟩))
        go_roundw
        case rel => exact ⟨k + 1, by omega, by go_num, RowIs.setOther Q1.out (by simp) _, HN.out, hbel.setCell (by simp) _⟩
        case measure => simp [intOf]; omega
      · rw [show min (3 * k) b.size = 3 * k from by omega] at HN
        have hd3 : ¬ ((b.size : Int) < 3 * (k : Int)) := by omega
        have ht3 : (3 * (k : Int)).toNat = 3 * k := by omega
        have hsz : (b.extract (3 * k) b.size).size ≤ maxLen := by unfold maxLen; simp; omega
        have hbd := littleS_bd (b.extract (3 * k) b.size)
        have hsh := shr_le (littleS (b.extract (3 * k) b.size)) (2 * k) hbd.1
        have ha := and26 (littleS (b.extract (3 * k) b.size) / 2 ^ (2 * k)) hsh.1 (by omega)
        have hb0 := hbd.1
        have hb1 := hbd.2
        have hlit := HL.out (b.extract (3 * k) b.size) wr hsz
        clear hsh hbd hsz
        generalize littleS (b.extract (3 * k) b.size) = L at *
        go_wp2_with (first | (go_at_call 27; refine hlit.mono ?_; rintro e w' ⟨rfl, rfl⟩))
        go_roundw
        case rel => exact ⟨k + 1, by omega, by go_num, RowIs.setOther Q1.out (by simp) _, HN.out, hbel.setCell (by simp) _⟩
        case measure => simp [intOf]; omega
    · obtain rfl : k = 5 := by omega
      have hlen : (cells64 (nuL b 5)).length = 5 := by rw [cells64_len, nuL_len]
      have hone := all_oneCell_toArray (cells64_one (nuL b 5))
      obtain ⟨cs, hcs⟩ : ∃ cs, cs = cells64 (nuL b 5) := ⟨_, rfl⟩
      rw [← hcs] at q2 hlen hone
      have HE : Hid (cs = cells64 (nuL b 5)) := hcs
      clear hcs
      have hz5 : (cells64 z5).length = 5 := rfl
      go_wp2_with (first | (refine wpList_load_mid rfl 37 _ rfl (w.heap.size + 1) 0 rfl cs _ q2.all Try.underlying37 rfl (by rw [size5, hlen]) ?_) | (refine wpList_store_mid rfl 37 _ _ rfl w.heap.size 0 cs.toArray rfl rfl (q1.there (by simp [hlen, hz5])) (by rw [size5]; simp [hlen]) hone ?_))
      refine bodyPost_ret (v := .agg cs.toArray) (results_row rfl _ _ w.heap.size cs _ (by simp [Act.put]) ?_ Try.underlying37 rfl (by rw [size5, hlen])) rfl ⟨by rw [HE.out], bel_setCells hbel (by omega) _ _⟩
      exact World.rangeAt_setCells_same _ _ _ _ (q1.there (by simp [hlen, hz5]))

end Go.Proofs.Ytjccdfnhcifgiaa
