/-
  The contracts of package stream's putWords and firstState.
-/
import Derived.Test.YtckcfgbcnefbhaaCha3
namespace Go.Proofs.Ytckcfgbcnefbhaa
open Go.RowKit
set_option linter.unusedVariables false
set_option maxRecDepth 100000

/-- Words laid into a list from place o on. -/
def fillTo (l : List Int) (o : Nat) (b : ByteArray) (k : Nat) : List Int := l.take o ++ wordsTo b k ++ l.drop (o + k)
theorem fillTo_len (l : List Int) (o : Nat) (b : ByteArray) (k : Nat) (h : o + k ≤ l.length) : (fillTo l o b k).length = l.length := by
  simp [fillTo, wordsTo_len]; omega
theorem fillTo_succ (l : List Int) (o : Nat) (b : ByteArray) (k : Nat) (h : o + k < l.length) : (fillTo l o b k).set (o + k) (wordAt b k) = fillTo l o b (k + 1) := by
  unfold fillTo
  rw [wordsTo_succ, List.set_append_right _ _ (by simp [wordsTo_len]; omega), List.drop_eq_getElem_cons h]
  have e : o + k - (l.take o ++ wordsTo b k).length = 0 := by simp [wordsTo_len]; omega
  rw [e]
  simp [Nat.add_assoc]
theorem cells32_set (l : List Int) (j : Nat) (v : Int) : (cells32 l).set j (.int .u32 v) = cells32 (l.set j v) := by simp [cells32, List.map_set]

theorem slice_word (b : ByteArray) (k : Nat) (h : 4 * k + 4 ≤ b.size) (x y : Int) (hx : x = 4 * (k : Int)) (hy : y = 4 * (k : Int) + 4) (w : World) :
    (Instr.slice 9 (.string b) (some (.int .i64 x)) (some (.int .i64 y)) none).run Try.prog w = .ok (.string (b.extract (4 * k) (4 * k + 4))) w := by
  subst hx hy
  rw [run_slice_string (P := Try.prog) w 9 b .i64 .i64 _ _ Try.underlying9 (by omega) (by omega) (by omega)]
  rw [show (4 * (k : Int)).toNat = 4 * k from by omega, show (4 * (k : Int) + 4).toNat = 4 * k + 4 from by omega]

set_option maxHeartbeats 1000000 in
theorem stream_putWords (g o n cap : Nat) (l : List Int) (b : ByteArray) (w : World) (hl : l.length = 16) (hon : o + n ≤ 16) (hb : b.size = 4 * n) (hr : RowIs w g 41 (cells32 l)) :
    Calls Try.prog 32 #[.slice (some ⟨g, o, none⟩) n cap, .string b] w fun e w' => e = .returned (.tuple #[]) ∧ RowIs w' g 41 (cells32 (fillTo l o b n)) ∧ Upon g w w' := by
  have r0 : RowIs w g 41 (cells32 (fillTo l o b 0)) := by
    have : fillTo l o b 0 = l := by simp [fillTo, wordsTo]
    rw [this]; exact hr
  have HL : Hid (∀ (s : ByteArray) (w : World), s.size ≤ maxLen → Calls Try.prog 39 #[.string s] w fun e w' => e = .returned (.int .u64 (littleS s)) ∧ w = w') := octet_little
  go_enter Try.func32, Try.ntmps32
  go_wp2
  go_loopw [7] (fun i wr => ∃ k : Nat, k ≤ n ∧ i = .int .i64 k ∧ RowIs wr g 41 (cells32 (fillTo l o b k)) ∧ Upon g w wr) (fun i _ => n - (intOf i).toNat)
  case atStart => exact ⟨0, Nat.zero_le _, rfl, r0, Upon.refl g w⟩
  case round =>
    clear r0 hr
    obtain ⟨k, hk, rfl, hrow, hup⟩ := hrel
    by_cases hlt : k < n
    · obtain ⟨v, hc⟩ := hrow.has (j := o + k) (by rw [cells32_len, fillTo_len l o b k (by omega)]; omega)
      have hfz := hrow.frozen (o + k)
      have hsl := slice_word b k (by omega) (4 * (k : Int)) (4 * ((k : Int) + 1)) rfl (by omega)
      have hsz : (b.extract (4 * k) (4 * k + 4)).size ≤ maxLen := by unfold maxLen; simp; omega
      have HS : Hid (RowIs (wr.setCell ⟨g, o + k, none⟩ (.int .u32 (littleS (b.extract (4 * k) (4 * k + 4)) % 4294967296))) g 41 (cells32 (fillTo l o b (k + 1)))) := by
        have := hrow.set (o + k) (.int .u32 (wordAt b k))
        rw [cells32_set, fillTo_succ l o b k (by omega)] at this
        exact this
      have hbd := littleS_bd (b.extract (4 * k) (4 * k + 4))
      have hb0 := hbd.1
      have hb1 := hbd.2
      clear hbd
      generalize b.extract (4 * k) (4 * k + 4) = t at *
      have ht := HL.out t wr hsz
      generalize littleS t = v0 at *
      go_wp2_with (go_at_call 39; refine ht.mono ?_; rintro e w' ⟨rfl, rfl⟩)
      go_roundw
      case rel => exact ⟨k + 1, by omega, by go_num, HS.out, hup.setCell _ _⟩
      case measure => simp [intOf]; omega
    · have hkn : k = n := by omega
      subst hkn
      go_wp2
      go_end0
      exact ⟨rfl, hrow, hup⟩

end Go.Proofs.Ytckcfgbcnefbhaa
