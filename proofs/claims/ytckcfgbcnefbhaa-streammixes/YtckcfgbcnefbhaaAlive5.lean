/-
  The laws' own helpers of chapter 5: 'Fill', and the first call 'alive', which answers true.
-/
import Derived.Test.YtckcfgbcnefbhaaCha8
import Derived.Test.YtckcfgbcnefbhaaStrEq
namespace Go.Proofs.Ytckcfgbcnefbhaa
open Go.RowKit
set_option linter.unusedVariables false
set_option maxRecDepth 100000

/-- A text of just n bytes: its first ones, zeros behind. -/
def fillL (l : List UInt8) (n : Nat) : List UInt8 := (l ++ List.replicate (n - l.length) 0).take n
def fillS (s : ByteArray) (n : Nat) : ByteArray := str (fillL s.data.toList n)
theorem fillS_size (s : ByteArray) (n : Nat) : (fillS s n).size = n := by
  rw [fillS, str_size]; unfold fillL; simp; omega
theorem fillS_of (t s : ByteArray) (n k : Nat) (ht : t.data.toList = s.data.toList ++ List.replicate k 0) (h : n ≤ t.size) (hk : k = 0 ∨ t.size ≤ n) : t.extract 0 n = fillS s n := by
  unfold fillS str fillL
  apply ByteArray.ext
  rw [ByteArray.data_extract]
  apply Array.toList_inj.1
  rw [Array.toList_extract]
  have hl : t.size = s.size + k := by
    have := congrArg List.length ht
    simpa using this
  rcases hk with rfl | hk
  · simp only [List.replicate_zero, List.append_nil] at ht
    rw [ht]
    have : n - s.data.toList.length = 0 := by simp; omega
    rw [this]
    simp
  · rw [ht]
    have : n - s.data.toList.length = k := by simp; omega
    rw [this]
    simp
theorem zero_snoc (a : ByteArray) : (a ++ ⟨#[0]⟩).data.toList = a.data.toList ++ [0] := by simp

set_option maxHeartbeats 1000000 in
theorem law5_fill (s : ByteArray) (n : Nat) (w : World) (hs : s.size ≤ 9223372036854775807) (hn : n ≤ 1000) :
    Calls Try.prog 9 #[.string s, .int .i64 n] w fun e w' => e = .returned (.string (fillS s n)) ∧ w = w' := by
  go_enter Try.func9, Try.ntmps9
  go_wp2_with fail
  go_loopw [0] (fun v wr => ∃ (k : Nat) (t : ByteArray), v = .string t ∧ t.data.toList = s.data.toList ++ List.replicate k 0 ∧ (k = 0 ∨ t.size ≤ n) ∧ wr = w) (fun v _ => match v with | .string t => n - t.size | _ => 0)
  case atStart => exact ⟨0, s, rfl, by simp, Or.inl rfl, rfl⟩
  case round =>
    obtain ⟨k, t, rfl, ht, hk, rfl⟩ := hrel
    by_cases hlt : t.size < n
    · have hcmp : (t.size : Int) < (n : Int) := by omega
      have hln : ¬ (9223372036854775807 < t.size + 1) := by omega
      have h2 : (t ++ ⟨#[0]⟩).data.toList = s.data.toList ++ List.replicate (k + 1) 0 := by
        rw [zero_snoc, ht, List.append_assoc]
        congr 1
        exact (List.replicate_succ' (n := k) (a := (0 : UInt8))).symm
      have h3 : (t ++ ⟨#[0]⟩).size = t.size + 1 := by simp; rfl
      clear ht hk
      generalize hT : t ++ ⟨#[0]⟩ = T at *
      go_wp2
      go_roundw
      case rel => exact ⟨k + 1, T, rfl, h2, Or.inr (by omega), by first | rfl | trivial⟩
      case measure => simp [h3]; omega
    · have hcmp : ¬ (t.size : Int) < (n : Int) := by omega
      have hle : (n : Int) ≤ (t.size : Int) := by omega
      have HF : Hid (t.extract 0 n = fillS s n) := fillS_of t s n k ht (by omega) hk
      have hx : (t.extract 0 n) = t.extract 0 n := rfl
      go_wp2
      go_ret
      exact ⟨by simp [HF.out], rfl⟩

theorem law5_fill32 (s : ByteArray) (w : World) (hs : s.size ≤ 9223372036854775807) :
    Calls Try.prog 9 #[.string s, .int .i64 32] w fun e w' => e = .returned (.string (fillS s 32)) ∧ w = w' := law5_fill s 32 w hs (by decide)
theorem law5_fill12 (s : ByteArray) (w : World) (hs : s.size ≤ 9223372036854775807) :
    Calls Try.prog 9 #[.string s, .int .i64 12] w fun e w' => e = .returned (.string (fillS s 12)) ∧ w = w' := law5_fill s 12 w hs (by decide)

set_option maxRecDepth 100000 in
theorem quarter_told : qA 286331153 16909060 2609737539 19088743 = 3928658676 ∧ qB 286331153 16909060 2609737539 19088743 = 3407673550 ∧ qC 286331153 16909060 2609737539 19088743 = 1166100270 ∧ qD 286331153 16909060 2609737539 19088743 = 1484899515 := by decide +kernel
set_option maxRecDepth 100000 in
theorem block_told : (blockS (fillS ⟨#[]⟩ 32) 0 (fillS ⟨#[]⟩ 12)).extract 0 4 = ⟨#[118, 184, 224, 173]⟩ := by decide +kernel

set_option maxHeartbeats 1000000 in
theorem alive5_any (w : World) :
    Calls Try.prog 8 #[] w fun e w' => e = .returned (.bool true) ∧ Below w.heap.size w w' := by
  have pq := fun w => stream_quarter 286331153 16909060 2609737539 19088743 w ⟨by decide, by decide⟩ ⟨by decide, by decide⟩ ⟨by decide, by decide⟩ ⟨by decide, by decide⟩
  rw [quarter_told.1, quarter_told.2.1, quarter_told.2.2.1, quarter_told.2.2.2] at pq
  have f1 := fun w => law5_fill32 ⟨#[]⟩ w (by decide)
  have f2 := fun w => law5_fill12 ⟨#[]⟩ w (by decide)
  have pb := fun w => stream_block_yes (fillS ⟨#[]⟩ 32) 0 (fillS ⟨#[]⟩ 12) w (fillS_size _ _) (fillS_size _ _) ⟨by decide, by decide⟩
  have hx := block_told
  have hs := blockS_size (fillS ⟨#[]⟩ 32) 0 (fillS ⟨#[]⟩ 12)
  generalize blockS (fillS ⟨#[]⟩ 32) 0 (fillS ⟨#[]⟩ 12) = B at *
  generalize fillS ⟨#[]⟩ 32 = k at *
  generalize fillS ⟨#[]⟩ 12 = n at *
  have PQ : Hid _ := pq
  have F1 : Hid _ := f1
  have F2 : Hid _ := f2
  have PB : Hid _ := pb
  clear pq f1 f2 pb
  go_enter Try.func8, Try.ntmps8
  go_wp2_with fail
  with_reducible refine (PQ.out _).mono ?_
  rintro e w1 ⟨rfl, rfl⟩
  go_wp2_with fail
  with_reducible refine (F1.out _).mono ?_
  rintro e w2 ⟨rfl, rfl⟩
  go_wp2_with fail
  with_reducible refine (F2.out _).mono ?_
  rintro e w3 ⟨rfl, rfl⟩
  go_wp2_with fail
  with_reducible refine (PB.out _).mono ?_
  rintro e w4 ⟨rfl, b4⟩
  go_wp2
  go_ret
  exact ⟨by simp, b4⟩

end Go.Proofs.Ytckcfgbcnefbhaa
