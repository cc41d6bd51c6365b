/-
  The laws' own helper 'Fill' of chapter 5: a text of just n bytes.
-/
import Derived.Test.YtjemklgfenciaaaOct2
namespace Go.Proofs.Ytjemklgfenciaaa
open Go.RowKit
set_option linter.unusedVariables false
set_option maxRecDepth 100000

/-- A text of just n bytes: its first ones, zeros behind. -/
def fill5L (l : List UInt8) (n : Nat) : List UInt8 := (l ++ List.replicate (n - l.length) 0).take n
def fillS (s : ByteArray) (n : Nat) : ByteArray := str (fill5L s.data.toList n)
theorem fillS_size (s : ByteArray) (n : Nat) : (fillS s n).size = n := by
  rw [fillS, str_size]; unfold fill5L; simp; omega
theorem fillS_of (t s : ByteArray) (n k : Nat) (ht : t.data.toList = s.data.toList ++ List.replicate k 0) (h : n ≤ t.size) (hk : k = 0 ∨ t.size ≤ n) : t.extract 0 n = fillS s n := by
  unfold fillS str fill5L
  apply ByteArray.ext
  rw [ByteArray.data_extract]
  apply Array.toList_inj.1
  rw [Array.toList_extract]
  have hl : t.size = s.size + k := by
    have := congrArg List.length ht
    simpa using this
  rcases hk with rfl | hk
  · simp only [List.replicate_zero, List.append_nil] at ht
    rw [ht]
    have : n - s.data.toList.length = 0 := by simp; omega
    rw [this]
    simp
  · rw [ht]
    have : n - s.data.toList.length = k := by simp; omega
    rw [this]
    simp
theorem zero_snoc (a : ByteArray) : (a ++ ⟨#[0]⟩).data.toList = a.data.toList ++ [0] := by simp

set_option maxHeartbeats 1000000 in
theorem law5_fill (s : ByteArray) (n : Nat) (w : World) (hs : s.size ≤ 9223372036854775807) (hn : n ≤ 1000000) :
    Calls Try.prog 9 #[.string s, .int .i64 n] w fun e w' => e = .returned (.string (fillS s n)) ∧ w = w' := by
  go_enter Try.func9, Try.ntmps9
  go_wp2_with fail
  go_loopw [0] (fun v wr => ∃ (k : Nat) (t : ByteArray), v = .string t ∧ t.data.toList = s.data.toList ++ List.replicate k 0 ∧ (k = 0 ∨ t.size ≤ n) ∧ wr = w) (fun v _ => match v with | .string t => n - t.size | _ => 0)
  case atStart => exact ⟨0, s, rfl, by simp, Or.inl rfl, rfl⟩
  case round =>
    obtain ⟨k, t, rfl, ht, hk, rfl⟩ := hrel
    by_cases hlt : t.size < n
    · have hcmp : (t.size : Int) < (n : Int) := by omega
      have hln : ¬ (9223372036854775807 < t.size + 1) := by omega
      have h2 : (t ++ ⟨#[0]⟩).data.toList = s.data.toList ++ List.replicate (k + 1) 0 := by
        rw [zero_snoc, ht, List.append_assoc]
        congr 1
        exact (List.replicate_succ' (n := k) (a := (0 : UInt8))).symm
      have h3 : (t ++ ⟨#[0]⟩).size = t.size + 1 := by simp; rfl
      clear ht hk
      generalize hT : t ++ ⟨#[0]⟩ = T at *
      go_wp2
      go_roundw
      case rel => exact ⟨k + 1, T, rfl, h2, Or.inr (by omega), by first | rfl | trivial⟩
      case measure => simp [h3]; omega
    · have hcmp : ¬ (t.size : Int) < (n : Int) := by omega
      have hle : (n : Int) ≤ (t.size : Int) := by omega
      have HF : Hid (t.extract 0 n = fillS s n) := fillS_of t s n k ht (by omega) hk
      have hx : (t.extract 0 n) = t.extract 0 n := rfl
      go_wp2
      go_ret
      exact ⟨by simp [HF.out], rfl⟩

theorem law5_fill32 (s : ByteArray) (w : World) (hs : s.size ≤ 9223372036854775807) :
    Calls Try.prog 9 #[.string s, .int .i64 32] w fun e w' => e = .returned (.string (fillS s 32)) ∧ w = w' := law5_fill s 32 w hs (by decide)
theorem law5_fill12 (s : ByteArray) (w : World) (hs : s.size ≤ 9223372036854775807) :
    Calls Try.prog 9 #[.string s, .int .i64 12] w fun e w' => e = .returned (.string (fillS s 12)) ∧ w = w' := law5_fill s 12 w hs (by decide)

theorem law5_fill16 (s : ByteArray) (w : World) (hs : s.size ≤ 9223372036854775807) :
    Calls Try.prog 9 #[.string s, .int .i64 16] w fun e w' => e = .returned (.string (fillS s 16)) ∧ w = w' := law5_fill s 16 w hs (by decide)

end Go.Proofs.Ytjemklgfenciaaa
