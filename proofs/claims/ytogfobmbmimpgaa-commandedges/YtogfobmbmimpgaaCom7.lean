/-
  The contracts of package command's parts: bytes taken apart from their beginning on.
-/
import Derived.Test.YtogfobmbmimpgaaCom6
import Derived.Test.YtogfobmbmimpgaaCom5
namespace Go.Proofs.Ytogfobmbmimpgaa
open Go.RowKit
set_option linter.unusedVariables false
set_option maxRecDepth 100000
set_option linter.unusedSimpArgs false

def tkV (s : ByteArray) (n : Nat) : ByteArray := if n ≤ s.size then s.extract 0 n else ⟨#[]⟩
def tkR (s : ByteArray) (n : Nat) : ByteArray := if n ≤ s.size then s.extract n s.size else s
def tkB (s : ByteArray) (b : Bool) (n : Nat) : Bool := if n ≤ s.size then b else true
def valN (s : ByteArray) (n : Nat) : Nat := (numOf (tkV s n).data.toList).toNat
def nmN (s : ByteArray) (n : Nat) : Nat := if 2000000000000 < valN s n then 0 else valN s n
def nmB (s : ByteArray) (b : Bool) (n : Nat) : Bool := if 2000000000000 < valN s n then true else tkB s b n
theorem tkV_size (s : ByteArray) (n : Nat) : (tkV s n).size ≤ n := by
  unfold tkV
  split
  · rw [ByteArray.size_extract]; omega
  · exact Nat.zero_le _
theorem tkV_le (s : ByteArray) (n : Nat) : (tkV s n).size ≤ s.size := by
  unfold tkV
  split
  · rw [ByteArray.size_extract]; omega
  · exact Nat.zero_le _
theorem tkR_le (s : ByteArray) (n : Nat) : (tkR s n).size ≤ s.size := by
  unfold tkR
  split
  · rw [ByteArray.size_extract]; omega
  · exact Nat.le_refl _
theorem nmN_le (s : ByteArray) (n : Nat) : nmN s n ≤ 2000000000000 := by
  unfold nmN
  split <;> omega
theorem bigS_small (s : ByteArray) (h : s.size ≤ 8) : bigS s = numOf s.data.toList := by
  unfold bigS
  rw [show s.size - 8 = 0 by omega, List.drop_zero]
theorem valN_is (s : ByteArray) (n : Nat) (h : n ≤ 8) : (bigS (tkV s n) : Int) = (valN s n : Int) ∧ valN s n < 18446744073709551616 := by
  have h1 := tkV_size s n
  have h2 := bigS_bd (tkV s n)
  rw [bigS_small _ (by omega)] at h2 ⊢
  unfold valN
  omega

/-- Bytes that are taken apart: what is left, and whether a part was cut short. -/
def PartsIs (w : World) (p : Nat) (s : ByteArray) (b : Bool) : Prop := RowIs w p 48 [.string s, .bool b]
theorem slice_head10 (s : ByteArray) (n : Nat) (w : World) (h : n ≤ s.size) : (Instr.slice 9 (.string s) none (some (.int .i64 (n : Int))) none).run Try.prog w = .ok (.string (s.extract 0 n)) w := by
  have h1 := run_slice_string_h (P := Try.prog) (w := w) (t := 9) (s := s) Try.underlying9 .i64 (n : Int) (by omega) (by omega)
  rw [Int.toNat_natCast] at h1
  exact h1

theorem command_take (p : Nat) (s : ByteArray) (b : Bool) (n : Nat) (w : World) (hr : PartsIs w p s b) (hs : s.size ≤ 1000000) :
    Calls Try.prog 41 #[.pointer (some ⟨p, 0, none⟩), .int .i64 (n : Int)] w fun e w' => e = .returned (.string (tkV s n)) ∧ PartsIs w' p (tkR s n) (tkB s b n) ∧ Upon p w w' := by
  have c0 : w.cell? ⟨p, 0, none⟩ = some (.string s) := RowIs.cellAt hr rfl
  have c1 : w.cell? ⟨p, 1, none⟩ = some (.bool b) := RowIs.cellAt hr rfl
  have f0 : w.frozen? ⟨p, 0, none⟩ = false := RowIs.frozen hr 0
  have f1 : w.frozen? ⟨p, 1, none⟩ = false := RowIs.frozen hr 1
  have hu := Upon.refl p w
  by_cases h : n ≤ s.size
  · unfold tkV tkR tkB
    rw [if_pos h, if_pos h, if_pos h]
    have r1 : Hid (PartsIs (w.setCell ⟨p, 0, none⟩ (.string (s.extract n s.size))) p (s.extract n s.size) b) := RowIs.set hr 0 _
    have d0 : decide ((s.size : Int) < (n : Int)) = false := decide_eq_false (by omega)
    have d1 : (0 : Int) ≤ (n : Int) := by omega
    have d2 : (n : Int) ≤ (s.size : Int) := by omega
    clear h
    go_enter Try.func41, Try.ntmps41
    go_wp2
    go_ret
    exact ⟨rfl, r1.out, hu.setCell 0 _⟩
  · unfold tkV tkR tkB
    rw [if_neg h, if_neg h, if_neg h]
    have r1 : Hid (PartsIs (w.setCell ⟨p, 1, none⟩ (.bool true)) p s true) := RowIs.set hr 1 _
    have d0 : decide ((s.size : Int) < (n : Int)) = true := decide_eq_true (by omega)
    have d1 : s.size < n := by omega
    clear h
    go_enter Try.func41, Try.ntmps41
    go_wp2
    go_ret
    exact ⟨rfl, r1.out, hu.setCell 1 _⟩

theorem PartsIs.big {w w' : World} {p : Nat} {s : ByteArray} {b : Bool} (h : PartsIs w p s b) (e : w = w') : PartsIs w' p s b := e ▸ h
theorem command_partsNumber (p : Nat) (s : ByteArray) (b : Bool) (n : Nat) (w : World) (hr : PartsIs w p s b) (hs : s.size ≤ 1000000) (hn : n ≤ 8) :
    Calls Try.prog 25 #[.pointer (some ⟨p, 0, none⟩), .int .i64 (n : Int)] w fun e w' => e = .returned (.int .i64 (nmN s n : Int)) ∧ PartsIs w' p (tkR s n) (nmB s b n) ∧ Upon p w w' := by
  have PT := command_take p s b n w hr hs
  have hv := valN_is s n hn
  have hB := fun w => octet_big (tkV s n) w (by have := tkV_size s n; unfold maxLen; omega)
  rw [hv.1] at hB
  have PB : Hid _ := hB
  replace hv := hv.2
  clear hB
  unfold nmN nmB
  generalize tkV s n = V at *
  generalize valN s n = N at *
  generalize tkB s b n = B at *
  generalize tkR s n = R at *
  by_cases h : 2000000000000 < N
  · rw [if_pos h, if_pos h]
    have d0 : decide ((2000000000000 : Int) < (N : Int)) = true := decide_eq_true (by omega)
    go_enter Try.func25, Try.ntmps25
    go_wp2_with fail
    with_reducible refine PT.mono ?_
    rintro e w1 ⟨rfl, r1, u1⟩
    have c1 : w1.cell? ⟨p, 1, none⟩ = some (.bool B) := RowIs.cellAt r1 rfl
    have f1 : w1.frozen? ⟨p, 1, none⟩ = false := RowIs.frozen r1 1
    have r2 : Hid (PartsIs (w1.setCell ⟨p, 1, none⟩ (.bool true)) p R true) := RowIs.set r1 1 _
    clear r1 hr
    go_wp2_with fail
    with_reducible refine (PB.out _).mono ?_
    rintro e w2 ⟨rfl, rfl⟩
    go_wp2
    go_ret
    exact ⟨rfl, r2.out, u1.setCell 1 _⟩
  · rw [if_neg h, if_neg h]
    have d0 : decide ((2000000000000 : Int) < (N : Int)) = false := decide_eq_false (by omega)
    go_enter Try.func25, Try.ntmps25
    go_wp2_with fail
    with_reducible refine PT.mono ?_
    rintro e w1 ⟨rfl, r1, u1⟩
    have r2 : Hid _ := r1
    clear r1 hr
    go_wp2_with fail
    with_reducible refine (PB.out _).mono ?_
    rintro e w2 ⟨rfl, rfl⟩
    go_wp2
    go_ret
    exact ⟨rfl, r2.out, u1⟩

theorem command_partsNumbers (p : Nat) (s : ByteArray) (b : Bool) (w : World) (hr : PartsIs w p s b) (hs : s.size ≤ 1000000) :
    Calls Try.prog 26 #[.pointer (some ⟨p, 0, none⟩)] w fun e w' => e = .returned (.tuple #[.int .i64 ((nmN s 8 : Int) - 1000000000000), .int .i64 (nmN (tkR s 8) 8 : Int)]) ∧ PartsIs w' p (tkR (tkR s 8) 8) (nmB (tkR s 8) (nmB s b 8) 8) ∧ Upon p w w' := by
  have P1 := command_partsNumber p s b 8 w hr hs (by decide)
  have P2' := fun (w : World) (h : PartsIs w p (tkR s 8) (nmB s b 8)) => command_partsNumber p (tkR s 8) (nmB s b 8) 8 w h (by have := tkR_le s 8; omega) (by decide)
  rw [show ((8 : Nat) : Int) = 8 from rfl] at P1 P2'
  have P2 : Hid _ := P2'
  clear P2'
  have n1 := nmN_le s 8
  have n2 := nmN_le (tkR s 8) 8
  generalize nmN s 8 = N1 at *
  generalize nmN (tkR s 8) 8 = N2 at *
  generalize nmB (tkR s 8) (nmB s b 8) 8 = B2 at *
  generalize nmB s b 8 = B1 at *
  generalize tkR (tkR s 8) 8 = R2 at *
  generalize tkR s 8 = R1 at *
  clear hr
  go_enter Try.func26, Try.ntmps26
  go_wp2_with fail
  with_reducible refine P1.mono ?_
  rintro e w1 ⟨rfl, r1, u1⟩
  go_wp2_with fail
  with_reducible refine (P2.out _ r1).mono ?_
  rintro e w2 ⟨rfl, r2, u2⟩
  clear r1
  have r3 : Hid _ := r2
  clear r2
  go_wp2
  go_ret2
  exact ⟨rfl, r3.out, u1.trans u2⟩

theorem command_partsText (p : Nat) (s : ByteArray) (b : Bool) (n : Nat) (w : World) (hr : PartsIs w p s b) (hs : s.size ≤ 1000000) (hn : n ≤ 8) :
    Calls Try.prog 27 #[.pointer (some ⟨p, 0, none⟩), .int .i64 (n : Int)] w fun e w' => e = .returned (.string (tkV (tkR s n) (nmN s n))) ∧ PartsIs w' p (tkR (tkR s n) (nmN s n)) (tkB (tkR s n) (nmB s b n) (nmN s n)) ∧ Upon p w w' := by
  have P1 := command_partsNumber p s b n w hr hs hn
  have h1 := tkR_le s n
  have P2 : Hid (∀ w, PartsIs w p (tkR s n) (nmB s b n) → _) := fun w h => command_take p (tkR s n) (nmB s b n) (nmN s n) w h (by omega)
  have h2 := tkV_le (tkR s n) (nmN s n)
  have P3 : Hid _ := fun w => strings_clone10 (tkV (tkR s n) (nmN s n)) w (by omega)
  generalize tkB (tkR s n) (nmB s b n) (nmN s n) = B2 at *
  generalize tkR (tkR s n) (nmN s n) = R2 at *
  generalize tkV (tkR s n) (nmN s n) = V at *
  generalize nmN s n = N1 at *
  generalize nmB s b n = B1 at *
  generalize tkR s n = R1 at *
  clear hr
  go_enter Try.func27, Try.ntmps27
  go_wp2_with fail
  with_reducible refine P1.mono ?_
  rintro e w1 ⟨rfl, r1, u1⟩
  go_wp2_with fail
  with_reducible refine (P2.out _ r1).mono ?_
  rintro e w2 ⟨rfl, r2, u2⟩
  clear r1
  go_wp2_with fail
  with_reducible refine (P3.out _).mono ?_
  rintro e w3 ⟨rfl, b3⟩
  have r3 : Hid (PartsIs w3 p R2 B2) := RowIs.below r2 b3 r2.lt
  clear r2
  go_wp2
  go_ret
  exact ⟨rfl, r3.out, (u1.trans u2).trans (Upon.of_below b3)⟩

end Go.Proofs.Ytogfobmbmimpgaa
