/-
  Package frame: look counts the whole frames.
-/
import Derived.Test.YtkjdklicgbjkpaaFraK0
namespace Go.Proofs.Ytkjdklicgbjkpaa
open Go.RowKit
set_option linter.unusedVariables false
set_option maxRecDepth 100000
set_option linter.unusedSimpArgs false

set_option maxRecDepth 100000 in
set_option maxHeartbeats 400000 in
theorem frame_look (w : World) (p : Nat) (l s : ByteArray) (x : Int) (hr : RowIs w p 31 (RdRow l false x)) (hs : s.size ≤ 1000000) :
    Calls Try.prog 20 #[.pointer (some ⟨p, 0, none⟩), .string s] w fun e w' => e = .returned (.tuple #[]) ∧ ∃ y : Int, RowIs w' p 31 (RdRow l (deadS s) y) ∧ wrap64 (y - x) = ((framesS s).length : Int) ∧ Touch (fun k => k = p) w w' := by
  have W0 : Hid (wrap64 (x - x) = ((0 : Nat) : Int)) := wrap_same x
  go_enter Try.func20, Try.ntmps20
  go_wp2_with fail
  go_loopw [1] (fun t wr => ∃ (t' : ByteArray) (k : Nat) (y : Int), t = .string t' ∧ Hid (deadS t' = deadS s ∧ k + (framesS t').length = (framesS s).length) ∧ Hid (wrap64 (y - x) = (k : Int)) ∧ t'.size + k ≤ 1000000 ∧ RowIs wr p 31 (RdRow l false y) ∧ Touch (fun k => k = p) w wr) (fun t _ => sLen t)
  case atStart => exact ⟨s, 0, x, rfl, ⟨rfl, Nat.zero_add _⟩, W0, hs, hr, Touch.refl _ _⟩
  case round =>
    clear hr W0
    obtain ⟨t, k, y, rfl, HF, HW, hsz, hrow, ht⟩ := hrel
    by_cases h2 : t.size < 2
    · have d1 : decide (2 ≤ (t.size : Int)) = false := decide_eq_false (by omega)
      have HE : Hid _ := frames_short t h2
      go_wp2
      go_end0
      refine ⟨rfl, y, ?_, ?_, ht⟩
      · rw [← HF.out.1, HE.out.2.2]; exact hrow
      · rw [← HF.out.2, HE.out.1]; exact HW.out
    · have d1 : decide (2 ≤ (t.size : Int)) = true := decide_eq_true (by omega)
      have PL : Hid _ := fun w => frame_length t w (by omega)
      have hh := headN_lt t (by omega)
      have EB : Hid _ := frames_bad t (by omega)
      have EP : Hid _ := frames_part t (by omega)
      have EF : Hid _ := frames_full t (by omega)
      have hq : 2 ≤ t.size := by omega
      generalize headN t = N at *
      by_cases hbad : N = 0 ∨ 2200 < N
      · have HE : Hid _ := EB.out hbad
        have PI : Hid _ := fun w => frame_isLength_no N w hbad
        have z1 := hrow.frozen 1
        have k1 : wr.cell? ⟨p, 1, none⟩ = some (.bool false) := hrow.cellAt rfl
        clear hbad EB EP EF
        go_wp2_with fail
        with_reducible refine (PL.out _).mono ?_
        rintro e w' ⟨rfl, rfl⟩
        go_wp2_with fail
        with_reducible refine (PI.out _).mono ?_
        rintro e w' ⟨rfl, rfl⟩
        go_wp2
        (try simp only [Exit.inBlock, Exit.then]); refine bodyPost_ret (results_none rfl _ _ _) rfl ?_
        refine ⟨rfl, y, ?_, ?_, ht.set (p := ⟨p, 1, none⟩) (Or.inl rfl) _⟩
        · rw [← HF.out.1, HE.out.2.2]; exact hrow.set 1 (.bool true)
        · rw [← HF.out.2, HE.out.1]; exact HW.out
      · have PI : Hid _ := fun w => frame_isLength_yes N w hbad
        by_cases hpart : t.size < 2 + N
        · have n2 : decide ((t.size : Int) - 2 < (N : Int)) = true := two_lt9 hpart hq
          have HE : Hid _ := EP.out hbad hpart
          clear hbad EB EP EF
          go_wp2_with fail
          with_reducible refine (PL.out _).mono ?_
          rintro e w' ⟨rfl, rfl⟩
          go_wp2_with fail
          with_reducible refine (PI.out _).mono ?_
          rintro e w' ⟨rfl, rfl⟩
          go_wp2
          (try simp only [Exit.inBlock, Exit.then]); refine bodyPost_ret (results_none rfl _ _ _) rfl ?_
          refine ⟨rfl, y, ?_, ?_, ht⟩
          · rw [← HF.out.1, HE.out.2.2]; exact hrow
          · rw [← HF.out.2, HE.out.1]; exact HW.out
        · have n2 : decide ((t.size : Int) - 2 < (N : Int)) = false := two_ge9 hpart
          have HE : Hid _ := EF.out hbad hpart
          have hle2 := Nat.le_of_not_lt hpart
          have S2 := fun w => slice_end9 t N w hle2
          have hsz2 : (t.extract (2 + N) t.size).size = t.size - (2 + N) := by simp
          have A4 : ∀ q : Nat, q = t.size - (2 + N) → q + (k + 1) ≤ 1000000 ∧ q < t.size := fun q hq => by omega
          have A5 := A4 _ hsz2
          have A6 : t.size ≤ 1000000 := by omega
          have HW2 : Hid _ := wrap_next x y k HW.out (by omega)
          have k2 : wr.cell? ⟨p, 2, none⟩ = some (.int .i64 y) := hrow.cellAt rfl
          have PA := i64_add ⟨p, 2, none⟩ y 1 wr k2 (hrow.frozen 2)
          clear hbad EB EP EF hsz hpart hle2 A4 hsz2 k2 HW
          generalize IntKind.i64.wrap (y + 1) = y1 at *
          generalize t.extract (2 + N) t.size = Y at *
          go_wp2_with fail
          with_reducible refine (PL.out _).mono ?_
          rintro e w' ⟨rfl, rfl⟩
          go_wp2_with fail
          with_reducible refine (PI.out _).mono ?_
          rintro e w' ⟨rfl, rfl⟩
          go_wp2_with fail
          with_reducible refine PA.mono ?_
          rintro e w3 ⟨rfl, rfl⟩
          go_wp2
          go_roundw
          case rel => exact ⟨Y, k + 1, y1, rfl, ⟨by rw [← HF.out.1, HE.out.2.2], by rw [← HF.out.2, HE.out.1, List.length_cons]; omega⟩, HW2, A5.1, hrow.set 2 _, ht.set (p := ⟨p, 2, none⟩) (Or.inl rfl) _⟩
          case measure => rw [sLen_is, sLen_is]; exact A5.2

end Go.Proofs.Ytkjdklicgbjkpaa
