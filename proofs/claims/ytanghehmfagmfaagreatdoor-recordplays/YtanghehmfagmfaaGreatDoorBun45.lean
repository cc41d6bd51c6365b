/-
  Parts of this proof, one behind the other: Rat2, RatK.
-/
import Derived.Test.YtanghehmfagmfaaGreatDoorBun21
import Derived.Test.YtanghehmfagmfaaGreatDoorBun4
import Derived.BigFrame
import Derived.Laws.StructEq
import Derived.Test.YtanghehmfagmfaaGreatDoorBun6
import Derived.Laws.LoneSync
import Derived.Deep.MidRow
import Derived.RegionTactic

/-
  What package ratchet's functions tell, and the laws' alive over it.
-/
namespace Go.Proofs.YtanghehmfagmfaaGreatDoor
open Go.RowKit
set_option linter.unusedVariables false
set_option maxRecDepth 100000
set_option linter.unusedSimpArgs false

theorem bel12 {w w1 w2 : World} (h1 : Below w.heap.size w w1) (h2 : Below w1.heap.size w1 w2) : Below w.heap.size w w2 := h1.trans (h2.mono h1.size)
end Go.Proofs.YtanghehmfagmfaaGreatDoor

/-
  The contracts of package ratchet.
-/
namespace Go.Proofs.YtanghehmfagmfaaGreatDoor
open Go.RowKit
set_option linter.unusedVariables false
set_option maxRecDepth 100000
set_option linter.unusedSimpArgs false

/-- An atomic.Int64, one goroutine. -/
theorem i64_loadR (a : Addr) (x : Int) (w : World) (hc : w.cell? a = some (.int .i64 x)) :
    Calls Tryz.prog 42 #[.pointer (some a)] w fun e w' => e = .returned (.int .i64 x) ∧ w = w' := by
  have hl := run_call_load (P := Tryz.prog) Tryz.func103 (by kernel_rfl) (by kernel_rfl) (by kernel_rfl) .i64 (by kernel_rfl) hc
  go_enter Tryz.func42, Tryz.ntmps42
  go_wp2
  go_ret
  exact ⟨rfl, rfl⟩
theorem i64_addR (a : Addr) (x y : Int) (w : World) (hc : w.cell? a = some (.int .i64 x)) (hz : w.frozen? a = false) (h0 : -9223372036854775808 ≤ x + y) (h1 : x + y ≤ 9223372036854775807) :
    Calls Tryz.prog 86 #[.pointer (some a), .int .i64 y] w fun e w' => e = .returned (.int .i64 (x + y)) ∧ w' = w.setCell a (.int .i64 (x + y)) := by
  have hadd : (Op.intArith .add .i64 x y).run Tryz.prog w = .ok (.int .i64 (x + y)) w := by
    have e : IntKind.i64.wrap (x + y) = x + y := by rw [IntKind.wrap_i64]; omega
    go_simp
  have hl := run_call_add (P := Tryz.prog) Tryz.func132 (by kernel_rfl) (by kernel_rfl) (by kernel_rfl) .i64 (by kernel_rfl) hc hz hadd
  go_enter Tryz.func86, Tryz.ntmps86
  go_wp2
  go_ret
  exact ⟨rfl, rfl⟩

theorem strings_cloneR (s : ByteArray) (w : World) (hs : s.size ≤ 1000000) : Calls Tryz.prog 30 #[.string s] w fun e w' => e = .returned (.string s) ∧ Below w.heap.size w w' := by
  go_enter Tryz.func30, Tryz.ntmps30
  go_wp2_with fail
  refine (Tryz.stringslite_Clone s _ (by omega)).mono ?_
  rintro e w' ⟨rfl, b⟩
  go_wp2
  go_ret
  exact ⟨rfl, b⟩

theorem ratK_next (k : ByteArray) (w : World) (hk : k.size ≤ 1000000) : Calls Tryz.prog 142 #[.string k] w fun e w' => e = .returned (.string (nextR k)) ∧ Below w.heap.size w w' := by
  have P : Hid _ := fun w => derive_expand k ratchetW 32 w (by omega) (by decide) (by decide)
  have HK : Hid (nextR k = expS k ratchetW 32) := rfl
  rw [HK.out]
  clear HK
  generalize expS k ratchetW 32 = out at *
  go_enter Tryz.func142, Tryz.ntmps142
  go_wp2_with fail
  refine (P.out _).mono ?_
  rintro e w' ⟨rfl, b⟩
  go_wp2
  go_ret
  exact ⟨rfl, b⟩

set_option maxHeartbeats 1000000 in
theorem ratK_at (k : ByteArray) (n : Nat) (w : World) (hk : k.size ≤ 1000000) (hn : n ≤ 100) : Calls Tryz.prog 94 #[.string k, .int .i64 (n : Int)] w fun e w' => e = .returned (.tuple #[.string (turnR k n), .bool true]) ∧ Below w.heap.size w w' := by
  have PC : Hid _ := fun w => strings_cloneR k w hk
  go_enter Tryz.func94, Tryz.ntmps94
  go_wp2_with fail
  with_reducible refine (PC.out _).mono ?_
  rintro e w1 ⟨rfl, b1⟩
  clear PC
  go_wp2
  go_loopw [0] (fun s wr => ∃ j : Nat, j ≤ n ∧ s = .string (turnR k j) ∧ RowIs wr w1.heap.size 89 [.int .i64 (j : Int)] ∧ Below w.heap.size w wr) (fun _ wr => n - (intOf ((wr.cell? ⟨w1.heap.size, 0, none⟩).getD (.int .i64 0))).toNat)
  case atStart => exact ⟨0, Nat.zero_le _, rfl, RowIs.new w1 _ _, b1.alloc b1.size _⟩
  case round =>
    obtain ⟨j, hj, rfl, hrow, hb⟩ := hrel
    have hw1 := b1.size
    clear b1
    have hcell := hrow.cell 0
    have PL := i64_loadR _ _ _ hcell
    by_cases hlt : j < n
    · have PN : Hid _ := fun w => ratK_next (turnR k j) w (turnR_le k j 1000000 hk (by decide))
      rw [show nextR (turnR k j) = turnR k (j + 1) from rfl] at PN
      generalize turnR k j = K1 at *
      generalize hK2 : turnR k (j + 1) = K2 at *
      have HK2 : Hid (turnR k (j + 1) = K2) := hK2
      clear hK2
      go_wp2_with fail
      with_reducible refine PL.mono ?_
      rintro e w' ⟨rfl, rfl⟩
      clear PL
      go_wp2_with fail
      with_reducible refine (PN.out _).mono ?_
      rintro e w2 ⟨rfl, b2⟩
      have hcell' := hcell
      clear PN hcell
      have hrow2 := hrow.below b2 hrow.lt
      have hb2 := hb.trans (b2.mono hb.size)
      have PA := i64_addR ⟨w1.heap.size, 0, none⟩ (j : Int) 1 w2 (hrow2.cell 0) (hrow2.frozen 0) (by omega) (by omega)
      clear hrow b2 hb
      go_wp2_with fail
      with_reducible refine PA.mono ?_
      rintro e w' ⟨rfl, rfl⟩
      clear PA
      go_wp2
      go_roundw
      case rel => exact ⟨j + 1, by omega, by rw [HK2.out], by rw [Int.natCast_add]; exact hrow2.set 0 _, hb2.setCell hw1 _⟩
      case measure =>
        have c2 := (hrow2.set 0 (.int .i64 ((j : Int) + 1))).cell 0
        rw [hcell', c2]
        simp [intOf]
        omega
    · have hjn : j = n := by omega
      subst hjn
      go_wp2_with fail
      with_reducible refine PL.mono ?_
      rintro e w' ⟨rfl, rfl⟩
      clear PL
      go_wp2
      go_ret2
      exact ⟨rfl, hb⟩

theorem ratK_epoch (s : Int) (w : World) (h0 : -9223372036854775808 ≤ s) (h1 : s ≤ 9223372036854775807) : Calls Tryz.prog 91 #[.int .i64 s] w fun e w' => e = .returned (.int .i64 (epochR s)) ∧ Below w.heap.size w w' := by
  by_cases h : s < 0
  · rw [epochR_no h]
    have hm : max s 0 = 0 := by omega
    go_enter Tryz.func91, Tryz.ntmps91
    go_wp2
    go_ret
    exact ⟨rfl, Below.refl _ _⟩
  · have h2 : 0 ≤ s := by omega
    rw [epochR_yes h2]
    have hm : max s 0 = s := by omega
    clear h
    go_enter Tryz.func91, Tryz.ntmps91
    go_wp2
    go_ret
    exact ⟨rfl, Below.refl _ _⟩

set_option maxHeartbeats 1000000 in
theorem ratK_nonce (s : Int) (w : World) (h0 : -9223372036854775808 ≤ s) (h1 : s ≤ 9223372036854775807) : Calls Tryz.prog 37 #[.int .i64 s] w fun e w' => e = .returned (.string (nonceR s)) ∧ Below w.heap.size w w' := by
  by_cases h : s < 0
  · rw [nonceR_no h]
    have hd : decide (s < 0) = true := by simpa using h
    go_enter Tryz.func37, Tryz.ntmps37
    go_wp2
    go_ret
    exact ⟨rfl, Below.refl _ _⟩
  · have h2 : 0 ≤ s := by omega
    rw [nonceR_yes h2]
    have hd : decide (s < 0) = false := by simpa using h
    have PR : Hid _ := fun w1 => (show Calls Tryz.prog 85 #[.string ⟨#[0]⟩, .int .i64 4] w1 fun e w' => e = .returned (.string (str (List.replicate 4 0))) ∧ Below w1.heap.size w1 w' by
      have := Tryz.strings_Repeat ⟨#[0]⟩ 4 w1 (by decide) (by decide)
      rw [repeat_zero] at this
      exact this)
    have PB : Hid _ := fun w => octet_putBig s 8 w h2 (by omega)
    have z1 : (str (List.replicate 4 0)).size = 4 := by rw [str_size]; rfl
    have z2 : (putBigS s 8).size = 8 := putBigS_size s 8 (by decide)
    have hw : IntKind.u64.wrap s = s := by rw [IntKind.wrap_u64]; omega
    have hln : ¬ (9223372036854775807 < (str (List.replicate 4 0)).size + (putBigS s 8).size) := by rw [z1, z2]; decide
    generalize str (List.replicate 4 0) = Z at *
    generalize putBigS s 8 = B at *
    go_enter Tryz.func37, Tryz.ntmps37
    go_wp2_with fail
    refine (PR.out _).mono ?_
    rintro e w1 ⟨rfl, b1⟩
    go_wp2_with fail
    refine (PB.out _).mono ?_
    rintro e w2 ⟨rfl, b2⟩
    replace b1 := bel12 b1 b2
    go_wp2
    go_ret
    exact ⟨rfl, b1⟩

end Go.Proofs.YtanghehmfagmfaaGreatDoor
