/-
  The laws' own first call 'alive' of chapter 3 answers true.
-/
import Derived.Test.YtbnhahbnggojiaaMac2
import Derived.Test.YtbnhahbnggojiaaOct7
namespace Go.Proofs.Ytbnhahbnggojiaa
open Go.RowKit
set_option linter.unusedVariables false
set_option maxRecDepth 100000

/-- How two strings are compared. -/
theorem str_beq (a b : ByteArray) : (a.toList == b.toList) = decide (a = b) := by
  rw [ByteArray.toList_eq, ByteArray.toList_eq]
  by_cases h : a = b
  · subst h; simp
  · rw [decide_eq_false h, beq_eq_false_iff_ne]
    intro e
    apply h
    rw [← str_back a, ← str_back b, e]
theorem str_beq_self (a : ByteArray) : (a.toList == a.toList) = true := by rw [str_beq]; exact decide_eq_true rfl
theorem mac_jefe : hexS (macS ⟨#[74, 101, 102, 101]⟩ ⟨#[119, 104, 97, 116, 32, 100, 111, 32, 121, 97, 32, 119, 97, 110, 116, 32, 102, 111, 114, 32, 110, 111, 116, 104, 105, 110, 103, 63]⟩) = ⟨#[53, 98, 100, 99, 99, 49, 52, 54, 98, 102, 54, 48, 55, 53, 52, 101, 54, 97, 48, 52, 50, 52, 50, 54, 48, 56, 57, 53, 55, 53, 99, 55, 53, 97, 48, 48, 51, 102, 48, 56, 57, 100, 50, 55, 51, 57, 56, 51, 57, 100, 101, 99, 53, 56, 98, 57, 54, 52, 101, 99, 51, 56, 52, 51]⟩ := by decide +kernel

set_option maxHeartbeats 1000000 in
theorem alive3_any (w : World) :
    Calls Try.prog 8 #[] w fun e w' => e = .returned (.bool true) ∧ Below w.heap.size w w' := by
  have hm := mac_of ⟨#[74, 101, 102, 101]⟩ ⟨#[119, 104, 97, 116, 32, 100, 111, 32, 121, 97, 32, 119, 97, 110, 116, 32, 102, 111, 114, 32, 110, 111, 116, 104, 105, 110, 103, 63]⟩ w (by decide) (by decide)
  have hj := mac_jefe
  have hms := macS_size ⟨#[74, 101, 102, 101]⟩ ⟨#[119, 104, 97, 116, 32, 100, 111, 32, 121, 97, 32, 119, 97, 110, 116, 32, 102, 111, 114, 32, 110, 111, 116, 104, 105, 110, 103, 63]⟩
  generalize macS ⟨#[74, 101, 102, 101]⟩ ⟨#[119, 104, 97, 116, 32, 100, 111, 32, 121, 97, 32, 119, 97, 110, 116, 32, 102, 111, 114, 32, 110, 111, 116, 104, 105, 110, 103, 63]⟩ = m at *
  have hh := fun w => octet_hex m w (by omega)
  rw [hj] at hh
  clear hj
  have haa := fun w => mac_same ⟨#[97]⟩ ⟨#[97]⟩ w (by decide) (by decide)
  have hab := fun w => mac_same ⟨#[97]⟩ ⟨#[98]⟩ w (by decide) (by decide)
  rw [show decide ((⟨#[97]⟩ : ByteArray) = ⟨#[97]⟩) = true from by decide] at haa
  rw [show decide ((⟨#[97]⟩ : ByteArray) = ⟨#[98]⟩) = false from by decide] at hab
  go_enter Try.func8, Try.ntmps8
  go_wp2_with fail
  refine hm.mono ?_
  rintro e w1 ⟨rfl, b1⟩
  go_wp2_with fail
  refine (hh _).mono ?_
  rintro e w2 ⟨rfl, b2⟩
  go_wp2_with fail
  refine (haa _).mono ?_
  rintro e w3 ⟨rfl, b3⟩
  go_wp2_with fail
  refine (hab _).mono ?_
  rintro e w4 ⟨rfl, b4⟩
  go_wp2
  go_ret
  exact ⟨rfl, bel_chain b1 (bel_chain b2 (bel_chain b3 b4))⟩

end Go.Proofs.Ytbnhahbnggojiaa
