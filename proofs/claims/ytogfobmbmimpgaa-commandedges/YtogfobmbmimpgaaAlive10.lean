/-
  Chapter 10's alive.
-/
import Derived.Test.YtogfobmbmimpgaaCom9
namespace Go.Proofs.Ytogfobmbmimpgaa
open Go.RowKit
set_option linter.unusedVariables false
set_option maxRecDepth 100000
set_option linter.unusedSimpArgs false

theorem nameS_ne (op : Int) (h : IsOp op) : nameS op ≠ ⟨#[]⟩ := by
  rcases classN_in op h with rfl | rfl | rfl | rfl | rfl | rfl | rfl | rfl | rfl | rfl | rfl | rfl | rfl <;> decide
theorem names_apart (a b : Int) (ha : IsOp a) (hne : a ≠ b) : nameS a ≠ nameS b := by
  by_cases hb : IsOp b
  · obtain ⟨i, rfl⟩ : ∃ i : Nat, a = (i : Int) := Int.eq_ofNat_of_zero_le (by unfold IsOp at ha; omega)
    obtain ⟨j, rfl⟩ : ∃ j : Nat, b = (j : Int) := Int.eq_ofNat_of_zero_le (by unfold IsOp at hb; omega)
    have key : ∀ i : Fin 14, ∀ j : Fin 14, i ≠ j → nameL.getD i.val ⟨#[]⟩ ≠ nameL.getD j.val ⟨#[]⟩ := by decide +kernel
    have hi : i < 14 := by unfold IsOp at ha; omega
    have hj : j < 14 := by unfold IsOp at hb; omega
    rw [nameS_in i (by omega), nameS_in j (by omega)]
    exact key ⟨i, hi⟩ ⟨j, hj⟩ (fun e => hne (by have h2 : i = j := congrArg Fin.val e; rw [h2]))
  · rw [nameS_out b hb]
    exact nameS_ne a ha

def cmdK : Cmd := ⟨2, ⟨#[107]⟩, ⟨#[118]⟩, 5, 0⟩
theorem cmdK_right : cmdK.Right := by decide
theorem cmdK_size : cmdK.put.size = 20 := by rw [Cmd.put_size cmdK_right]; rfl

set_option maxHeartbeats 400000 in
theorem alive10 (w : World) : Calls Try.prog 9 #[] w fun e w' => e = .returned (.bool true) ∧ Below w.heap.size w w' := by
  have P1 := fun w => command_put cmdK w (by decide)
  have hs := cmdK_size
  have P2 := fun w => command_get cmdK.put w (by rw [cmdK_size]; decide)
  rw [(get_put cmdK_right).2.1, (get_put cmdK_right).2.2] at P2
  rw [show cmdK.right = true from decide_eq_true cmdK_right] at P1
  generalize cmdK.put = B at *
  rw [show cmdK.v = .agg #[.int .i64 2, .string ⟨#[107]⟩, .string ⟨#[118]⟩, .int .i64 5, .int .i64 0] from rfl] at P1 P2
  have P3 := fun w => command_class 6 w
  have P4 := fun w => command_name 10 w
  rw [show classN 6 = 2 from rfl] at P3
  rw [show nameS 10 = ⟨#[116, 116, 108]⟩ from rfl] at P4
  go_enter Try.func9, Try.ntmps9
  go_wp2_with fail
  with_reducible refine (P1 _).mono ?_
  rintro e w1 ⟨rfl, b1⟩
  have r1 := (CmdIs.new w cmdK).below b1
  replace b1 := bel_new b1
  go_wp2_with fail
  with_reducible refine (P2 _).mono ?_
  rintro e w2 ⟨rfl, b2⟩
  have r2 := r1.below b2
  replace b2 := bel_chain8 b1 b2
  obtain ⟨k0, k1, k2, k3, k4⟩ : w2.cell? ⟨w.heap.size, 0, none⟩ = some (.int .i64 2) ∧ w2.cell? ⟨w.heap.size, 1, none⟩ = some (.string ⟨#[107]⟩) ∧ w2.cell? ⟨w.heap.size, 2, none⟩ = some (.string ⟨#[118]⟩) ∧ w2.cell? ⟨w.heap.size, 3, none⟩ = some (.int .i64 5) ∧ w2.cell? ⟨w.heap.size, 4, none⟩ = some (.int .i64 0) := r2.cells
  have hlt := r2.lt
  clear b1 r1 r2
  go_wp2_with fail
  with_reducible refine (P3 _).mono ?_
  rintro e w3 ⟨rfl, rfl⟩
  go_wp2_with fail
  with_reducible refine (P4 _).mono ?_
  rintro e w4 ⟨rfl, b4⟩
  go_wp2
  go_ret
  exact ⟨rfl, bel_chain8 b2 (bel_new b4)⟩

end Go.Proofs.Ytogfobmbmimpgaa
