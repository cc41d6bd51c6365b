/-
  What package ratchet's functions tell, and the laws' alive over it.
-/
import Derived.Test.YtlhlpcfjoccgcaaRat0
import Derived.Test.YtlhlpcfjoccgcaaFill0
import Derived.BigFrame
import Derived.Laws.StructEq
namespace Go.Proofs.Ytlhlpcfjoccgcaa
open Go.RowKit
set_option linter.unusedVariables false
set_option maxRecDepth 100000
set_option linter.unusedSimpArgs false

structure RatchetKeeps : Prop where
  next : ∀ (k : ByteArray) (w : World), k.size ≤ 1000000 → Calls Try.prog 13 #[.string k] w fun e w' => e = .returned (.string (nextR k)) ∧ Below w.heap.size w w'
  at_ : ∀ (k : ByteArray) (n : Nat) (w : World), k.size ≤ 1000000 → n ≤ 100 → Calls Try.prog 10 #[.string k, .int .i64 (n : Int)] w fun e w' => e = .returned (.tuple #[.string (turnR k n), .bool true]) ∧ Below w.heap.size w w'
  atNo : ∀ (k : ByteArray) (n : Int) (w : World), k.size ≤ 1000000 → (n < 0 ∨ 100 < n) → Calls Try.prog 10 #[.string k, .int .i64 n] w fun e w' => e = .returned (.tuple #[.string ⟨#[]⟩, .bool false]) ∧ Below w.heap.size w w'
  epoch : ∀ (s : Int) (w : World), -9223372036854775808 ≤ s → s ≤ 9223372036854775807 → Calls Try.prog 14 #[.int .i64 s] w fun e w' => e = .returned (.int .i64 (epochR s)) ∧ Below w.heap.size w w'
  nonce : ∀ (s : Int) (w : World), -9223372036854775808 ≤ s → s ≤ 9223372036854775807 → Calls Try.prog 15 #[.int .i64 s] w fun e w' => e = .returned (.string (nonceR s)) ∧ Below w.heap.size w w'
  session : ∀ (secret salt : ByteArray) (w : World), secret.size ≤ 1000000 → salt.size ≤ 1000000 → Calls Try.prog 16 #[.string secret, .string salt] w fun e w' => e = .returned (.agg #[.string (keyS secret salt upW), .string (keyS secret salt downW)]) ∧ Below w.heap.size w w'

theorem bel12 {w w1 w2 : World} (h1 : Below w.heap.size w w1) (h2 : Below w1.heap.size w1 w2) : Below w.heap.size w w2 := h1.trans (h2.mono h1.size)
theorem cell12 {w w' : World} {g j : Nat} {v : Value} (b : Below w.heap.size w w') (c : w.cell? ⟨g, j, none⟩ = some v) : w'.cell? ⟨g, j, none⟩ = some v := (b.cell (p := ⟨g, j, none⟩) (World.block_lt_of_cell? w ⟨g, j, none⟩ c)).trans c
theorem empty_isR : (⟨#[]⟩ : ByteArray).toList.isEmpty = true := by rw [ByteArray.toList_eq]; rfl
theorem empty_toR : (⟨#[]⟩ : ByteArray).toList = [] := by rw [ByteArray.toList_eq]
theorem nonce_258 : nonceR 258 = fillS ⟨#[]⟩ 10 ++ ⟨#[1, 2]⟩ := by decide +kernel

/-- Two pairs of keys compared: the walk's own step there runs the kernel out of its memory. -/
theorem keys_eq (U D : ByteArray) (w : World) : (binOp .eql 30 (.agg #[.string U, .string D]) (.agg #[.string U, .string D])).run Try.prog w = .ok (.bool true) w := by
  have e3 := str_beq_self U
  have e4 := str_beq_self D
  have hst : Try.prog.stoodInHeld 30 = false := by kernel_rfl
  simp [go_sem, e3, e4, hst]
theorem keys_guard : Try.prog.eqGuardType Try.prog.depth 30 = false := by kernel_rfl
theorem keys_guards (x y : Operand) (a b : Array Value) (w : World) : (eqGuard .eql 30 x y (.agg a) (.agg b)).run Try.prog w = .ok () w := run_eqGuard_agg w .eql 30 x y a b keys_guard
theorem step_keys {ops : Array Oper} {rest : List Oper} {o : Oper} {a : Act} {Q : Exit → Act → World → Prop} {w : World} (hw : Region.wanted o (yielded ops a.tmps) = true) (x y : Operand) (ho : o.op = .binOp .eql 30 x y 30) (U D : ByteArray) (hx : a.eval x = .agg #[.string U, .string D]) (hy : a.eval y = .agg #[.string U, .string D])
    (h : wpList Try.prog ops Q rest (a.put o.dst (.bool true)) w) : wpList Try.prog ops Q (o :: rest) a w := by
  refine BigFrame.wpList_want hw (fun K hK => ?_)
  unfold Oper.wp execOp
  simp only [ho, hx, hy, Sem.run_bind, keys_guards, keys_eq, Result.andThen_ok, Sem.run_pure]
  exact hK _ _ h

set_option maxHeartbeats 1000000 in
theorem alive12_of (K : RatchetKeeps) (w : World) : Calls Try.prog 9 #[] w fun e w' => e = .returned (.bool true) ∧ Below w.heap.size w w' := by
  have F1 : Hid _ := fun w => law5_fill ⟨#[107]⟩ 32 w (by decide) (by decide)
  have F2 : Hid _ := fun w => law5_fill ⟨#[]⟩ 10 w (by decide) (by decide)
  have hk : (fillS ⟨#[107]⟩ 32).size = 32 := fillS_size _ _
  have hz : (fillS ⟨#[]⟩ 10).size = 10 := fillS_size _ _
  have PA : Hid _ := fun w => K.at_ (fillS ⟨#[107]⟩ 32) 2 w (by rw [hk]; decide) (by decide)
  have PN1 : Hid _ := fun w => K.next (fillS ⟨#[107]⟩ 32) w (by rw [hk]; decide)
  have PN2 : Hid _ := fun w => K.next (nextR (fillS ⟨#[107]⟩ 32)) w (by rw [nextR_size]; decide)
  have PE : Hid _ := fun w => K.epoch 17 w (by decide) (by decide)
  have PO : Hid _ := fun w => K.nonce 258 w (by decide) (by decide)
  have h2 : (nextR (nextR (fillS ⟨#[107]⟩ 32))).size = 32 := nextR_size _
  have hT : turnR (fillS ⟨#[107]⟩ 32) 2 = nextR (nextR (fillS ⟨#[107]⟩ 32)) := rfl
  have e17 : epochR 17 = 2 := by decide
  rw [hT] at PA
  rw [e17] at PE
  have hO := nonce_258
  have hln : ¬ (9223372036854775807 < (fillS ⟨#[]⟩ 10).size + 2) := by rw [hz]; decide
  clear hT e17 hk hz
  generalize nextR (nextR (fillS ⟨#[107]⟩ 32)) = N2 at *
  generalize nextR (fillS ⟨#[107]⟩ 32) = N1 at *
  generalize fillS ⟨#[107]⟩ 32 = KK at *
  generalize fillS ⟨#[]⟩ 10 = Z at *
  rw [hO] at PO
  clear hO
  obtain ⟨NC, hNC⟩ : ∃ x, Z ++ ⟨#[1, 2]⟩ = x := ⟨_, rfl⟩
  rw [hNC] at PO
  have e1 := str_beq_self N2
  have e2 := str_beq_self NC
  go_enter Try.func9, Try.ntmps9
  go_wp2_with fail
  refine (F1.out _).mono ?_
  rintro e w1 ⟨rfl, rfl⟩
  go_wp2_with fail
  refine (PA.out _).mono ?_
  rintro e w1 ⟨rfl, b1⟩
  go_wp2_with fail
  with_reducible refine (PN1.out _).mono ?_
  rintro e w2 ⟨rfl, b2⟩
  replace b1 := bel12 b1 b2
  clear b2
  go_wp2_with fail
  with_reducible refine (PN2.out _).mono ?_
  rintro e w3 ⟨rfl, b2⟩
  replace b1 := bel12 b1 b2
  clear b2
  go_wp2_with fail
  with_reducible refine (PE.out _).mono ?_
  rintro e w4 ⟨rfl, b2⟩
  replace b1 := bel12 b1 b2
  clear b2
  go_wp2_with fail
  with_reducible refine (PO.out _).mono ?_
  rintro e w5 ⟨rfl, b2⟩
  replace b1 := bel12 b1 b2
  clear b2
  go_wp2_with fail
  refine (F2.out _).mono ?_
  rintro e w6 ⟨rfl, rfl⟩
  go_wp2
  go_ret
  exact ⟨rfl, b1⟩

end Go.Proofs.Ytlhlpcfjoccgcaa
