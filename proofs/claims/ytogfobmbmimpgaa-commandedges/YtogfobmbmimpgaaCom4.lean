/-
  The contracts of package command's Right.
-/
import Derived.Test.YtogfobmbmimpgaaCom3
import Derived.Deep.RegionHeld3
namespace Go.Proofs.Ytogfobmbmimpgaa
open Go.RowKit
set_option linter.unusedVariables false
set_option maxRecDepth 100000
set_option linter.unusedSimpArgs false

theorem bel_new {w w' : World} {o : Obj} (h : Below (w.alloc o).heap.size (w.alloc o) w') : Below w.heap.size w w' := bel_chain8 ((Below.refl _ _).alloc (Nat.le_refl _) _) h
theorem ret_sb10 {a b : ByteArray} {c d : Bool} (h : a = b) (h' : c = d) : Ending.returned (.tuple #[.string a, .bool c]) = .returned (.tuple #[.string b, .bool d]) := by rw [h, h']
/-- A command that lies in a variable. -/
def CmdIs (w : World) (b : Nat) (c : Cmd) : Prop := RowIs w b 23 [.int .i64 c.op, .string c.key, .string c.value, .int .i64 c.num, .int .i64 c.ver]
theorem CmdIs.new (w : World) (c : Cmd) : CmdIs (w.alloc (.cells #[.int .i64 c.op, .string c.key, .string c.value, .int .i64 c.num, .int .i64 c.ver] 23)) w.heap.size c := RowIs.new w _ _
theorem CmdIs.lt {w : World} {b : Nat} {c : Cmd} (h : CmdIs w b c) : b < w.heap.size := RowIs.lt h
theorem CmdIs.below {w w' : World} {b : Nat} {c : Cmd} (h : CmdIs w b c) (hb : Below w.heap.size w w') : CmdIs w' b c := RowIs.below h hb h.lt
theorem CmdIs.alloc {w : World} {b : Nat} {c : Cmd} (h : CmdIs w b c) (o : Obj) : CmdIs (w.alloc o) b c := RowIs.alloc h o
theorem CmdIs.cells {w : World} {b : Nat} {c : Cmd} (h : CmdIs w b c) : w.cell? ⟨b, 0, none⟩ = some (.int .i64 c.op) ∧ w.cell? ⟨b, 1, none⟩ = some (.string c.key) ∧ w.cell? ⟨b, 2, none⟩ = some (.string c.value) ∧ w.cell? ⟨b, 3, none⟩ = some (.int .i64 c.num) ∧ w.cell? ⟨b, 4, none⟩ = some (.int .i64 c.ver) :=
  ⟨RowIs.cellAt h rfl, RowIs.cellAt h rfl, RowIs.cellAt h rfl, RowIs.cellAt h rfl, RowIs.cellAt h rfl⟩

theorem Cmd.right_parts (c : Cmd) : c.right = (decide (IsOp c.op) && decide (keyOk c.op c.key.size ∧ c.key.size ≤ 60) && decide ((c.value.size : Int) ≤ 500) && decide (NumsOk c.num c.ver)) := by
  unfold Cmd.right
  rw [← Bool.decide_and, ← Bool.decide_and, ← Bool.decide_and]
  refine decide_eq_decide.2 ⟨fun ⟨h1, h2, h3, h4, h5, h6⟩ => ⟨⟨⟨h1, h2, h3⟩, by omega⟩, h5, h6⟩, fun ⟨⟨⟨h1, h2, h3⟩, h4⟩, h5, h6⟩ => ⟨h1, h2, h3, by omega, h5, h6⟩⟩

theorem command_right (c : Cmd) (w : World) (hk : c.key.size ≤ maxLen) : Calls Try.prog 14 #[c.v] w fun e w' => e = .returned (.bool c.right) ∧ Below w.heap.size w w' := by
  rw [Cmd.right_parts]
  obtain ⟨op, key, value, num, ver⟩ := c
  rw [show (⟨op, key, value, num, ver⟩ : Cmd).v = .agg #[.int .i64 op, .string key, .string value, .int .i64 num, .int .i64 ver] from rfl]
  simp only at hk ⊢
  have P1 := fun w => command_isOp op w
  have P2 := fun w => command_isKey op key w hk
  have P3 := fun w => command_areNumbers num ver w
  obtain ⟨x1, y1⟩ : ∃ x, decide (IsOp op) = x := ⟨_, rfl⟩
  obtain ⟨x2, y2⟩ : ∃ x, decide (keyOk op key.size ∧ key.size ≤ 60) = x := ⟨_, rfl⟩
  obtain ⟨x3, y3⟩ : ∃ x, decide ((value.size : Int) ≤ 500) = x := ⟨_, rfl⟩
  obtain ⟨x4, y4⟩ : ∃ x, decide (NumsOk num ver) = x := ⟨_, rfl⟩
  rw [y1] at P1 ⊢
  rw [y2] at P2 ⊢
  rw [y4] at P3 ⊢
  rw [y3]
  clear y1 y2 y4 hk
  have hbel : ∀ o, Below w.heap.size w (w.alloc o) := fun o => (Below.refl _ _).alloc (Nat.le_refl _) _
  go_enter Try.func14, Try.ntmps14
  go_wp2_with fail
  with_reducible refine (P1 _).mono ?_
  rintro e w' ⟨rfl, rfl⟩
  cases x1
  · go_wp2
    go_ret
    exact ⟨rfl, hbel _⟩
  go_wp2_with fail
  with_reducible refine (P2 _).mono ?_
  rintro e w' ⟨rfl, rfl⟩
  cases x2
  · go_wp2
    go_ret
    exact ⟨rfl, hbel _⟩
  cases x3
  · go_wp2
    go_ret
    exact ⟨rfl, hbel _⟩
  go_wp2_with fail
  with_reducible refine (P3 _).mono ?_
  rintro e w' ⟨rfl, rfl⟩
  go_wp2
  go_ret
  exact ⟨by simp, hbel _⟩

end Go.Proofs.Ytogfobmbmimpgaa
