/-
  Two rows of 64 bytes that are held, and a short key filled up: for the law on a mac's inside.
-/
import Derived.Test.YtbnhahbnggojiaaMac3
namespace Go.Proofs.Ytbnhahbnggojiaa
open Go.RowKit
set_option linter.unusedVariables false
set_option maxRecDepth 100000

theorem rows_hold {w : World} {g1 g2 : Nat} {l1 l2 : List UInt8} (h1 : RowIs w g1 5 (cells8 l1)) (h2 : RowIs w g2 5 (cells8 l2)) (n1 : l1.length = 64) (n2 : l2.length = 64) :
    RowIs w g1 5 (cells8 l1) ∧ RowIs w g2 5 (cells8 l2) ∧ (convert 27 9 (.slice (some ⟨g1, 0, none⟩) 64 64)).run Try.prog w = .ok (.string (str l1)) w ∧ (convert 27 9 (.slice (some ⟨g2, 0, none⟩) 64 64)).run Try.prog w = .ok (.string (str l2)) w :=
  ⟨h1, h2, row_string h1 n1, row_string h2 n2⟩
theorem fill_short (k : List UInt8) (h : k.length ≤ 64) : str k ++ zeros (64 - k.length) = str (fillL k) := by
  have e : keyL k = k := by unfold keyL; rw [if_neg (by omega)]
  unfold fillL zeros
  rw [e, str_cat]
theorem make8_int (n : Nat) (x : Int) (hx : x = (n : Int)) (hn : n ≤ 140737488355328) (w : World) :
    (Instr.makeSlice 27 (.int .i64 x) (.int .i64 x)).run Try.prog w = .ok (.slice (some ⟨w.heap.size, 0, none⟩) n n) (w.alloc (zeroRow n)) := by
  rw [hx]; exact make8 n hn w

end Go.Proofs.Ytbnhahbnggojiaa
