/-
  The contract of the reference's Sum.
-/
import Derived.Test.YtlhlpcfjoccgcaaRefD
import Derived.Test.YtlhlpcfjoccgcaaOct3
namespace Go.Proofs.Ytlhlpcfjoccgcaa
open Go.RowKit
set_option linter.unusedVariables false
set_option maxRecDepth 100000

theorem run_buildSlice {P : Program} {t e : TypeId} {len : Nat} {parts : Array (Nat × Value)} {cells : Array Value} {i : TypeInfo} {z : Value} (w : World) (ht : P.underlying t = some (.slice e)) (hi : P.info? e = some i) (hz : i.zero = some z) (hs : i.size = 1) (h0 : 0 < len) (h1 : len ≤ 16777216)
    (hf : Instr.fill (fun i => some (i, 1)) ((Array.range len).map (z.cells[· % z.cells.size]!)) parts.toList = some cells) :
    (Instr.buildSlice t len parts).run P w = .ok (.slice (some ⟨w.heap.size, 0, none⟩) len len) (w.alloc (.cells cells e)) := by
  have hn : ¬ 16777216 < len := by omega
  have hn0 : ¬ len = 0 := by omega
  simp [Instr.buildSlice, run_underlying ht, typeInfo, hi, sizeOf, zeroValue, hz, hs, newRow, hn, hn0, hf]
theorem wpList_buildSlice {P : Program} {ops : Array Oper} {rest : List Oper} {op : Oper} {a : Act} {w : World} {Q : Exit → Act → World → Prop} (hgd : op.guard = none) (t e : TypeId) (len : Nat) (parts : Array (Nat × Operand)) (ho : op.op = .buildSlice t len parts)
    (cells : Array Value) {i : TypeInfo} {z : Value} (ht : P.underlying t = some (.slice e)) (hi : P.info? e = some i) (hz : i.zero = some z) (hs : i.size = 1) (h0 : 0 < len) (h1 : len ≤ 16777216)
    (hf : Instr.fill (fun i => some (i, 1)) ((Array.range len).map (z.cells[· % z.cells.size]!)) (parts.map fun (i, x) => (i, a.eval x)).toList = some cells) (N : Nat) (hN : w.heap.size = N)
    (h : wpList P ops Q rest (a.put op.dst (.slice (some ⟨N, 0, none⟩) len len)) (w.alloc (.cells cells e))) : wpList P ops Q (op :: rest) a w := by
  subst hN
  refine wpList_value hgd (w' := w.alloc (.cells cells e)) ?_ h
  unfold execOp
  simp only [ho, Sem.run_bind, run_buildSlice w ht hi hz hs h0 h1 hf]
  rfl

end Go.Proofs.Ytlhlpcfjoccgcaa
