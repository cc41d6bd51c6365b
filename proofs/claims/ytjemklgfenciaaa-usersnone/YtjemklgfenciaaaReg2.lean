/-
  More operations of a region that draws its order.
-/
import Derived.Test.YtjemklgfenciaaaReg1
import Derived.Test.YtjemklgfenciaaaCom3
import Derived.Test.YtjemklgfenciaaaRowT
namespace Go.Proofs.Ytjemklgfenciaaa
open Go.RowKit
set_option linter.unusedVariables false
set_option maxRecDepth 100000
set_option linter.unusedSimpArgs false

section
variable {P : Program}
theorem run_convI' {a : Act} {o : Oper} {x : Operand} {s t : TypeId} {k k' : IntKind} {n m : Int} (ho : o.op = .convert s t x) (hx : a.eval x = .int k n) (hs : (P.underlying s).isSome = true) (hd : P.underlying t = some (.int k')) (hm : k'.wrap n = m) (w : World) :
    (execOp a.eval o).run P w = .ok (.value (.int k' m)) w := by
  have hk : P.intKind t = k' := by simp [Program.intKind, hd]
  have := run_convert_int (P := P) w s t k n hs (by rw [hk]; exact hd)
  rw [hk, hm] at this
  exact run_convert' ho hx this
theorem run_load1' {a : Act} {o : Oper} {x : Operand} {t : TypeId} {p : Addr} {v : Value} {d : TypeDesc} (ho : o.op = .load t x) (hx : a.eval x = .pointer (some p)) (hu : P.underlying t = some d) (hd : d.isRow = false) (w : World) (hc : w.cell? p = some v) :
    (execOp a.eval o).run P w = .ok (.value v) w := by
  have hrun : (Instr.loadAt t (.pointer (some p))).run P w = .ok v w := by
    have hagg : (isAgg t).run P w = .ok false w := by
      unfold isAgg
      rw [Sem.run_bind, run_underlying hu w]
      cases d <;> first | rfl | (simp [TypeDesc.isRow] at hd)
    simp [go_sem, hagg, hc]
  unfold execOp
  simp only [ho, hx, Sem.run_bind, hrun]
  rfl
theorem run_lenL' {a : Act} {o : Oper} {x : Operand} {t e : TypeId} {ts : Array TypeId} {p : Option Addr} {n c : Nat} (ho : o.op = .call { callee := .builtin .len, args := #[x], argTypes := ts }) (hx : a.eval x = .slice p n c) (ht : ts[0]? = some t) (hu : P.underlying t = some (.slice e)) (w : World) :
    (execOp a.eval o).run P w = .ok (.value (.int .i64 (n : Int))) w := by
  revert hx
  generalize a.eval = ev
  intro hx
  unfold execOp
  simp [ho, go_sem, hx, Builtin.len_, ht, run_underlying hu]
theorem run_index1' {a : Act} {o : Oper} {x ix : Operand} {t : TypeId} {s : ByteArray} {k : Nat} (ho : o.op = .index t x ix) (hx : a.eval x = .string s) (hi : a.eval ix = .int .i64 (k : Int)) (hk : k < s.size) (hu : P.underlying t = some .string) (w : World) :
    (execOp a.eval o).run P w = .ok (.value (.int .u8 ((s.data.toList.getD k 0).toNat : Int))) w := by
  have h0 : (0 : Int) ≤ (k : Int) := by omega
  have h1 : (k : Int) < (s.size : Int) := by omega
  revert hx hi
  generalize a.eval = ev
  intro hx hi
  unfold execOp
  simp [ho, go_sem, hx, hi, run_underlying hu, hu, hk, List.getD_eq_getElem?_getD]
  rfl
end
theorem act_ext0 {a b : Act} (hs : a.tmps.size = b.tmps.size) (hd : a.defers = b.defers) (h : ∀ t : Nat, a.eval (.tmp t) = b.eval (.tmp t)) : a = b := by
  obtain ⟨ta, da⟩ := a
  obtain ⟨tb, db⟩ := b
  simp only at hd hs
  subst hd
  congr 1
  apply Array.ext hs
  intro i h1 h2
  have := h i
  simpa [Act.eval, h1, h2] using this
/-- A frame out of another one, by the slots in which they may part. -/
theorem act_puts (a : Act) : ∀ (b : Act) (ds : List Nat), a.tmps.size = b.tmps.size → a.defers = b.defers → (∀ d ∈ ds, d < a.tmps.size) → (∀ t : Nat, t ∉ ds → a.eval (.tmp t) = b.eval (.tmp t)) → a = ds.foldl (fun c d => c.put (some d) (a.eval (.tmp d))) b
  | b, [], hs, hd, _, h => act_ext0 hs hd (fun t => h t (by simp))
  | b, d :: ds, hs, hd, hl, h => by
    refine act_puts a (b.put (some d) (a.eval (.tmp d))) ds (by rw [size_put, hs]) (by rw [defers_put, hd]) (fun x hx => hl x (by simp [hx])) (fun t ht => ?_)
    by_cases hdt : t = d
    · subst hdt
      rw [eval_put, if_pos ⟨rfl, by rw [← hs]; exact hl t (by simp)⟩]
    · rw [eval_put_ne (fun e => hdt e.symm)]
      exact h t (by simp [hdt, ht])
theorem conv_one {w : World} {g : Nat} {c : UInt8} (h : RowIs w g 5 [.int .u8 (c.toNat : Int)]) : (convert 35 9 (.slice (some ⟨g, 0, none⟩) 1 1)).run Try.prog w = .ok (.string (str [c])) w := by
  refine run_convert_bytes_back w _ _ 5 ⟨g, 0, none⟩ 1 [c] Try.underlying35 Try.underlying5 Try.underlying9 ?_
  intro j hj
  obtain rfl : j = 0 := by simpa using hj
  exact h.cellAt rfl

end Go.Proofs.Ytjemklgfenciaaa
