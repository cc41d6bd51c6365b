/-
  Parts of this proof, one behind the other: Tak1.
-/
import Derived.Test.YtjemklgfenciaaaGreatBun5
import Derived.Test.YtjemklgfenciaaaGreatBun8

/-
  More on regions that draw their order: a step where nothing else may come up, a call whose answer is told by a contract, parts of strings.
-/
namespace Go.Proofs.YtjemklgfenciaaaGreat
open Go.RowKit
set_option linter.unusedVariables false
set_option maxRecDepth 100000
set_option linter.unusedSimpArgs false

section
variable {P : Program} {ops : Array Oper} {Q : Exit → Act → World → Prop} {md : Region.Mode} {S T : World → Prop} {c : Nat}

/-- One operation that is not number c, where nothing else may come up. -/
theorem wpAnyT_step {i : Nat} {o : Oper} {fuel : Nat} {listed : Array Bool} {a : Act} {w : World} (hr : Region.ready md ops listed = [i]) (ho : ops[i]? = some o) (hg : o.guard = none) (hic : i ≠ c)
    (h : o.wp P a w (fun a' w' => S w' ∧ T w' ∧ wpAnyT P md ops Q S T c fuel (listed.setIfInBounds i true) a' w') Q) : wpAnyT P md ops Q S T c (fuel + 1) listed a w := by
  refine ⟨fun h0 => (by rw [hr] at h0; cases h0), fun j hj => ?_⟩
  rw [hr, List.mem_singleton] at hj
  subst hj
  unfold wpOp
  simp only [ho, wanted_plain hg, if_true]
  exact Or.inl (Oper.wp_mono (fun a' w' h' => ⟨h'.1, fun e => absurd e hic, fun _ => h'.2⟩) h)
/-- A Go function is called; its contract tells on. -/
theorem wp_callE {o : Oper} {a : Act} {w : World} {K : Act → World → Prop} {f : Nat} {args : Array Operand} {ts : Array TypeId} {vs : Array Value} (ho : o.op = .call { callee := .value (.func f), args := args, argTypes := ts }) (hv : args.map a.eval = vs)
    (hcf : (callFunc f vs).run P w = .ok (.enter f vs) w) (hc : Calls P f vs w fun e w'' => ∃ v, e = .returned v ∧ K (a.put o.dst v) w'') : o.wp P a w K Q := by
  have hrun : (execOp a.eval o).run P w = .ok (.enter f vs) w := by
    unfold execOp
    simp [ho, go_sem, hv, hcf]
  unfold Oper.wp
  rw [hrun]
  refine hc.mono ?_
  rintro e w'' ⟨v, rfl, h⟩
  exact h
theorem run_loadM' {a : Act} {o : Oper} {x : Operand} {t : TypeId} {g : Nat} {cs : List Value} {d : TypeDesc} (ho : o.op = .load t x) (hx : a.eval x = .pointer (some ⟨g, 0, none⟩)) (hu : P.underlying t = some d) (hd : d.isRow = true) (hi : (P.info? t).map (·.size) = some cs.length) (w : World) (hc : w.rangeAt g 0 cs) :
    (execOp a.eval o).run P w = .ok (.value (.agg cs.toArray)) w := by
  unfold execOp
  simp only [ho, hx, Sem.run_bind, run_loadAt_mid w g 0 t cs d hc hu hd hi]
  rfl
theorem run_sliceH' {a : Act} {o : Oper} {x y : Operand} {t : TypeId} {s : ByteArray} {n : Nat} (ho : o.op = .slice t x none (some y) none) (hx : a.eval x = .string s) (hy : a.eval y = .int .i64 (n : Int)) (hu : P.underlying t = some .string) (hn : n ≤ s.size) (w : World) :
    (execOp a.eval o).run P w = .ok (.value (.string (s.extract 0 n))) w := by
  have h1 := run_slice_string_h (P := P) (w := w) (t := t) (s := s) hu .i64 (n : Int) (by omega) (by omega)
  rw [Int.toNat_natCast] at h1
  unfold execOp
  simp only [ho, Option.map_none, Option.map_some, hx, hy]
  simp [go_sem, hu, h1]
theorem run_cat' {a : Act} {o : Oper} {x y : Operand} {t u : TypeId} {s r : ByteArray} (ho : o.op = .binOp .add t x y u) (hx : a.eval x = .string s) (hy : a.eval y = .string r) (hu : P.underlying t = some .string) (hn : s.size + r.size ≤ 9223372036854775807) (w : World) :
    (execOp a.eval o).run P w = .ok (.value (.string (s ++ r))) w := by
  have h1 : ¬ (9223372036854775807 < s.size + r.size) := by omega
  unfold execOp
  simp only [ho, hx, hy]
  simp [go_sem, hu, h1]
end
end Go.Proofs.YtjemklgfenciaaaGreat
