/-
  Operations in a region that draws its order, one by one.
-/
import Derived.Test.YtjemklgfenciaaaReg0
import Derived.Test.YtjemklgfenciaaaTak1
import Derived.Test.YtjemklgfenciaaaMem0
import Derived.Test.YtjemklgfenciaaaOct2
namespace Go.Proofs.Ytjemklgfenciaaa
open Go.RowKit
set_option linter.unusedVariables false
set_option maxRecDepth 100000
set_option linter.unusedSimpArgs false

section
variable {P : Program} {ops : Array Oper} {Q : Exit → Act → World → Prop}

def noOp : Option Tmp × Op := (none, .move (.tmp 0))
/-- What is to be shown of operation i: from the facts that those it waits for have left, its own. -/
def StepP (P : Program) (Q : Exit → Act → World → Prop) (l : List (Option Tmp × Op)) (L : List (List Nat)) (F : List (Value → World → Prop)) (R : World → Prop) (a0 : Act) (i : Nat) : Prop :=
  ∀ (o : Oper), o.dst = (l.getD i noOp).1 → o.op = (l.getD i noOp).2 → ∀ a w, R w → (∀ t, some t ∉ l.map (·.1) → a.eval (.tmp t) = a0.eval (.tmp t)) →
    (∀ j ∈ L.getD i [], F.getD j (fun _ _ => True) (laidAt a (l.getD j noOp).1) w) →
    o.wp P a w (fun a' w' => ∃ v, a' = a.put o.dst v ∧ Below w.heap.size w w' ∧ F.getD i (fun _ _ => True) (keepIf o.dst v) w') Q
def Kept (f : Value → World → Prop) : Prop := ∀ v w w', Below w.heap.size w w' → f v w → f v w'
def KeptAll : List (Value → World → Prop) → Prop
  | [] => True
  | f :: r => Kept f ∧ KeptAll r
theorem KeptAll.at : ∀ {F : List (Value → World → Prop)}, KeptAll F → ∀ i, Kept (F.getD i (fun _ _ => True))
  | [], _, _ => fun _ _ _ _ _ => True.intro
  | _ :: _, h, 0 => h.1
  | _ :: _, h, i + 1 => KeptAll.at h.2 i

theorem wp_region_F {id m n : Nat} {a0 : Act} {w0 : World} (l : List (Option Tmp × Op)) (L : List (List Nat)) (F : List (Value → World → Prop)) (R : World → Prop) (hm : P.follows .mixedOrders = true) (hok : regOk ops m = true) (hk : kinds ops = l) (hL : waitsL ops = L) (hn : l.length = n) (hsz : a0.tmps.size = m)
    (hR0 : R w0.drew) (hRG : ∀ w w', R w → Below w.heap.size w w' → R w') (hF : KeptAll F)
    (hstep : ∀ i, i < n → StepP P Q l L F R a0 i)
    (hend : ∀ a w, R w → a.tmps.size = m → a.defers = a0.defers → (∀ t, some t ∉ l.map (·.1) → a.eval (.tmp t) = a0.eval (.tmp t)) → (∀ j, j < n → F.getD j (fun _ _ => True) (laidAt a (l.getD j noOp).1) w) → Q .normal a w) :
    (Code.region id ops true).wp P Q a0 w0 := by
  have hds : dsts ops = l.map (·.1) := by
    rw [← hk]
    simp [dsts, kinds]
  have hat : ∀ i (o : Oper), ops[i]? = some o → l.getD i noOp = (o.dst, o.op) ∧ i < n := fun i o ho => by
    have h1 : l[i]? = some (o.dst, o.op) := by
      rw [← hk]
      simp [kinds, ho]
    refine ⟨by rw [List.getD_eq_getElem?_getD, h1]; rfl, ?_⟩
    rw [← hn]
    exact (List.getElem?_eq_some_iff.1 h1).1
  have hall : ∀ i, i < n → ∃ o : Oper, ops[i]? = some o ∧ l.getD i noOp = (o.dst, o.op) := fun i hi => by
    obtain ⟨o, ho, hd, hx⟩ := kinds_at hk (i := i) (d := (l.getD i noOp).1) (x := (l.getD i noOp).2) (by rw [List.getD_eq_getElem?_getD, List.getElem?_eq_getElem (by omega)]; rfl)
    exact ⟨o, ho, (hat i o ho).1⟩
  refine wp_region_J R (fun w w' => Below w.heap.size w w') (fun i v w => F.getD i (fun _ _ => True) v w) hm hok hsz hR0 hRG (fun i v w w' hG h => hF.at i v w w' hG h) ?_ ?_
  · intro i o ho a w hR hout hJ
    obtain ⟨e1, hi⟩ := hat i o ho
    refine hstep i hi o (by rw [e1]) (by rw [e1]) a w hR (by rw [← hds]; exact hout) ?_
    intro j hj
    have hjn : ∃ oj : Oper, ops[j]? = some oj ∧ awaits .any ops i j = true := by
      rw [← hL, waitsL, List.getD_eq_getElem?_getD] at hj
      have hi2 : i < ops.size := (Array.getElem?_eq_some_iff.1 ho).1
      simp only [List.getElem?_map, List.getElem?_range hi2, Option.map_some, Option.getD_some, List.mem_filter, List.mem_range] at hj
      exact ⟨ops[j], by simp [hj.1], hj.2⟩
    obtain ⟨oj, hoj, haw⟩ := hjn
    have := hJ j oj hoj haw
    rw [(hat j oj hoj).1]
    exact this
  · intro a w hR hs hd hout hJ
    refine hend a w hR hs hd (by rw [← hds]; exact hout) (fun j hj => ?_)
    obtain ⟨o, ho, e⟩ := hall j hj
    rw [e]
    exact hJ j o ho

theorem st_v {o : Oper} {a : Act} {w : World} {d : Tmp} {v : Value} {f : Value → World → Prop} (hd : o.dst = some d) (h : (execOp a.eval o).run P w = .ok (.value v) w) (hf : f v w) :
    o.wp P a w (fun a' w' => ∃ v, a' = a.put o.dst v ∧ Below w.heap.size w w' ∧ f (keepIf o.dst v) w') Q := by
  unfold Oper.wp
  rw [h, hd]
  exact ⟨v, by rw [← hd], Below.refl _ _, hf⟩
theorem st_m {o : Oper} {a : Act} {w w' : World} {d : Tmp} {v : Value} {f : Value → World → Prop} (hd : o.dst = some d) (h : (execOp a.eval o).run P w = .ok (.value v) w') (hb : Below w.heap.size w w') (hf : f v w') :
    o.wp P a w (fun a' w' => ∃ v, a' = a.put o.dst v ∧ Below w.heap.size w w' ∧ f (keepIf o.dst v) w') Q := by
  unfold Oper.wp
  rw [h, hd]
  exact ⟨v, by rw [← hd], hb, hf⟩
theorem st_c {o : Oper} {a : Act} {w : World} {d : Tmp} {f : Value → World → Prop} {fn : Nat} {args : Array Operand} {ts : Array TypeId} {vs : Array Value} (hd : o.dst = some d) (ho : o.op = .call { callee := .value (.func fn), args := args, argTypes := ts }) (hv : args.map a.eval = vs)
    (hcf : (callFunc fn vs).run P w = .ok (.enter fn vs) w) (hc : Calls P fn vs w fun e w' => ∃ v, e = .returned v ∧ Below w.heap.size w w' ∧ f v w') :
    o.wp P a w (fun a' w' => ∃ v, a' = a.put o.dst v ∧ Below w.heap.size w w' ∧ f (keepIf o.dst v) w') Q := by
  refine wp_callE ho hv hcf (hc.mono ?_)
  rintro e w' ⟨v, rfl, hb, hf⟩
  exact ⟨v, rfl, v, rfl, hb, by rw [hd]; exact hf⟩

theorem run_assign' {a : Act} {o : Oper} {x : Operand} {v : Value} (ho : o.op = .assign x) (hx : a.eval x = v) (w : World) : (execOp a.eval o).run P w = .ok (.value v) w := by
  subst hx
  unfold execOp
  simp [ho]
theorem run_field' {a : Act} {o : Oper} {x : Operand} {t : TypeId} {b i k n : Nat} {fs : Array Field} {f : Field} (ho : o.op = .fieldAddr t x i) (hx : a.eval x = .pointer (some ⟨b, k, none⟩)) (hu : P.underlying t = some (.struct fs)) (hf : fs[i]? = some f) (hz : (P.info? f.type).map (·.size) = some (n + 1)) (w : World) :
    (execOp a.eval o).run P w = .ok (.value (.pointer (some ⟨b, k + f.offset, none⟩))) w := by
  have hz' : ∀ w, (sizeOf f.type).run P w = .ok (n + 1) w := fun w => by
    cases hi : P.info? f.type with
    | none => simp [hi] at hz
    | some i => simp [hi] at hz; simp [sizeOf, typeInfo, hi, hz]
  revert hx
  generalize a.eval = ev
  intro hx
  unfold execOp
  simp [ho, hx, go_sem, run_underlying hu, hf, hz']
theorem run_loadS' {a : Act} {o : Oper} {x : Operand} {t : TypeId} {p : Addr} {v : Value} (ho : o.op = .load t x) (hx : a.eval x = .pointer (some p)) (hu : P.underlying t = some .string) (w : World) (hc : w.cell? p = some v) :
    (execOp a.eval o).run P w = .ok (.value v) w := by
  have hrun : (Instr.loadAt t (.pointer (some p))).run P w = .ok v w := by
    have hagg : (isAgg t).run P w = .ok false w := by
      unfold isAgg
      rw [Sem.run_bind, run_underlying hu w]
      rfl
    simp [go_sem, hagg, hc]
  unfold execOp
  simp only [ho, hx, Sem.run_bind, hrun]
  rfl
theorem run_convert' {a : Act} {o : Oper} {x : Operand} {s t : TypeId} {v r : Value} {w : World} (ho : o.op = .convert s t x) (hx : a.eval x = v) (h : (convert s t v).run P w = .ok r w) : (execOp a.eval o).run P w = .ok (.value r) w := by
  unfold execOp
  simp only [ho, hx, Sem.run_bind, h]
  rfl
theorem run_addI' {a : Act} {o : Oper} {x y : Operand} {t u : TypeId} {i j : Int} (ho : o.op = .binOp .add t x y u) (hx : a.eval x = .int .i64 i) (hy : a.eval y = .int .i64 j) (hu : P.underlying t = some (.int .i64)) (w : World) :
    (execOp a.eval o).run P w = .ok (.value (.int .i64 (IntKind.i64.wrap (i + j)))) w := by
  unfold execOp
  simp only [ho, hx, hy]
  simp [go_sem, hu]
theorem run_lenS' {a : Act} {o : Oper} {x : Operand} {t : TypeId} {ts : Array TypeId} {s : ByteArray} (ho : o.op = .call { callee := .builtin .len, args := #[x], argTypes := ts }) (hx : a.eval x = .string s) (ht : ts[0]? = some t) (hu : P.underlying t = some .string) (w : World) :
    (execOp a.eval o).run P w = .ok (.value (.int .i64 (s.size : Int))) w := by
  revert hx
  generalize a.eval = ev
  intro hx
  unfold execOp
  simp [ho, go_sem, hx, Builtin.len_, ht, run_underlying hu]
theorem run_build1' {a : Act} {o : Oper} {x : Operand} {t e : TypeId} {v z : Value} {inf : TypeInfo} (ho : o.op = .buildSlice t 1 #[(0, x)]) (hx : a.eval x = v) (hu : P.underlying t = some (.slice e)) (hi : P.info? e = some inf) (hz : inf.size = 1) (hzz : inf.zero = some z) (hv : ∀ cs, v ≠ .agg cs) (w : World) :
    (execOp a.eval o).run P w = .ok (.value (.slice (some ⟨w.heap.size, 0, none⟩) 1 1)) (w.alloc (.cells #[v] e)) := by
  have hz' : ∀ w, (sizeOf e).run P w = .ok 1 w := fun w => by simp [sizeOf, typeInfo, hi, hz]
  have hz2 : ∀ w, (zeroValue e).run P w = .ok z w := fun w => by simp [zeroValue, typeInfo, hi, hzz]
  revert hx
  generalize a.eval = ev
  intro hx
  unfold execOp
  cases v
  case agg cs => exact absurd rfl (hv cs)
  all_goals simp [ho, hx, go_sem, run_underlying hu, hz', hz2]
end
end Go.Proofs.Ytjemklgfenciaaa
