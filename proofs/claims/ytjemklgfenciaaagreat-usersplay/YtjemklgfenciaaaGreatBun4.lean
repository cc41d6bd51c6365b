/-
  Parts of this proof, one behind the other: Mem0.
-/
import Derived.WalkKit
import Derived.Deep.MidRow

/-
  Rows of cells known whole, and a frame that lets one block go. No program is named here.
-/
namespace Go.Proofs.YtjemklgfenciaaaGreat
open Go.RowKit
set_option linter.unusedVariables false
set_option maxRecDepth 100000

/-- Block g is a row of the cells l, of type t, none of it frozen. -/
def RowIs (w : World) (g : Nat) (t : TypeId) (l : List Value) : Prop := w.heap[g]? = some (.cells l.toArray t (0, 0))

theorem RowIs.lt {w : World} {g : Nat} {t : TypeId} {l : List Value} (h : RowIs w g t l) : g < w.heap.size := (Array.getElem?_eq_some_iff.1 h).1
theorem RowIs.cell {w : World} {g : Nat} {t : TypeId} {l : List Value} (h : RowIs w g t l) (j : Nat) : w.cell? ⟨g, j, none⟩ = l[j]? := by
  unfold RowIs at h
  simp [World.cell?, h]
theorem RowIs.cellAt {w : World} {g : Nat} {t : TypeId} {l : List Value} (h : RowIs w g t l) {j : Nat} {v : Value} (hv : l[j]? = some v) : w.cell? ⟨g, j, none⟩ = some v := by rw [h.cell, hv]
theorem RowIs.frozen {w : World} {g : Nat} {t : TypeId} {l : List Value} (h : RowIs w g t l) (j : Nat) : w.frozen? ⟨g, j, none⟩ = false := by
  unfold RowIs at h
  simp [World.frozen?, h]
theorem RowIs.there {w : World} {g : Nat} {t : TypeId} {l : List Value} (h : RowIs w g t l) {o n : Nat} (hn : o + n ≤ l.length) : w.there g o n := fun j hj =>
  ⟨by rw [h.cell, List.getElem?_eq_getElem (by omega)]; rfl, h.frozen _⟩
theorem RowIs.range {w : World} {g : Nat} {t : TypeId} {l : List Value} (h : RowIs w g t l) {o : Nat} {cs : List Value} (hc : (l.drop o).take cs.length = cs) : w.rangeAt g o cs := fun j v hv => by
  have hj : j < cs.length := (List.getElem?_eq_some_iff.1 hv).1
  have e : ((l.drop o).take cs.length)[j]? = cs[j]? := by rw [hc]
  rw [h.cell, ← hv, ← e, List.getElem?_take, if_pos hj, List.getElem?_drop]
theorem RowIs.drew {w : World} {g : Nat} {t : TypeId} {l : List Value} (h : RowIs w g t l) : RowIs w.drew g t l := h
theorem RowIs.alloc {w : World} {g : Nat} {t : TypeId} {l : List Value} (h : RowIs w g t l) (o : Obj) : RowIs (w.alloc o) g t l := by
  have hl := h.lt
  unfold RowIs at *
  rw [Below.heap_alloc _ _ _ hl]; exact h
theorem RowIs.new (w : World) (t : TypeId) (l : List Value) : RowIs (w.alloc (.cells l.toArray t)) w.heap.size t l := by
  unfold RowIs
  show (w.heap.push _)[w.heap.size]? = _
  simp
theorem RowIs.set {w : World} {g : Nat} {t : TypeId} {l : List Value} (h : RowIs w g t l) (j : Nat) (v : Value) : RowIs (w.setCell ⟨g, j, none⟩ v) g t (l.set j v) := by
  unfold RowIs at *
  simp [World.setCell, Array.getElem?_modify, h, List.setIfInBounds_toArray]
theorem RowIs.setOther {w : World} {g : Nat} {t : TypeId} {l : List Value} (h : RowIs w g t l) {a : Addr} (ha : g ≠ a.block) (v : Value) : RowIs (w.setCell a v) g t l := by
  unfold RowIs at *
  rw [Below.heap_setCell _ _ _ _ ha]; exact h
theorem RowIs.below {w w' : World} {g : Nat} {t : TypeId} {l : List Value} (h : RowIs w g t l) {B : Nat} (hb : Below B w w') (hg : g < B) : RowIs w' g t l := by
  unfold RowIs at *
  rw [hb.block g hg]; exact h

/-- What is stored from offset o on, in a list. -/
def putAt (l : List Value) (o : Nat) (vs : List Value) : List Value := l.take o ++ vs ++ l.drop (o + vs.length)
theorem RowIs.sets {g : Nat} {t : TypeId} : ∀ (vs : List Value) {w : World} {l : List Value} (o : Nat), RowIs w g t l → o + vs.length ≤ l.length → RowIs (w.setCells g o vs) g t (putAt l o vs)
  | [], w, l, o, h, _ => by simpa [World.setCells, putAt] using h
  | v :: r, w, l, o, h, hl => by
    rw [World.setCells]
    have := RowIs.sets r (o + 1) (h.set o v) (by simp at hl ⊢; omega)
    unfold putAt at *
    have e := list_seg_step l o v r (by simpa using hl)
    rw [e] at this
    simpa [Nat.add_assoc, Nat.add_comm] using this
theorem heap_setCells (b : Nat) : ∀ (vs : List Value) (o : Nat) (w : World) (k : Nat), k ≠ b → (w.setCells b o vs).heap[k]? = w.heap[k]?
  | [], _, _, _, _ => rfl
  | v :: r, o, w, k, h => by rw [World.setCells, heap_setCells b r (o + 1) _ k h, Below.heap_setCell _ _ _ _ h]
theorem size_setCells (b : Nat) : ∀ (vs : List Value) (o : Nat) (w : World), (w.setCells b o vs).heap.size = w.heap.size
  | [], _, _ => rfl
  | v :: r, o, w => by rw [World.setCells, size_setCells b r (o + 1)]; simp [World.setCell]
theorem rest_setCells (b : Nat) : ∀ (vs : List Value) (o : Nat) (w : World), (w.setCells b o vs).os = w.os ∧ (w.setCells b o vs).tape = w.tape ∧ (w.setCells b o vs).output = w.output
  | [], _, _ => ⟨rfl, rfl, rfl⟩
  | v :: r, o, w => by rw [World.setCells]; exact rest_setCells b r (o + 1) _

/-- Every block but b is as it was. -/
structure Upon (b : Nat) (w w' : World) : Prop where
  os : w'.os = w.os
  tape : w'.tape = w.tape
  output : w'.output = w.output
  size : w.heap.size ≤ w'.heap.size
  block : ∀ k, k < w.heap.size → k ≠ b → w'.heap[k]? = w.heap[k]?

theorem Upon.refl (b : Nat) (w : World) : Upon b w w := ⟨rfl, rfl, rfl, Nat.le_refl _, fun _ _ _ => rfl⟩
theorem Upon.trans {b : Nat} {u v w : World} (h : Upon b u v) (k : Upon b v w) : Upon b u w :=
  ⟨k.os.trans h.os, k.tape.trans h.tape, k.output.trans h.output, Nat.le_trans h.size k.size, fun i hi hb => (k.block i (Nat.lt_of_lt_of_le hi h.size) hb).trans (h.block i hi hb)⟩
theorem Upon.of_below {b : Nat} {w w' : World} (h : Below w.heap.size w w') : Upon b w w' := ⟨h.os, h.tape, h.output, h.size, fun k hk _ => h.block k hk⟩
theorem Upon.drew {b : Nat} {u w : World} (h : Upon b u w) : Upon b u w.drew := ⟨h.os, h.tape, h.output, h.size, h.block⟩
theorem Upon.alloc {b : Nat} {u w : World} (h : Upon b u w) (o : Obj) : Upon b u (w.alloc o) :=
  h.trans (Upon.of_below ((Below.refl _ _).alloc (Nat.le_refl _) o))
theorem Upon.setCell {b : Nat} {u w : World} (h : Upon b u w) (j : Nat) (v : Value) : Upon b u (w.setCell ⟨b, j, none⟩ v) :=
  h.trans ⟨rfl, rfl, rfl, by simp [World.setCell], fun k _ hb => Below.heap_setCell _ _ _ _ hb⟩
theorem Upon.setNew {b : Nat} {u w : World} (h : Upon b u w) {a : Addr} (ha : u.heap.size ≤ a.block) (v : Value) : Upon b u (w.setCell a v) :=
  ⟨h.os, h.tape, h.output, by simp [World.setCell]; exact h.size, fun k hk hb => by rw [Below.heap_setCell _ _ _ _ (by omega)]; exact h.block k hk hb⟩
theorem Upon.setCells {b : Nat} {u w : World} (h : Upon b u w) (o : Nat) (vs : List Value) : Upon b u (w.setCells b o vs) :=
  h.trans ⟨(rest_setCells b vs o w).1, (rest_setCells b vs o w).2.1, (rest_setCells b vs o w).2.2, by rw [size_setCells]; exact Nat.le_refl _, fun k _ hb => heap_setCells _ _ _ _ _ hb⟩
theorem Upon.below {b : Nat} {w w' : World} (h : Upon b w w') {B : Nat} (hb : B ≤ b) (hB : B ≤ w.heap.size) : Below B w w' :=
  ⟨h.os, h.tape, h.output, h.size, fun k hk => h.block k (by omega) (by omega)⟩
theorem Upon.row {b : Nat} {w w' : World} (h : Upon b w w') {g : Nat} {t : TypeId} {l : List Value} (hr : RowIs w g t l) (hg : g ≠ b) : RowIs w' g t l := by
  have hl := hr.lt
  unfold RowIs at *
  rw [h.block g hl hg]; exact hr
theorem bel_setCells {B : Nat} {u w : World} (h : Below B u w) {b : Nat} (hb : B ≤ b) (o : Nat) (vs : List Value) : Below B u (w.setCells b o vs) :=
  h.trans ⟨(rest_setCells b vs o w).1, (rest_setCells b vs o w).2.1, (rest_setCells b vs o w).2.2, by rw [size_setCells]; exact Nat.le_refl _, fun k hk => heap_setCells _ _ _ _ _ (by omega)⟩

/-- An operation whose run is known. -/
theorem wpList_value {P : Program} {ops : Array Oper} {rest : List Oper} {op : Oper} {a : Act} {w w' : World} {Q : Exit → Act → World → Prop} {v : Value} (hgd : op.guard = none)
    (hr : (execOp a.eval op).run P w = .ok (.value v) w') (h : wpList P ops Q rest (a.put op.dst v) w') : wpList P ops Q (op :: rest) a w :=
  wpList_plain hgd fun _ hK => by
    unfold Oper.wp
    rw [hr]
    exact hK _ _ h
/-- A struct or an array that is built. -/
theorem wpList_build {P : Program} {ops : Array Oper} {rest : List Oper} {op : Oper} {a : Act} {w : World} {Q : Exit → Act → World → Prop} (hgd : op.guard = none) (t : TypeId) (parts : Array (Nat × Operand)) (ho : op.op = .build t parts)
    (cells : Array Value) (hb : P.built t (parts.map fun (i, x) => (i, a.eval x)).toList = some cells)
    (h : wpList P ops Q rest (a.put op.dst (.agg cells)) w) : wpList P ops Q (op :: rest) a w := by
  refine wpList_value hgd (w' := w) ?_ h
  unfold execOp
  simp only [ho, Sem.run_bind, run_build w t _ cells hb]
  rfl
/-- A new variable, all zero. -/
theorem run_alloc_zero {P : Program} (t : TypeId) (i : TypeInfo) (z : Value) (hi : P.info? t = some i) (hz : i.zero = some z) (w : World) : (Instr.alloc t true (.tuple #[])).run P w = .ok (.pointer (some ⟨w.heap.size, 0, none⟩)) (w.alloc (.cells z.cells t)) := by
  simp [Instr.alloc, zeroValue, typeInfo, hi, hz, newVar, newRow]
theorem cell_set_other {w : World} {b i j : Nat} {v x : Value} (h : w.cell? ⟨b, j, none⟩ = some x) (hn : j ≠ i) : ((w.setCell ⟨b, i, none⟩ v).drew).cell? ⟨b, j, none⟩ = some x := by
  rw [World.cell?_drew]
  exact (World.cell?_setCell_other w ⟨b, i, none⟩ ⟨b, j, none⟩ v (fun e => hn (by injection e with _ e2 _; first | exact e2 | exact e2.symm))).trans h
/-- A new variable, at the list of a plain region's operations. -/
theorem wpList_alloc {P : Program} {ops : Array Oper} {rest : List Oper} {op : Oper} {a : Act} {w : World} {Q : Exit → Act → World → Prop} {t : TypeId} {z : Array Value} (hgd : op.guard = none) (ho : op.op = .alloc t)
    (hz : ∀ w, (Instr.alloc t true (.tuple #[])).run P w = .ok (.pointer (some ⟨w.heap.size, 0, none⟩)) (w.alloc (.cells z t)))
    (h : wpList P ops Q rest (a.put op.dst (.pointer (some ⟨w.heap.size, 0, none⟩))) (w.alloc (.cells z t))) : wpList P ops Q (op :: rest) a w := by
  refine wpList_value hgd (w' := w.alloc (.cells z t)) ?_ h
  unfold execOp
  simp only [ho, Sem.run_bind, hz]
  rfl
/-- The same, the new block's number said. -/
theorem wpList_allocN {P : Program} {ops : Array Oper} {rest : List Oper} {op : Oper} {a : Act} {w : World} {Q : Exit → Act → World → Prop} {t : TypeId} {z : Array Value} (hgd : op.guard = none) (ho : op.op = .alloc t)
    (hz : ∀ w, (Instr.alloc t true (.tuple #[])).run P w = .ok (.pointer (some ⟨w.heap.size, 0, none⟩)) (w.alloc (.cells z t))) (n : Nat) (hn : w.heap.size = n)
    (h : wpList P ops Q rest (a.put op.dst (.pointer (some ⟨n, 0, none⟩))) (w.alloc (.cells z t))) : wpList P ops Q (op :: rest) a w := by
  subst hn
  exact wpList_alloc hgd ho hz h
end Go.Proofs.YtjemklgfenciaaaGreat
