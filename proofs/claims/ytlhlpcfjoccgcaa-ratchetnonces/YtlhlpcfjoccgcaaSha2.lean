/-
  The contracts of package digest's tables: roundWords, firstState.
-/
import Derived.Test.YtlhlpcfjoccgcaaSha1
import Derived.Test.YtlhlpcfjoccgcaaMem0
namespace Go.Proofs.Ytlhlpcfjoccgcaa
open Go.RowKit
set_option linter.unusedVariables false
set_option maxRecDepth 100000

def z64 : List Int := List.replicate 64 0
def z8 : List Int := List.replicate 8 0
theorem z64_len : z64.length = 64 := rfl
theorem z8_len : z8.length = 8 := rfl
def cells32 (l : List Int) : List Value := l.map (Value.int .u32)
theorem cells32_len (l : List Int) : (cells32 l).length = l.length := by simp [cells32]
theorem cells32_one (l : List Int) : ∀ v ∈ cells32 l, v.oneCell' = true := by
  intro v hv
  obtain ⟨x, _, rfl⟩ := List.mem_map.1 hv
  rfl
theorem cells32_at (l : List Int) (j : Nat) (h : j < l.length) : (cells32 l)[j]? = some (.int .u32 (l.getD j 0)) := by
  simp [cells32, h, List.getD_eq_getElem?_getD]

theorem size64 : (Try.prog.info? 76).map (·.size) = some 64 := by kernel_rfl
theorem size8 : (Try.prog.info? 88).map (·.size) = some 8 := by kernel_rfl
theorem zero64 : (Try.prog.info? 76).map (·.zero) = some (some (.agg (cells32 z64).toArray)) := by kernel_rfl
theorem zero8 : (Try.prog.info? 88).map (·.zero) = some (some (.agg (cells32 z8).toArray)) := by kernel_rfl
theorem zero_parts {P : Program} {t : TypeId} {z : Value} (h : (P.info? t).map (·.zero) = some (some z)) : ∃ i, P.info? t = some i ∧ i.zero = some z := by
  cases hi : P.info? t with
  | none => simp [hi] at h
  | some i => exact ⟨i, rfl, by simpa [hi] using h⟩
theorem run_alloc64 (w : World) : (Instr.alloc 76 true (.tuple #[])).run Try.prog w = .ok (.pointer (some ⟨w.heap.size, 0, none⟩)) (w.alloc (.cells (cells32 z64).toArray 76)) := by
  obtain ⟨i, hi, hz⟩ := zero_parts zero64
  exact run_alloc_zero _ i _ hi hz w
theorem run_alloc8 (w : World) : (Instr.alloc 88 true (.tuple #[])).run Try.prog w = .ok (.pointer (some ⟨w.heap.size, 0, none⟩)) (w.alloc (.cells (cells32 z8).toArray 88)) := by
  obtain ⟨i, hi, hz⟩ := zero_parts zero8
  exact run_alloc_zero _ i _ hi hz w

set_option maxRecDepth 100000 in
theorem dig_firstState (w : World) :
    Calls Try.prog 69 #[] w fun e w' => e = .returned (.agg (cells32 hZero.list).toArray) ∧ Below w.heap.size w w' := by
  go_enter Try.func69, Try.ntmps69
  go_wp2
  exact bodyPost_ret (v := .agg (cells32 hZero.list).toArray) (by simp [results, Try.results69, go_sem, cells32, S8.list, hZero]) rfl ⟨rfl, (Below.refl _ _).alloc (Nat.le_refl _) _⟩

/-- The result of one variable of 64 words. -/
theorem results_row {P : Program} {fn : Func} {p : Tmp} {ty : TypeId} (h : fn.results = #[.cell p ty]) (tmps : Array Value) (w : World) (g : Nat) (cs : List Value) (d : TypeDesc)
    (hp : tmps[p]?.getD undef = .pointer (some ⟨g, 0, none⟩)) (hc : w.rangeAt g 0 cs) (hu : P.underlying ty = some d) (hd : d.isRow = true) (hi : (P.info? ty).map (·.size) = some cs.length) :
    (results fn tmps).run P w = .ok (.agg cs.toArray) w := by
  simp [results, h, hp, asAddr, run_loadVar_mid w g 0 ty cs d hc hu hd hi]

def kCells : List Value := cells32 kTab
theorem kCells_len : kCells.length = 64 := rfl
theorem kCells_one : kCells.toArray.all (·.oneCell') = true := all_oneCell_toArray (cells32_one _)

set_option maxRecDepth 100000 in
set_option maxHeartbeats 1000000 in
theorem dig_roundWords (w : World) :
    Calls Try.prog 68 #[] w fun e w' => e = .returned (.agg (cells32 kTab).toArray) ∧ Below w.heap.size w w' := by
  have hrow : RowIs (w.alloc (.cells (cells32 z64).toArray 76)) w.heap.size 76 (cells32 z64) := RowIs.new _ _ _
  have hbel : Below w.heap.size w (w.alloc (.cells (cells32 z64).toArray 76)) := (Below.refl _ _).alloc (Nat.le_refl _) _
  go_enter Try.func68, Try.ntmps68
  go_wp2_with (first | (refine wpList_value rfl (v := .pointer (some ⟨w.heap.size, 0, none⟩)) (w' := w.alloc (.cells (cells32 z64).toArray 76)) (by unfold execOp; simp only [Sem.run_bind, run_alloc64]; rfl) ?_) | (refine wpList_build rfl 76 _ rfl kCells.toArray (by kernel_rfl) ?_) | (refine wpList_store_mid rfl 76 _ _ rfl w.heap.size 0 kCells.toArray rfl rfl (hrow.there (by decide)) size64 kCells_one ?_))
  refine bodyPost_ret (v := .agg kCells.toArray) (results_row rfl _ _ w.heap.size kCells _ (by simp [Act.put]) ?_ Try.underlying76 rfl size64) rfl ⟨rfl, bel_setCells hbel (Nat.le_refl _) _ _⟩
  exact World.rangeAt_setCells_same _ _ _ _ (hrow.there (by decide))

end Go.Proofs.Ytlhlpcfjoccgcaa
