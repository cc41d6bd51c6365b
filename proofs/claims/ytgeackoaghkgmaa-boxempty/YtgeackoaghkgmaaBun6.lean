/-
  Parts of this proof, one behind the other: Sha2.
-/
import Derived.Test.YtgeackoaghkgmaaBun2
import Derived.Test.YtgeackoaghkgmaaBun3

/-
  The contracts of package digest's tables: roundWords, firstState.
-/
namespace Go.Proofs.Ytgeackoaghkgmaa
open Go.RowKit
set_option linter.unusedVariables false
set_option maxRecDepth 100000

def z64 : List Int := List.replicate 64 0
def z8 : List Int := List.replicate 8 0
theorem z64_len : z64.length = 64 := rfl
theorem z8_len : z8.length = 8 := rfl
def cells32 (l : List Int) : List Value := l.map (Value.int .u32)
theorem cells32_len (l : List Int) : (cells32 l).length = l.length := by simp [cells32]
theorem cells32_one (l : List Int) : ∀ v ∈ cells32 l, v.oneCell' = true := by
  intro v hv
  obtain ⟨x, _, rfl⟩ := List.mem_map.1 hv
  rfl
theorem cells32_at (l : List Int) (j : Nat) (h : j < l.length) : (cells32 l)[j]? = some (.int .u32 (l.getD j 0)) := by
  simp [cells32, h, List.getD_eq_getElem?_getD]

theorem zero_parts {P : Program} {t : TypeId} {z : Value} (h : (P.info? t).map (·.zero) = some (some z)) : ∃ i, P.info? t = some i ∧ i.zero = some z := by
  cases hi : P.info? t with
  | none => simp [hi] at h
  | some i => exact ⟨i, rfl, by simpa [hi] using h⟩
/-- The result of one variable of 64 words. -/
theorem results_row {P : Program} {fn : Func} {p : Tmp} {ty : TypeId} (h : fn.results = #[.cell p ty]) (tmps : Array Value) (w : World) (g : Nat) (cs : List Value) (d : TypeDesc)
    (hp : tmps[p]?.getD undef = .pointer (some ⟨g, 0, none⟩)) (hc : w.rangeAt g 0 cs) (hu : P.underlying ty = some d) (hd : d.isRow = true) (hi : (P.info? ty).map (·.size) = some cs.length) :
    (results fn tmps).run P w = .ok (.agg cs.toArray) w := by
  simp [results, h, hp, asAddr, run_loadVar_mid w g 0 ty cs d hc hu hd hi]

def kCells : List Value := cells32 kTab
theorem kCells_len : kCells.length = 64 := rfl
theorem kCells_one : kCells.toArray.all (·.oneCell') = true := all_oneCell_toArray (cells32_one _)

end Go.Proofs.Ytgeackoaghkgmaa
