/-
  Parts of this proof, one behind the other: Ints0.
-/
import Derived.Test.YtanghehmfagmfaaGreatDoorBun2
import Derived.Test.YtanghehmfagmfaaGreatDoorBun1
import Derived.ChangeSlices
import Derived.OpenShut
import Derived.Carry

/-
  A slice of whole numbers that came in, opened; and what is read of it in a later world.
-/
namespace Go.Proofs.YtanghehmfagmfaaGreatDoor
open Go.ChangeShapes Go.WideShapes Go.RowKit
set_option linter.unusedVariables false
set_option maxRecDepth 100000

theorem intCellsOf : Tryz.prog.cellsOf 3 = 1 := by kernel_rfl
/-- A slice of whole numbers that came in. -/
def IntsAt (w : World) (oa : Option Addr) (n : Nat) (C : Nat → Int) : Prop := ∀ i, i < n → ∃ b o, oa = some ⟨b, o, none⟩ ∧ w.cell? ⟨b, o + i, none⟩ = some (.int .i64 (C i))
theorem IntsAt.later {w w' : World} {oa : Option Addr} {n : Nat} {C : Nat → Int} (h : IntsAt w oa n C) (hb : Below w.heap.size w w') : IntsAt w' oa n C := by
  intro i hi
  obtain ⟨b, o, ho, hc⟩ := h i hi
  refine ⟨b, o, ho, ?_⟩
  have hl : b < w.heap.size := World.block_lt_of_cell? w _ hc
  rw [hb.cell (p := ⟨b, o + i, none⟩) hl, hc]
theorem ints_open {H : Type} {enc : TypeId × Value → H} {W : World} {v : Value} {d : DataW H} {ps : List MemPlace} {base : Nat}
    (hv : Value.okWide Tryz.prog W .any base 30 v) (h : DataW.Trod enc Tryz.prog W 0 (fun _ => true) true 30 v d ps) :
    ∃ oa n cap C, v = .slice oa n cap ∧ n ≤ maxLen ∧ IntsAt W oa n C ∧ ∀ i, i < n → (Lit.int .i64 (C i)).wf = true := by
  obtain ⟨oa, n, cap, rfl⟩ := okWide_slice Tryz.underlying30 hv
  obtain ⟨fuel, hf⟩ := h
  rcases open_ints Tryz.underlying30 Tryz.underlying3 intCellsOf hf with ⟨hcs, hx⟩ | ⟨a, len', cap', zs, hcs, _, hl, hm, hmm, hx, hcell, hwf⟩
  · simp [Value.cells] at hcs
    obtain ⟨rfl, rfl, rfl⟩ := hcs
    exact ⟨none, 0, 0, fun _ => 0, rfl, by omega, fun i hi => absurd hi (by omega), fun i hi => absurd hi (by omega)⟩
  · simp [Value.cells] at hcs
    obtain ⟨rfl, rfl, rfl⟩ := hcs
    simp only [if_true] at hmm
    refine ⟨some a, n, cap, fun i => zs.getD i 0, rfl, by omega, ?_, fun i hi => hwf _ (by
      show zs.getD i 0 ∈ zs
      rw [List.getD_eq_getElem?_getD, List.getElem?_eq_getElem (by omega)]
      exact List.getElem_mem _)⟩
    obtain ⟨b, off, spot⟩ := a
    intro i hi
    have hc := hcell i (by omega)
    have hspot : spot = none := by simpa [Addr.add] using World.cell?_spot (hcell 0 (by omega))
    subst hspot
    refine ⟨b, off, rfl, ?_⟩
    rw [Addr.add_mid] at hc
    exact hc

end Go.Proofs.YtanghehmfagmfaaGreatDoor
