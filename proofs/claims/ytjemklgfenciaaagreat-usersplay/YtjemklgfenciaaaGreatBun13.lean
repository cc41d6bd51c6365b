/-
  Parts of this proof, one behind the other: Strs0.
-/
import Derived.Test.YtjemklgfenciaaaGreatBun3
import Derived.Test.YtjemklgfenciaaaGreatBun4
import Derived.Deep.Strs
import Derived.Carry

/-
  A slice of strings that came in, opened; and what is read of it in a later world.
-/
namespace Go.Proofs.YtjemklgfenciaaaGreat
open Go.ChangeShapes Go.WideShapes Go.RowKit
set_option linter.unusedVariables false
set_option maxRecDepth 100000

theorem strCellsOf : Tryz.prog.cellsOf 9 = 1 := by kernel_rfl
/-- What a slice of strings holds: its n texts. -/
def StrsAt (w : World) (oa : Option Addr) (n : Nat) (L : Nat → List UInt8) : Prop := ∀ i, i < n → ∃ b o, oa = some ⟨b, o, none⟩ ∧ w.cell? ⟨b, o + i, none⟩ = some (.string (str (L i)))
theorem strs_open {H : Type} {enc : TypeId × Value → H} {W : World} {v : Value} {d : DataW H} {ps : List MemPlace} {base : Nat}
    (hv : Value.okWide Tryz.prog W .any base 47 v) (h : DataW.Trod enc Tryz.prog W 0 (fun _ => true) true 47 v d ps) :
    ∃ oa n cap L, v = .slice oa n cap ∧ n ≤ maxLen ∧ StrsAt W oa n L := by
  obtain ⟨oa, n, cap, rfl⟩ := okWide_slice Tryz.underlying47 hv
  obtain ⟨fuel, hf⟩ := h
  rcases Deep.open_strs Tryz.underlying47 Tryz.underlying9 strCellsOf hf with ⟨hcs, hx⟩ | ⟨a, len', cap', m, Sx, hcs, _, hl, hm, hmm, hx, hcell⟩
  · simp [Value.cells] at hcs
    obtain ⟨rfl, rfl, rfl⟩ := hcs
    exact ⟨none, 0, 0, fun _ => [], rfl, by omega, fun i hi => absurd hi (by omega)⟩
  · simp [Value.cells] at hcs
    obtain ⟨rfl, rfl, rfl⟩ := hcs
    refine ⟨some a, n, cap, fun i => (Sx i).data.toList, rfl, by omega, ?_⟩
    simp only [if_true] at hmm
    obtain ⟨b, off, spot⟩ := a
    intro i hi
    have hc := (hcell i (by omega)).1
    have hspot : spot = none := by simpa [Addr.add] using World.cell?_spot (hcell 0 (by omega)).1
    subst hspot
    refine ⟨b, off, rfl, ?_⟩
    rw [Addr.add_mid] at hc
    rw [hc, str_back]
/-- The texts of the first k, one behind the other. -/
def joinTo (L : Nat → List UInt8) : Nat → List UInt8
  | 0 => []
  | k + 1 => joinTo L k ++ L k
theorem StrsAt.later {w w' : World} {oa : Option Addr} {n : Nat} {L : Nat → List UInt8} (h : StrsAt w oa n L) (hb : Below w.heap.size w w') : StrsAt w' oa n L := by
  intro i hi
  obtain ⟨b, o, ho, hc⟩ := h i hi
  refine ⟨b, o, ho, ?_⟩
  have hl : b < w.heap.size := World.block_lt_of_cell? w _ hc
  rw [hb.cell (p := ⟨b, o + i, none⟩) hl, hc]

theorem joinTo_len {L : Nat → List UInt8} {k m : Nat} (h : ∀ i, i < k → (L i).length ≤ m) : (joinTo L k).length ≤ m * k := by
  induction k with
  | zero => simp [joinTo]
  | succ k ih =>
    have h1 := ih fun i hi => h i (by omega)
    have h2 := h k (by omega)
    rw [joinTo, List.length_append, Nat.mul_succ]
    omega
end Go.Proofs.YtjemklgfenciaaaGreat
