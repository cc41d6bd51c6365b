/-
  A set of whole numbers in a map that the call makes (map[int]bool, true alone is stored): looked up, stored to, kept.
-/
import Derived.Test.YtmpmhepaonifpaaProg
import Derived.Test.YtmpmhepaonifpaaBok0
import Derived.Maps.Own
import Derived.Maps.Views
namespace Go.Proofs.Ytmpmhepaonifpaa
open Go.RowKit Go.Maps
set_option linter.unusedVariables false
set_option maxRecDepth 100000
set_option linter.unusedSimpArgs false

theorem keyInt : Keyed Try.prog 3 := int_keyed Try.underlying3
theorem zeroBool (w : World) : (zeroValue 4).run Try.prog w = .ok (.bool false) w := by kernel_rfl
theorem plainElem_bool_inv {H : Type} {P : Program} {e : TypeId} (he : P.underlying e = some .bool) {v : Value} {z : DataW H × List MemPlace} (h : plainElem P e v = some z) : ∃ x, v = .bool x ∧ z = (.lit (.bool x), []) := by
  unfold plainElem at h
  rw [he] at h
  cases v <;> simp at h
  subst h
  exact ⟨_, rfl, rfl⟩
/-- Block b of w is a map of at most m entries, in which just the numbers of T are true. -/
def HadAt (w : World) (b m : Nat) (T : List Int) : Prop :=
  ∃ D : DataW Unit, w.ownsMap Try.prog 3 (plainElem Try.prog 4) b m D ∧ IsMap D ∧ ∀ x : Int, (Lit.int .i64 x).wf = true → D.atKey (.int .i64 x) (.lit (.bool false)) = .lit (.bool (decide (x ∈ T)))
theorem had_new (w : World) : HadAt (w.alloc (.map #[] 0)) w.heap.size 0 [] :=
  ⟨.map [], World.ownsMap_made w _ _ _, isMap_empty, fun x _ => by
    simp only [List.not_mem_nil, decide_false]
    rfl⟩
theorem HadAt.lt {w : World} {b m : Nat} {T : List Int} (h : HadAt w b m T) : b < w.heap.size := by
  obtain ⟨D, ho, _⟩ := h
  exact ho.lt
theorem HadAt.touch {S : Nat → Prop} {w w' : World} {b m : Nat} {T : List Int} (h : HadAt w b m T) (ht : Touch S w w') (hn : ¬ S b) : HadAt w' b m T := by
  have hlt := h.lt
  obtain ⟨D, ⟨es, clock, hb, F, hs, hD⟩, h2, h3⟩ := h
  exact ⟨D, ⟨es, clock, (ht.block b hlt hn).trans hb, F, hs, hD⟩, h2, h3⟩
theorem HadAt.below {w w' : World} {b m : Nat} {T : List Int} (h : HadAt w b m T) (hb : Below w.heap.size w w') : HadAt w' b m T := h.touch (Touch.of_below (S := fun _ => False) hb) (fun x => x)
theorem HadAt.look {w : World} {b m : Nat} {T : List Int} (h : HadAt w b m T) (x : Int) (hx : (Lit.int .i64 x).wf = true) : (Instr.lookup 33 (.map (some b)) (.int .i64 x) false).run Try.prog w = .ok (.bool (decide (x ∈ T))) w := by
  obtain ⟨D, ho, _, h3⟩ := h
  obtain ⟨v, ps, hrun, hv⟩ := ho.lookup keyInt Try.underlying33 (zeroBool w) (plainElem_bool Try.underlying4 false) (keyOf_int_mk Try.underlying3 hx)
  obtain ⟨c, rfl, hc⟩ := plainElem_bool_inv Try.underlying4 hv
  simp only [Prod.mk.injEq] at hc
  have := hc.1.symm.trans (h3 x hx)
  simp at this
  rw [hrun, this]
theorem HadAt.store {w : World} {b m : Nat} {T : List Int} (h : HadAt w b m T) (hm : m < 1000000) (x : Int) (hx : (Lit.int .i64 x).wf = true) : ∃ w', (Instr.mapUpdate 33 (.map (some b)) (.int .i64 x) (.bool true)).run Try.prog w = .ok () w' ∧ HadAt w' b (m + 1) (x :: T) ∧ w.grownBy w' (some b) := by
  obtain ⟨D, ho, h2, h3⟩ := h
  obtain ⟨w', hrun, ho', hg⟩ := ho.update (R := plainElem Try.prog 4) keyInt Try.underlying33 (by unfold maxLen; omega) (keyOf_int_mk Try.underlying3 hx) (plainElem_bool Try.underlying4 true)
  refine ⟨w', hrun, ⟨_, ho', h2.put _ _, fun y hy => ?_⟩, hg⟩
  by_cases hxy : y = x
  · subst hxy
    rw [atKey_put_same h2 (by trivial)]
    simp
  · rw [atKey_put_other (by simpa using hxy), h3 y hy]
    simp [hxy]
end Go.Proofs.Ytmpmhepaonifpaa
