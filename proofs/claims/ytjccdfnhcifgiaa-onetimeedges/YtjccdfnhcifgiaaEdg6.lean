/-
  Helpers for the law OnetimeEdges: places by remainders, rows that lie apart.
-/
import Derived.Test.YtjccdfnhcifgiaaRefQ
import Derived.Test.YtjccdfnhcifgiaaSha6
namespace Go.Proofs.Ytjccdfnhcifgiaa
open Go.RowKit
set_option linter.unusedVariables false
set_option maxRecDepth 100000

theorem owns_other {w : World} {base g n cap size : Nat} {e : TypeId} {xs : List Value} (h : w.ownsRow base e size (.slice (some ⟨g, 0, none⟩) n cap) n xs) {a : Addr} (ha : g ≠ a.block) (v : Value) : (w.setCell a v).ownsRow base e size (.slice (some ⟨g, 0, none⟩) n cap) n xs := by
  refine ⟨h.1, ?_⟩
  rcases h.2 with hn | ⟨g', cap', cur, hv, hg, hh, r⟩
  · exact Or.inl hn
  · have hv2 := hv
    simp only [Value.slice.injEq, Option.some.injEq, Addr.mk.injEq, and_true, true_and] at hv2
    exact Or.inr ⟨g', cap', cur, hv, hg, by rw [Below.heap_setCell _ _ _ _ (by rw [← hv2.1]; exact ha)]; exact hh, r⟩
/-- '(at%n+n)%n' is a place. -/
theorem place_of (a : Int) (n : Nat) (hn : 0 < n) : (-(n : Int) < a.tmod n ∧ a.tmod n < n) ∧ ∃ J : Nat, J < n ∧ (a.tmod n + n).tmod n = (J : Int) := by
  have hp : (0 : Int) < (n : Int) := by omega
  have h1 := Int.tmod_lt_of_pos a hp
  have h2 : -(n : Int) < a.tmod n := by
    rcases Int.le_total 0 a with h | h
    · have := Int.tmod_nonneg (n : Int) h
      omega
    · have h5 := Int.tmod_lt_of_pos (-a) hp
      rw [Int.neg_tmod] at h5
      omega
  refine ⟨⟨h2, h1⟩, ((a.tmod n + n).tmod n).toNat, ?_, ?_⟩
  · have h3 := Int.tmod_lt_of_pos (a.tmod n + n) hp
    omega
  · have h4 : 0 ≤ (a.tmod n + n).tmod n := Int.tmod_nonneg _ (by omega)
    omega
theorem cell_kept {l : List UInt8} {j : Nat} {n : Nat} (h : l.length = n) (hj : j < n) (b : UInt8) : (l.set j b).length = n := by rw [List.length_set, h]
theorem byte_of_int (c : Int) (h0 : 0 ≤ c) (h1 : c < 256) : ((UInt8.ofNat c.toNat).toNat : Int) = c := by
  rw [UInt8.toNat_ofNat']; omega

end Go.Proofs.Ytjccdfnhcifgiaa
