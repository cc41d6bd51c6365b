/-
  The contracts of package octet's PutBig and PutLittle, and of the reference's.
-/
import Derived.Test.YtjemklgfenciaaaOct1
import Derived.Laws.IdiomStrings
namespace Go.Proofs.Ytjemklgfenciaaa
open Go.RowKit
set_option linter.unusedVariables false
set_option maxRecDepth 100000

theorem info8 : (Try.prog.info? 5).map (fun i => (i.zero, i.size, i.bytes)) = some (some (.int .u8 0), 1, 1) := by kernel_rfl

theorem cells8_len (l : List UInt8) : (cells8 l).length = l.length := by simp [cells8]
theorem cells8_at (l : List UInt8) (j : Nat) (h : j < l.length) : (cells8 l)[j]? = some (.int .u8 (l[j].toNat : Int)) := by
  simp [cells8, h, cell8]
theorem cells8_set (l : List UInt8) (j : Nat) (b : UInt8) : (cells8 l).set j (cell8 b) = cells8 (l.set j b) := by
  simp [cells8, List.map_set]
theorem made8 (n : Nat) : (madeCells #[.int .u8 0] n).toList = cells8 (List.replicate n 0) := by
  rw [toList_madeCells_one]
  simp [cells8, cell8]

/-- A row of bytes that the call made, as a string. -/
theorem own_string {wr : World} {base g n cap : Nat} {l : List UInt8} (h : wr.ownsRow base 5 1 (.slice (some ⟨g, 0, none⟩) n cap) n (cells8 l)) :
    (convert 35 9 (.slice (some ⟨g, 0, none⟩) n cap)).run Try.prog wr = .ok (.string (str l)) wr := by
  have hl : n = l.length := by have := h.1; rw [cells8_len] at this; omega
  subst hl
  refine run_convert_bytes_back wr _ _ 5 ⟨g, 0, none⟩ cap l Try.underlying35 Try.underlying5 Try.underlying9 ?_
  intro j hj
  have := h.cellAt j (by omega)
  rw [cells8_at l j hj] at this
  rw [show (⟨g, 0, none⟩ : Addr).add j = ⟨g, j, none⟩ from by simp [Addr.add]; exact fun h => h.symm]; exact this

/-- A byte stored into such a row. -/
theorem own_store {w wr : World} {base g n cap : Nat} {l : List UInt8} (h : wr.ownsRow base 5 1 (.slice (some ⟨g, 0, none⟩) n cap) n (cells8 l)) (hb : Below base w wr) (hg : base ≤ g) (j : Nat) (b : UInt8) :
    (wr.setCell ⟨g, j, none⟩ (.int .u8 (b.toNat : Int))).ownsRow base 5 1 (.slice (some ⟨g, 0, none⟩) n cap) n (cells8 (l.set j b)) ∧ Below base w (wr.setCell ⟨g, j, none⟩ (.int .u8 (b.toNat : Int))) := by
  have := (h.stored j (cell8 b)).1
  rw [cells8_set] at this
  exact ⟨this, hb.setCell hg _⟩

theorem set_back {l : List UInt8} {n k : Nat} {f : Nat → UInt8} (hl : l.length = n) (h : ∀ j, j < k → l[n - 1 - j]? = some (f j)) (hk : k < n) :
    ∀ j, j < k + 1 → (l.set (n - 1 - k) (f k))[n - 1 - j]? = some (f j) := by
  intro j hj
  rw [List.getElem?_set]
  by_cases e : j = k
  · subst e; rw [if_pos rfl, if_pos (by omega)]
  · rw [if_neg (by omega)]; exact h j (by omega)

theorem big_of {l : List UInt8} {n : Nat} {f : Nat → UInt8} (hl : l.length = n) (h : ∀ j, j < n → l[n - 1 - j]? = some (f j)) : l = (List.range n).map (fun j => f (n - 1 - j)) := by
  refine list_eq_map hl fun j hj => ?_
  have := h (n - 1 - j) (by omega)
  rwa [show n - 1 - (n - 1 - j) = j from by omega] at this

theorem putBigS_no (v n : Int) (h : ¬ (1 ≤ n ∧ n ≤ 8)) : putBigS v n = ⟨#[]⟩ := by
  unfold putBigS putBig; rw [if_neg h]; rfl
theorem putLittleS_no (v n : Int) (h : ¬ (1 ≤ n ∧ n ≤ 8)) : putLittleS v n = ⟨#[]⟩ := by
  unfold putLittleS putLittle; rw [if_neg h]; rfl
theorem ret_str {a b : ByteArray} (h : a = b) : Ending.returned (.string a) = .returned (.string b) := by rw [h]

theorem set_fore {l : List UInt8} {n k : Nat} {f : Nat → UInt8} (hl : l.length = n) (h : ∀ j, j < k → l[j]? = some (f j)) (hk : k < n) :
    ∀ j, j < k + 1 → (l.set k (f k))[j]? = some (f j) := by
  intro j hj
  rw [List.getElem?_set]
  by_cases e : k = j
  · subst e; rw [if_pos rfl, if_pos (by omega)]
  · rw [if_neg e]; exact h j (by omega)

end Go.Proofs.Ytjemklgfenciaaa
