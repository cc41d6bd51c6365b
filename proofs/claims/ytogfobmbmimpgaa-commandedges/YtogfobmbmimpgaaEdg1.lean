/-
  What CommandEdges asks of Right.
-/
import Derived.Test.YtogfobmbmimpgaaEdg0
namespace Go.Proofs.Ytogfobmbmimpgaa
open Go.RowKit
set_option linter.unusedVariables false
set_option maxRecDepth 100000
set_option linter.unusedSimpArgs false

theorem infoC : (Try.prog.info? 23).map (fun i => (i.zero, i.size, i.bytes)) = some (some (.agg #[.int .i64 0, .string ⟨#[]⟩, .string ⟨#[]⟩, .int .i64 0, .int .i64 0]), 5, 56) := by kernel_rfl
theorem cRow_one (op : Int) (k v : ByteArray) (nu ve : Int) : ∀ x ∈ ([.int .i64 op, .string k, .string v, .int .i64 nu, .int .i64 ve] : List Value), x.oneCell' = true := by
  intro x hx
  simp at hx
  rcases hx with rfl | rfl | rfl | rfl | rfl <;> rfl
theorem row_touch {S : Nat → Prop} {w w' : World} {g : Nat} {t : TypeId} {l : List Value} (h : RowIs w g t l) (ht : Touch S w w') (hn : ¬ S g) : RowIs w' g t l := by
  show w'.heap[g]? = _
  rw [ht.block g h.lt hn]
  exact h
theorem right_yes {op : Int} {k v : ByteArray} {nu ve : Int} (hop : IsOp op) (hk : keyOk op k.size ∧ k.size ≤ 60) (hv : v.size ≤ 500) (hn : NumsOk nu ve) : Cmd.right ⟨op, k, v, nu, ve⟩ = true :=
  decide_eq_true ⟨hop, hk.1, hk.2, hv, hn.1, hn.2⟩
theorem right_num {op : Int} {k v : ByteArray} {nu ve : Int} (hn : ¬ NumsOk nu ve) : Cmd.right ⟨op, k, v, nu, ve⟩ = false :=
  decide_eq_false (fun h => hn ⟨h.2.2.2.2.1, h.2.2.2.2.2⟩)
theorem right_val {op : Int} {k v : ByteArray} {nu ve : Int} (hv : ¬ v.size ≤ 500) : Cmd.right ⟨op, k, v, nu, ve⟩ = false :=
  decide_eq_false (fun h => hv h.2.2.2.1)
theorem right_key {op : Int} {k v : ByteArray} {nu ve : Int} (hk : ¬ (keyOk op k.size ∧ k.size ≤ 60)) : Cmd.right ⟨op, k, v, nu, ve⟩ = false :=
  decide_eq_false (fun h => hk ⟨h.2.1, h.2.2.1⟩)
theorem keyOk_some (op : Int) (n : Nat) (h1 : (op == 12) = false) (h2 : (op == 13) = false) (hn : 1 ≤ n ∧ n ≤ 60) : keyOk op n ∧ n ≤ 60 := by
  have h1' : ¬ op = 12 := by simpa using h1
  have h2' : ¬ op = 13 := by simpa using h2
  refine ⟨?_, hn.2⟩
  unfold keyOk
  split
  · trivial
  · rw [if_neg (by omega)]; exact hn.1
theorem keyOk_one (op : Int) (h1 : (op == 12) = false) (h2 : (op == 13) = false) : keyOk op (⟨#[107]⟩ : ByteArray).size ∧ (⟨#[107]⟩ : ByteArray).size ≤ 60 := keyOk_some op _ h1 h2 (by decide)
theorem keyOk_sixty (op : Int) (h1 : (op == 12) = false) (h2 : (op == 13) = false) : keyOk op (zeros 60).size ∧ (zeros 60).size ≤ 60 := keyOk_some op _ h1 h2 (by rw [zeros_size]; decide)
theorem right_scan {op : Int} (hop : IsOp op) (h1 : (op == 12) = false) (h2 : (op == 13) = false) : Cmd.right ⟨op, ⟨#[]⟩, ⟨#[]⟩, 0, 0⟩ = (op == 11) := by
  have h1' : ¬ op = 12 := by simpa using h1
  have h2' : ¬ op = 13 := by simpa using h2
  by_cases h : op = 11
  · subst h
    rfl
  · rw [show (op == 11) = false by simpa using h]
    refine right_key (fun hk => ?_)
    have h3 := (keyOk_other h (by omega)).1 hk
    exact absurd h3.1 (by decide)

end Go.Proofs.Ytogfobmbmimpgaa
