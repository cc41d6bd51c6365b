/-
  Parts of this proof, one behind the other: Usr6.
-/
import Derived.Test.YtjemklgfenciaaaGreatBun20
import Derived.Test.YtjemklgfenciaaaGreatBun8
import Derived.Laws.OwnMore

/-
  What UsersMany asks: thirty names, no two alike; and a row of users as it grows.
-/
namespace Go.Proofs.YtjemklgfenciaaaGreat
open Go.RowKit
set_option linter.unusedVariables false
set_option maxRecDepth 100000
set_option linter.unusedSimpArgs false

def nmU (k : Nat) : ByteArray := ⟨#[117]⟩ ++ str [UInt8.ofNat (97 + k % 26), UInt8.ofNat (97 + k / 26)]
theorem nmU_ok : ∀ k, k < 30 → nameOkU (nmU k) = true := by decide +kernel
theorem nmU_size : ∀ k, k < 30 → (nmU k).size = 3 := by decide +kernel
theorem nmU_apart : ∀ j, j < 30 → ∀ k, k < 30 → nmU j = nmU k → j = k := by decide +kernel
def manyU (S : ByteArray) (k : Nat) : List NS := (List.range k).map fun j => (nmU j, S)
theorem manyU_len (S : ByteArray) (k : Nat) : (manyU S k).length = k := by unfold manyU; rw [List.length_map, List.length_range]
theorem manyU_more (S : ByteArray) (k : Nat) : manyU S (k + 1) = manyU S k ++ [(nmU k, S)] := by unfold manyU; rw [List.range_succ, List.map_append]; rfl
theorem manyU_at (S : ByteArray) (k j : Nat) (h : j < k) : (manyU S k).getD j nsNone = (nmU j, S) := by
  unfold manyU
  rw [List.getD_eq_getElem?_getD, List.getElem?_map, List.getElem?_range h]
  rfl
theorem manyU_ok (S : ByteArray) (hs : S.size = 32) (k : Nat) (hk : k ≤ 30) : usersOk (manyU S k) = decide (k ≤ 20) := by
  have h2 : (manyU S k).all (fun p => userOkU p.1 p.2) = true := by
    rw [List.all_eq_true]
    intro p hp
    obtain ⟨j, hj, rfl⟩ := List.mem_map.1 hp
    have hj := List.mem_range.1 hj
    show userOkU (nmU j) S = true
    unfold userOkU
    rw [nmU_ok j (by omega), decide_eq_true hs]
    rfl
  have h3 : nodupL ((manyU S k).map Prod.fst) = true := by
    rw [nodupL_iff]
    unfold manyU
    rw [List.map_map]
    unfold List.Nodup
    rw [List.pairwise_map]
    refine List.Pairwise.imp_of_mem ?_ (List.nodup_range (n := k))
    intro a b ha hb hne e
    exact hne (nmU_apart a (by have := List.mem_range.1 ha; omega) b (by have := List.mem_range.1 hb; omega) e)
  unfold usersOk
  rw [h2, h3, manyU_len, Bool.and_true, Bool.and_true]
theorem manyU_twice (S : ByteArray) (k : Nat) (hk : 1 < k) : usersOk ((manyU S k).set (k - 1) (nmU 0, S)) = false := by
  have h3 : nodupL (((manyU S k).set (k - 1) (nmU 0, S)).map Prod.fst) = false := by
    cases h : nodupL (((manyU S k).set (k - 1) (nmU 0, S)).map Prod.fst) with
    | false => rfl
    | true =>
      have hn := (nodupL_iff _).1 h
      have hl : (((manyU S k).set (k - 1) (nmU 0, S)).map Prod.fst).length = k := by rw [List.length_map, List.length_set, manyU_len]
      have e0 : (((manyU S k).set (k - 1) (nmU 0, S)).map Prod.fst)[0]'(by omega) = nmU 0 := by
        rw [List.getElem_map, List.getElem_set_ne (by omega)]
        unfold manyU
        simp
      have e1 : (((manyU S k).set (k - 1) (nmU 0, S)).map Prod.fst)[k - 1]'(by omega) = nmU 0 := by
        rw [List.getElem_map, List.getElem_set_self]
      have := (List.getElem_inj (h₀ := by omega) (h₁ := by omega) hn).1 (e0.trans e1.symm)
      omega
  unfold usersOk
  rw [h3, Bool.and_false]
theorem cellsP_setName : ∀ (L : List NS) (j : Nat) (x : ByteArray), j < L.length → (cellsP L).set (j * 2) (.string x) = cellsP (L.set j (x, (L.getD j nsNone).2))
  | [], j, x, h => absurd h (by simp)
  | p :: r, 0, x, h => rfl
  | p :: r, j + 1, x, h => by
    have := cellsP_setName r j x (by simpa using h)
    show (_ :: _ :: cellsP r).set ((j + 1) * 2) _ = _ :: _ :: cellsP (r.set j (x, (r.getD j nsNone).2))
    rw [show (j + 1) * 2 = j * 2 + 1 + 1 by omega, List.set_cons_succ, List.set_cons_succ, this]
theorem cells_new (w : World) (t : TypeId) (l : List Value) : ∀ (j : Nat) (u : Value), l[j]? = some u → (w.alloc (.cells l.toArray t)).cell? ((⟨w.heap.size, 0, none⟩ : Addr).add j) = some u := fun j u h => by
  rw [show (⟨w.heap.size, 0, none⟩ : Addr).add j = ⟨w.heap.size, j, none⟩ from by simp [Addr.add]; exact fun h => h.symm]
  exact (RowIs.new w t l).cellAt h
theorem row_string14 {w : World} {g n : Nat} {l : List UInt8} (h : RowIs w g 5 (cells8 l)) (hl : l.length = n) :
    (convert 141 9 (.slice (some ⟨g, 0, none⟩) n n)).run Tryz.prog w = .ok (.string (str l)) w := by
  subst hl
  refine run_convert_bytes_back w _ _ 5 ⟨g, 0, none⟩ _ l Tryz.underlying141 Tryz.underlying5 Tryz.underlying9 ?_
  intro j hj
  rw [show (⟨g, 0, none⟩ : Addr).add j = ⟨g, j, none⟩ from by simp [Addr.add]; exact fun h => h.symm, h.cell, cells8_at l j hj]
def opConvU (x : Operand) : Op := Op.convert 141 9 x
theorem opConvU_is (x : Operand) : Op.convert 141 9 x = opConvU x := rfl
theorem opConvU_back (x : Operand) : opConvU x = Op.convert 141 9 x := rfl
theorem Here.setName {w0 w : World} {l : List Thing} {base g n cap : Nat} {L : List NS} (h : Here w0 l w) (i : Nat) (hi : l[i]? = some (PairsTh base (.slice (some ⟨g, 0, none⟩) n cap) L)) (j : Nat) (hj : j < L.length) (x : ByteArray) :
    Here w0 (l.set i (PairsTh base (.slice (some ⟨g, 0, none⟩) n cap) (L.set j (x, (L.getD j nsNone).2)))) (w.setCell ⟨g, j * 2, none⟩ (.string x)) := by
  obtain ⟨bl, ⟨ho, hb⟩, _, hstep⟩ := h.focus i hi
  have hn := (OwnP.pairs ho).1
  subst hn
  refine hstep _ _ ⟨bl, ⟨?_, hb⟩, fun k hk => Or.inl hk, (Touch.refl bl w).set (p := ⟨g, j * 2, none⟩) (Or.inl ((hb g).2 rfl)) _⟩
  have := (World.ownsRow.stored ho (j * 2) (.string x)).1
  rw [cellsP_setName L j x hj] at this
  unfold OwnP
  rw [List.length_set]
  exact this

end Go.Proofs.YtjemklgfenciaaaGreat
