/-
  Parts of this proof, one behind the other: Rec11.
-/
import Derived.Test.YtanghehmfagmfaaGreatDoorBun40
import Derived.Test.YtanghehmfagmfaaGreatDoorBun52
import Derived.Test.YtanghehmfagmfaaGreatDoorBun37

/-
  Records in whatever order: plain, and a text of two bytes.
-/
namespace Go.Proofs.YtanghehmfagmfaaGreatDoor
open Go.RowKit
set_option linter.unusedVariables false
set_option maxRecDepth 100000
set_option linter.unusedSimpArgs false

/-- 't', and a number's byte. -/
def tOrd (j : Nat) : ByteArray := str [116, UInt8.ofNat j]
theorem tOrd_size (j : Nat) : (tOrd j).size = 2 := rfl
theorem conv_tOrd (W : World) (k : Nat) (hk : k < 256) : (convert 51 9 (.slice (some ⟨W.heap.size, 0, none⟩) 2 2)).run Tryz.prog (W.alloc (.cells #[.int .u8 116, .int .u8 (k : Int)] 5)) = .ok (.string (tOrd k)) (W.alloc (.cells #[.int .u8 116, .int .u8 (k : Int)] 5)) := by
  have h := RowIs.new W 5 [.int .u8 116, .int .u8 (k : Int)]
  have hk2 : ((UInt8.ofNat k).toNat : Int) = (k : Int) := by rw [UInt8.toNat_ofNat']; omega
  refine run_convert_bytes_back (P := Tryz.prog) _ 51 9 5 ⟨W.heap.size, 0, none⟩ 2 [116, UInt8.ofNat k] Tryz.underlying51 Tryz.underlying5 Tryz.underlying9 ?_
  intro j hj
  have hj2 : j < 2 := hj
  rcases (by omega : j = 0 ∨ j = 1) with rfl | rfl
  · exact h.cellAt rfl
  · show World.cell? _ ⟨W.heap.size, 0 + 1, none⟩ = some (.int .u8 ((UInt8.ofNat k).toNat : Int))
    rw [hk2]
    exact h.cellAt rfl

def recsT (k : ByteArray) (σ : List Nat) : List ByteArray := σ.map fun j => recS k j (tOrd j)
theorem recsT_len (k : ByteArray) (σ : List Nat) : (recsT k σ).length = σ.length := by simp [recsT]
theorem recsT_at (k : ByteArray) (σ : List Nat) (i : Nat) (h : i < σ.length) : (recsT k σ).getD i ⟨#[]⟩ = recS k (σ.getD i 0) (tOrd (σ.getD i 0)) := by
  unfold recsT
  rw [List.getD_eq_getElem?_getD, List.getD_eq_getElem?_getD, List.getElem?_map, List.getElem?_eq_getElem h]
  rfl
theorem recsT_set (k : ByteArray) (σ : List Nat) (i j : Nat) : (recsT k σ).set i (recS k j (tOrd j)) = recsT k (σ.set i j) := by
  unfold recsT
  rw [List.map_set]
theorem recsT_more (k : ByteArray) (n : Nat) : recsT k (List.range n) ++ [recS k n (tOrd n)] = recsT k (List.range (n + 1)) := by
  unfold recsT
  rw [List.range_succ, List.map_append]
  rfl
def textsT (n : Nat) : List ByteArray := (List.range n).map tOrd
theorem textsT_len (n : Nat) : (textsT n).length = n := by simp [textsT]
theorem textsT_more (n : Nat) : textsT n ++ [tOrd n] = textsT (n + 1) := by
  unfold textsT
  rw [List.range_succ, List.map_append]
  rfl
theorem textsT_plus (a b : Nat) (h : a ≤ b) : textsT a ++ (List.range (b - a)).map (fun j => tOrd (a + j)) = textsT b := by
  unfold textsT
  rw [show b = a + (b - a) by omega, List.range_add, List.map_append, List.map_map, show a + (b - a) - a = b - a by omega]
  rfl
theorem swap_perm (σ : List Nat) (n a b : Nat) (h : σ.Perm (List.range n)) (ha : a < n) (hb : b < n) : ((σ.set a (σ.getD b 0)).set b (σ.getD a 0)).Perm (List.range n) := by
  have hl : σ.length = n := by rw [h.length_eq, List.length_range]
  have e1 : σ.getD a 0 = σ[a]'(by omega) := by rw [List.getD_eq_getElem?_getD, List.getElem?_eq_getElem (by omega)]; rfl
  have e2 : σ.getD b 0 = σ[b]'(by omega) := by rw [List.getD_eq_getElem?_getD, List.getElem?_eq_getElem (by omega)]; rfl
  rw [e1, e2]
  exact (List.set_set_perm (by omega) (by omega)).trans h
theorem perm_len {σ : List Nat} {n : Nat} (h : σ.Perm (List.range n)) : σ.length = n := by rw [h.length_eq, List.length_range]
theorem perm_lt {σ : List Nat} {n i : Nat} (h : σ.Perm (List.range n)) (hi : i < n) : σ.getD i 0 < n := by
  have hl := perm_len h
  have e1 : σ.getD i 0 = σ[i]'(by omega) := by rw [List.getD_eq_getElem?_getD, List.getElem?_eq_getElem (by omega)]; rfl
  rw [e1]
  have := h.mem_iff.1 (List.getElem_mem (by omega : i < σ.length))
  exact List.mem_range.1 this
theorem perm_new {σ : List Nat} {n i : Nat} (h : σ.Perm (List.range n)) (hi : i < n) : σ.getD i 0 ∉ σ.take i := by
  have hl := perm_len h
  have hn : σ.Nodup := h.nodup_iff.2 List.nodup_range
  have e1 : σ.getD i 0 = σ[i]'(by omega) := by rw [List.getD_eq_getElem?_getD, List.getElem?_eq_getElem (by omega)]; rfl
  rw [e1]
  intro hm
  obtain ⟨j, hj, e⟩ := List.mem_take_iff_getElem.1 hm
  have := (List.getElem_inj hn).1 e
  omega
theorem take_more (σ : List Nat) (i : Nat) (hi : i < σ.length) (j : Nat) : j ∈ σ.take (i + 1) ↔ j ∈ σ.take i ∨ j = σ.getD i 0 := by
  rw [List.take_add_one, List.getElem?_eq_getElem hi, List.mem_append, List.getD_eq_getElem?_getD, List.getElem?_eq_getElem hi]
  simp
theorem perm_all {σ : List Nat} {n : Nat} (h : σ.Perm (List.range n)) (j : Nat) : j ∈ σ.take n ↔ j < n := by
  rw [List.take_of_length_le (by rw [perm_len h]; exact Nat.le_refl _), h.mem_iff, List.mem_range]
theorem InS.Ord.congr {s : InS} {k : ByteArray} {T : Nat → ByteArray} {D D' : Nat → Prop} (h : s.Ord k T D) (hD : ∀ j, D j ↔ D' j) : s.Ord k T D' := by
  have : D = D' := funext fun j => propext (hD j)
  subst this
  exact h
/-- A text among a list's is another one now. -/
theorem Here.setText {w0 w : World} {l : List Thing} {base g n c : Nat} {L : List ByteArray} (h : Here w0 l w) (i : Nat) (hi : l[i]? = some (TextsTh base (.slice (some ⟨g, 0, none⟩) n c) L)) (hn : n = L.length) (j : Nat) (x : ByteArray) : Here w0 (l.set i (TextsTh base (.slice (some ⟨g, 0, none⟩) n c) (L.set j x))) (w.setCell ⟨g, j, none⟩ (.string x)) := by
  obtain ⟨bl, ⟨ho, hb⟩, _, hstep⟩ := h.focus i hi
  exact hstep _ _ ⟨bl, ⟨ho.store hn j x, hb⟩, fun k hk => Or.inl hk, (Touch.refl bl w).set (p := ⟨g, j, none⟩) (Or.inl ((hb g).2 rfl)) _⟩

end Go.Proofs.YtanghehmfagmfaaGreatDoor
