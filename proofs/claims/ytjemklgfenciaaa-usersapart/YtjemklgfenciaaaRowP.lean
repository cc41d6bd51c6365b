/-
  Rows of users (a name and a secret each) of a call's own.
-/
import Derived.Test.YtjemklgfenciaaaUsr1
namespace Go.Proofs.Ytjemklgfenciaaa
open Go.RowKit
set_option linter.unusedVariables false
set_option maxRecDepth 100000
set_option linter.unusedSimpArgs false

abbrev NS := ByteArray × ByteArray
def nsNone : NS := (⟨#[]⟩, ⟨#[]⟩)
theorem infoNS : (Try.prog.info? 29).map (fun i => (i.zero, i.size, i.bytes)) = some (some (.agg #[.string ⟨#[]⟩, .string ⟨#[]⟩]), 2, 32) := by kernel_rfl
def cellsP (L : List NS) : List Value := L.flatMap fun p => [.string p.1, .string p.2]
theorem cellsP_len : ∀ L : List NS, (cellsP L).length = L.length * 2
  | [] => rfl
  | p :: r => by
    show ([_, _] ++ cellsP r).length = _
    rw [List.length_append, cellsP_len r, List.length_cons]
    simp
    omega
theorem cellsP_at : ∀ (L : List NS) (j : Nat), j < L.length → (cellsP L)[j * 2]? = some (.string (L.getD j nsNone).1) ∧ (cellsP L)[j * 2 + 1]? = some (.string (L.getD j nsNone).2)
  | [], j, h => absurd h (by simp)
  | p :: r, 0, h => ⟨rfl, rfl⟩
  | p :: r, j + 1, h => by
    have := cellsP_at r j (by simpa using h)
    show (_ :: _ :: cellsP r)[(j + 1) * 2]? = _ ∧ (_ :: _ :: cellsP r)[(j + 1) * 2 + 1]? = _
    rw [show (j + 1) * 2 = j * 2 + 1 + 1 by omega, List.getElem?_cons_succ, List.getElem?_cons_succ, List.getElem?_cons_succ, List.getElem?_cons_succ]
    exact this
theorem cellsP_append (a b : List NS) : cellsP (a ++ b) = cellsP a ++ cellsP b := by unfold cellsP; rw [List.flatMap_append]
theorem cellsP_one (L : List NS) : ∀ v ∈ cellsP L, v.oneCell' = true := by
  intro v hv
  obtain ⟨p, _, hv⟩ := List.mem_flatMap.1 hv
  simp at hv
  rcases hv with rfl | rfl <;> rfl
def OwnP (w : World) (base : Nat) (v : Value) (L : List NS) : Prop := w.ownsRow base 29 2 v L.length (cellsP L)
theorem OwnP.nil (w : World) (base : Nat) : OwnP w base (.slice none 0 0) [] := ⟨rfl, Or.inl ⟨rfl, rfl⟩⟩
theorem OwnP.shape {w : World} {base : Nat} {v : Value} {L : List NS} (h : OwnP w base v L) : ∃ ao cap, v = .slice ao L.length cap ∧ (ao = none → L = []) := by
  rcases h.2 with ⟨hv, hn⟩ | ⟨g, cap, cur, hv, _⟩
  · exact ⟨none, 0, by rw [hv, hn], fun _ => List.eq_nil_of_length_eq_zero hn⟩
  · exact ⟨_, cap, hv, fun h => by cases h⟩
theorem OwnP.pairs {w : World} {base : Nat} {ao : Option Addr} {n cap : Nat} {L : List NS} (h : OwnP w base (.slice ao n cap) L) : n = L.length ∧ PairsAt w ao n (fun i => L.getD i nsNone) := by
  rcases h.2 with ⟨hv, hn⟩ | ⟨g, c, cur, hv, hb, hg, hnc, hcm, hcs, htake⟩
  · injection hv with e1 e2 e3
    subst e1 e2
    exact ⟨hn.symm, fun i hi => absurd hi (by omega)⟩
  · injection hv with e1 e2 e3
    subst e1 e2 e3
    refine ⟨rfl, fun i hi => ⟨g, 0, rfl, ?_⟩⟩
    obtain ⟨c1, c2⟩ := cellsP_at L i hi
    have hc : ∀ j u, (cellsP L)[j]? = some u → w.cell? ⟨g, 0 + j, none⟩ = some u := fun j u hj => by
      have := World.ownsRow.cells h (g := g) rfl j u hj
      rwa [show (⟨g, 0, none⟩ : Addr).add j = ⟨g, 0 + j, none⟩ from by simp [Addr.add]; exact fun h => h.symm] at this
    exact ⟨hc _ _ c1, by have := hc _ _ c2; rwa [← Nat.add_assoc] at this⟩
theorem OwnP.more {w : World} {base n : Nat} {v' : Value} {L : List NS} {x : NS} (hl : L.length = n) (h : w.ownsRow base 29 2 v' (n + 1) (cellsP L ++ [.string x.1, .string x.2])) : OwnP w base v' (L ++ [x]) := by
  subst hl
  unfold OwnP
  rw [List.length_append, cellsP_append]
  exact h
theorem listU_getD (L : List NS) : listU (fun i => L.getD i nsNone) L.length = L := by
  refine List.ext_getElem? (fun i => ?_)
  unfold listU
  rw [List.getElem?_map]
  by_cases h : i < L.length
  · rw [List.getElem?_range h, List.getElem?_eq_getElem h]
    simp [List.getD_eq_getElem?_getD, List.getElem?_eq_getElem h]
  · rw [List.getElem?_eq_none (by simp; omega), List.getElem?_eq_none (by omega)]; rfl
/-- own_touch, elements of more cells. -/
theorem own_touch2 {S : Nat → Prop} {w w' : World} {base : Nat} {e : TypeId} {z : Nat} {v : Value} {n : Nat} {xs : List Value} (h : w.ownsRow base e z v n xs) (ht : Touch S w w') (hn : ∀ k, v.ownBlock = some k → ¬ S k) : w'.ownsRow base e z v n xs := by
  refine ⟨h.1, ?_⟩
  rcases h.2 with h2 | ⟨g, cap, cur, rfl, hb, hg, r⟩
  · exact Or.inl h2
  · exact Or.inr ⟨g, cap, cur, rfl, hb, by rw [ht.block g (Array.getElem?_eq_some_iff.1 hg).1 (hn g rfl)]; exact hg, r⟩
/-- A list of users of a call's own, among things side by side. -/
def PairsTh (base : Nat) (v : Value) (L : List NS) : Thing where
  At w bl := OwnP w base v L ∧ ∀ k, bl k ↔ v.ownBlock = some k
  lt h k hk := (World.ownsRow.lt h.1 k ((h.2 k).1 hk)).2
  keep h ht hn := ⟨own_touch2 h.1 ht (fun k hk => hn k ((h.2 k).2 hk)), h.2⟩
theorem Here.pairs {w0 w : World} {l : List Thing} {base : Nat} {v : Value} {L : List NS} (h : Here w0 l w) (i : Nat) (hi : l[i]? = some (PairsTh base v L)) : OwnP w base v L := by
  obtain ⟨bl, hP, _, _⟩ := h.focus i hi
  exact hP.1
theorem Here.growP {w0 w w' : World} {l : List Thing} {base : Nat} {v v' : Value} {L L' : List NS} (h : Here w0 l w) (i : Nat) (hi : l[i]? = some (PairsTh base v L)) (ho : OwnP w' base v' L') (hg : w.grownBy w' v.ownBlock) (hat : v'.ownBlock = v.ownBlock ∨ v'.ownBlock = some w.heap.size ∧ w.grownBy w' none) : Here w0 (l.set i (PairsTh base v' L')) w' := by
  obtain ⟨bl, ⟨_, hb⟩, _, hstep⟩ := h.focus i hi
  refine hstep _ _ ⟨fun k => v'.ownBlock = some k, ⟨ho, fun k => Iff.rfl⟩, fun k hk => ?_, (touch_grown hg).mono (fun k _ hk => (hb k).2 hk)⟩
  rcases hat with hat | ⟨hat, _⟩
  · exact Or.inl ((hb k).2 (by rw [← hat]; exact hk))
  · rw [hat] at hk
    exact Or.inr (by have := Option.some.inj hk; omega)
theorem Here.newPairs {w0 w : World} {l : List Thing} (h : Here w0 l w) (base : Nat) : Here w0 (PairsTh base (.slice none 0 0) [] :: l) w :=
  h.new (bn := fun _ => False) ⟨OwnP.nil w base, fun k => by simp [Value.ownBlock]⟩ (fun _ x => x.elim) (Below.refl _ _)
/-- One user, laid as a slice of its own. -/
theorem pairs_new (w : World) (n s : ByteArray) : PairsAt (w.alloc (.cells #[.string n, .string s] 29)) (some ⟨w.heap.size, 0, none⟩) 1 (fun _ => (n, s)) := by
  intro i hi
  obtain rfl : i = 0 := by omega
  have h := RowIs.new w 29 [.string n, .string s]
  exact ⟨_, 0, rfl, h.cellAt rfl, h.cellAt rfl⟩
theorem pairs_new2 (w : World) (n s m t : ByteArray) : PairsAt (w.alloc (.cells #[.string n, .string s, .string m, .string t] 29)) (some ⟨w.heap.size, 0, none⟩) 2 (fun i => if i = 0 then (n, s) else (m, t)) := by
  intro i hi
  have h := RowIs.new w 29 [.string n, .string s, .string m, .string t]
  have hc : i = 0 ∨ i = 1 := by omega
  rcases hc with rfl | rfl
  · exact ⟨_, 0, rfl, h.cellAt rfl, h.cellAt rfl⟩
  · exact ⟨_, 0, rfl, h.cellAt rfl, h.cellAt rfl⟩

end Go.Proofs.Ytjemklgfenciaaa
