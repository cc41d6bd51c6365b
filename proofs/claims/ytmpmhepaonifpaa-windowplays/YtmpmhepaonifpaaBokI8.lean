/-
  A book that keeps lists of whole numbers: one more list.
-/
import Derived.Test.YtmpmhepaonifpaaBokI7
namespace Go.Proofs.Ytmpmhepaonifpaa
open Go.RowKit
set_option linter.unusedVariables false
set_option maxRecDepth 100000
set_option linter.unusedSimpArgs false

theorem BookI.lt {w : World} {base p : Nat} {vo wo : Value} {vs ws : List Value} {ls : List (List Int)} (h : BookI w base p vo wo vs ws ls) {u : Value} (hu : u ∈ vo :: wo :: (vs ++ ws)) {k : Nat} (hk : u.ownBlock = some k) : base ≤ k ∧ k < w.heap.size := by
  have hcase : u = vo ∨ u = wo ∨ u ∈ vs ∨ u ∈ ws := by simpa using hu
  rcases hcase with rfl | rfl | hu | hu
  · exact World.ownsRow.lt h.ownV k hk
  · exact World.ownsRow.lt h.ownW k hk
  · obtain ⟨i, hi⟩ := List.getElem?_of_mem hu
    have hlt : i < ls.length := by rw [← h.lenV]; exact (List.getElem?_eq_some_iff.1 hi).1
    exact World.ownsRow.lt (h.eachV i u ls[i] hi (List.getElem?_eq_getElem hlt)) k hk
  · obtain ⟨i, hi⟩ := List.getElem?_of_mem hu
    have hlt : i < ls.length := by rw [← h.lenW]; exact (List.getElem?_eq_some_iff.1 hi).1
    exact World.ownsRow.lt (h.eachW i u ls[i] hi (List.getElem?_eq_getElem hlt)) k hk


theorem BookI.more {w w' : World} {base p : Nat} {vo wo vo' wo' v u : Value} {vs ws : List Value} {ls : List (List Int)} {l : List Int} (h : BookI w base p vo wo vs ws ls) (hv : OwnI w base v l) (hf : Free w p (vo :: wo :: (vs ++ ws)) v)
    (T : Touch (fun k => k = p ∨ vo.ownBlock = some k ∨ wo.ownBlock = some k) w w') (row' : RowIs w' p 43 (rowI vo' wo')) (ov : w'.ownsRow base 22 1 vo' (vs.length + 1) (vs ++ [v])) (ow : w'.ownsRow base 22 1 wo' (ws.length + 1) (ws ++ [u]))
    (hvo : vo'.ownBlock = vo.ownBlock ∨ ∃ b, vo'.ownBlock = some b ∧ w.heap.size ≤ b) (hwo : wo'.ownBlock = wo.ownBlock ∨ ∃ b, wo'.ownBlock = some b ∧ w.heap.size ≤ b) (hu : OwnI w' w.heap.size u l) (d1 : Apart2 vo' wo') (d2 : Apart2 vo' u) (d3 : Apart2 wo' u) (hbase : base ≤ w.heap.size) :
    BookI w' base p vo' wo' (vs ++ [v]) (ws ++ [u]) (ls ++ [l]) := by
  have hp := h.row.lt
  have hc := List.pairwise_cons.1 h.apart
  have hc2 := List.pairwise_cons.1 hc.2
  have hc3 := List.pairwise_append.1 hc2.2
  have hub : ∀ k, u.ownBlock = some k → w.heap.size ≤ k := fun k hk => (World.ownsRow.lt hu k hk).1
  -- a list of the book's lies beside the two outer rows, old or new
  have hV : ∀ x ∈ vs ++ ws, Apart2 vo' x := by
    intro x hx k hk hk2
    have hxl := h.lt (u := x) (by simp at hx ⊢; rcases hx with hx | hx <;> simp [hx]) hk2
    rcases hvo with e | ⟨b, hb, hle⟩
    · exact hc.1 x (by simp at hx ⊢; rcases hx with hx | hx <;> simp [hx]) k (e ▸ hk) hk2
    · rw [hk] at hb
      have := Option.some.inj hb
      omega
  have hW : ∀ x ∈ vs ++ ws, Apart2 wo' x := by
    intro x hx k hk hk2
    have hxl := h.lt (u := x) (by simp at hx ⊢; rcases hx with hx | hx <;> simp [hx]) hk2
    rcases hwo with e | ⟨b, hb, hle⟩
    · exact hc2.1 x hx k (e ▸ hk) hk2
    · rw [hk] at hb
      have := Option.some.inj hb
      omega
  have hVv : Apart2 vo' v := by
    intro k hk hk2
    obtain ⟨h1, h2, h3⟩ := hf k hk2
    rcases hvo with e | ⟨b, hb, hle⟩
    · exact h3 vo (by simp) (e ▸ hk)
    · rw [hk] at hb
      have := Option.some.inj hb
      omega
  have hWv : Apart2 wo' v := by
    intro k hk hk2
    obtain ⟨h1, h2, h3⟩ := hf k hk2
    rcases hwo with e | ⟨b, hb, hle⟩
    · exact h3 wo (by simp) (e ▸ hk)
    · rw [hk] at hb
      have := Option.some.inj hb
      omega
  have hxv : ∀ x ∈ vs ++ ws, Apart2 x v := by
    intro x hx k hk hk2
    obtain ⟨h1, h2, h3⟩ := hf k hk2
    exact h3 x (by simp at hx ⊢; rcases hx with hx | hx <;> simp [hx]) hk
  have hxu : ∀ x ∈ vs ++ ws, Apart2 x u := by
    intro x hx k hk hk2
    have hxl := h.lt (u := x) (by simp at hx ⊢; rcases hx with hx | hx <;> simp [hx]) hk
    have := hub k hk2
    omega
  have hvu : Apart2 v u := by
    intro k hk hk2
    have h1 := (hf k hk).1
    have := hub k hk2
    omega
  have keepV : ∀ {x : Value} {m : List Int}, x ∈ vs ++ ws → OwnI w base x m → OwnI w' base x m := by
    intro x m hx ho
    refine own_touch ho T (fun k hk hS => ?_)
    rcases hS with rfl | hS | hS
    · exact h.off x (by simp at hx ⊢; rcases hx with hx | hx <;> simp [hx]) hk
    · exact hc.1 x (by simp at hx ⊢; rcases hx with hx | hx <;> simp [hx]) k hS hk
    · exact hc2.1 x hx k hS hk
  refine ⟨row', h.here, by rw [List.length_append]; exact ov, by rw [List.length_append]; exact ow, by simp [h.lenV], by simp [h.lenW], ?_, ?_, ?_, ?_⟩
  · intro i x m hx hm
    rcases Nat.lt_or_ge i vs.length with hlt | hge
    · rw [List.getElem?_append_left hlt] at hx
      rw [List.getElem?_append_left (by rw [← h.lenV]; exact hlt)] at hm
      exact keepV (by simp [List.mem_of_getElem? hx]) (h.eachV i x m hx hm)
    · have hi : i = vs.length := by
        have := (List.getElem?_eq_some_iff.1 hx).1
        rw [List.length_append] at this
        simp at this
        omega
      subst hi
      rw [List.getElem?_append_right (Nat.le_refl _), Nat.sub_self] at hx
      rw [h.lenV, List.getElem?_append_right (Nat.le_refl _), Nat.sub_self] at hm
      obtain rfl := Option.some.inj hx
      obtain rfl := Option.some.inj hm
      refine own_touch hv T (fun k hk hS => ?_)
      obtain ⟨h1, h2, h3⟩ := hf k hk
      rcases hS with hS | hS | hS
      · exact h2 hS
      · exact h3 vo (by simp) hS
      · exact h3 wo (by simp) hS
  · intro i x m hx hm
    rcases Nat.lt_or_ge i ws.length with hlt | hge
    · rw [List.getElem?_append_left hlt] at hx
      rw [List.getElem?_append_left (by rw [← h.lenW]; exact hlt)] at hm
      exact keepV (by simp [List.mem_of_getElem? hx]) (h.eachW i x m hx hm)
    · have hi : i = ws.length := by
        have := (List.getElem?_eq_some_iff.1 hx).1
        rw [List.length_append] at this
        simp at this
        omega
      subst hi
      rw [List.getElem?_append_right (Nat.le_refl _), Nat.sub_self] at hx
      rw [h.lenW, List.getElem?_append_right (Nat.le_refl _), Nat.sub_self] at hm
      obtain rfl := Option.some.inj hx
      obtain rfl := Option.some.inj hm
      exact hu.base hbase
  · refine List.pairwise_cons.2 ⟨?_, List.pairwise_cons.2 ⟨?_, ?_⟩⟩
    · intro x hx
      have hcase : x = wo' ∨ (x ∈ vs ++ ws) ∨ x = v ∨ x = u := by simp at hx ⊢; rcases hx with e | e | e | e | e <;> simp [e]
      rcases hcase with rfl | hx | rfl | rfl
      · exact d1
      · exact hV x hx
      · exact hVv
      · exact d2
    · intro x hx
      have hcase : (x ∈ vs ++ ws) ∨ x = v ∨ x = u := by simp at hx ⊢; rcases hx with e | e | e | e <;> simp [e]
      rcases hcase with hx | rfl | rfl
      · exact hW x hx
      · exact hWv
      · exact d3
    · refine List.pairwise_append.2 ⟨List.pairwise_append.2 ⟨hc3.1, List.pairwise_singleton _ _, fun x hx y hy => ?_⟩, List.pairwise_append.2 ⟨hc3.2.1, List.pairwise_singleton _ _, fun x hx y hy => ?_⟩, fun x hx y hy => ?_⟩
      · obtain rfl : y = v := by simpa using hy
        exact hxv x (by simp [hx])
      · obtain rfl : y = u := by simpa using hy
        exact hxu x (by simp [hx])
      · have hx' : x ∈ vs ∨ x = v := by simpa using hx
        have hy' : y ∈ ws ∨ y = u := by simpa using hy
        rcases hx' with hx | rfl <;> rcases hy' with hy | rfl
        · exact hc3.2.2 x hx y hy
        · exact hxu x (by simp [hx])
        · exact (hxv y (by simp [hy])).symm
        · exact hvu
  · intro x hx he
    have hcase : x = vo' ∨ x = wo' ∨ (x ∈ vs ++ ws) ∨ x = v ∨ x = u := by simp at hx ⊢; rcases hx with e | e | e | e | e | e <;> simp [e]
    rcases hcase with rfl | rfl | hx | rfl | rfl
    · rcases hvo with e | ⟨b, hb, hle⟩
      · exact h.off vo (by simp) (e ▸ he)
      · rw [he] at hb
        have := Option.some.inj hb
        omega
    · rcases hwo with e | ⟨b, hb, hle⟩
      · exact h.off wo (by simp) (e ▸ he)
      · rw [he] at hb
        have := Option.some.inj hb
        omega
    · exact h.off x (by simp at hx ⊢; rcases hx with hx | hx <;> simp [hx]) he
    · exact (hf p he).2.1 rfl
    · have := hub p he
      omega

end Go.Proofs.Ytmpmhepaonifpaa
