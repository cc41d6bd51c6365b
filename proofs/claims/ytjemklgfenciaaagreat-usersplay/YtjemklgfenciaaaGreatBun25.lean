/-
  Parts of this proof, one behind the other: Sep1.
-/
import Derived.Test.YtjemklgfenciaaaGreatBun15
import Derived.Test.YtjemklgfenciaaaGreatBun22

/-
  One of several things takes another one in; and the book of texts as a thing.
-/
namespace Go.Proofs.YtjemklgfenciaaaGreat
open Go.RowKit
set_option linter.unusedVariables false
set_option maxRecDepth 100000
set_option linter.unusedSimpArgs false

theorem Things.focusX {w : World} (X : Nat → Prop) (hXlt : ∀ k, X k → k < w.heap.size) : ∀ {l : List Thing} {bl : Nat → Prop} (i : Nat) (P : Thing), l[i]? = some P → Things l w bl → (∀ k, X k → ¬ bl k) →
    ∃ b1, P.At w b1 ∧ (∀ k, b1 k → bl k) ∧ ∀ (P' : Thing) (w' : World) (b1' : Nat → Prop), P'.At w' b1' → (∀ k, b1' k → b1 k ∨ w.heap.size ≤ k ∨ X k) → Touch b1 w w' → ∃ bl', Things (l.set i P') w' bl' ∧ (∀ k, bl' k → bl k ∨ w.heap.size ≤ k ∨ X k)
  | [], _, i, P, hi, _, _ => by simp at hi
  | Q :: l, bl, 0, P, hi, h, hX => by
    obtain ⟨b1, b2, h1, h2, hd, hb⟩ := h
    have e : Q = P := by simpa using hi
    subst e
    refine ⟨b1, h1, fun k hk => (hb k).2 (Or.inl hk), fun P' w' b1' h' hn ht => ⟨fun k => b1' k ∨ b2 k, ⟨b1', b2, h', Things.keep h2 ht (fun k hk hk1 => hd k hk1 hk), fun k hk hk2 => ?_, fun k => Iff.rfl⟩, fun k hk => ?_⟩⟩
    · rcases hn k hk with hk1 | hk1 | hk1
      · exact hd k hk1 hk2
      · have := Things.lt h2 k hk2; omega
      · exact hX k hk1 ((hb k).2 (Or.inr hk2))
    · rcases hk with hk | hk
      · rcases hn k hk with hk1 | hk1 | hk1
        · exact Or.inl ((hb k).2 (Or.inl hk1))
        · exact Or.inr (Or.inl hk1)
        · exact Or.inr (Or.inr hk1)
      · exact Or.inl ((hb k).2 (Or.inr hk))
  | Q :: l, bl, i + 1, P, hi, h, hX => by
    obtain ⟨b0, b2, h1, h2, hd, hb⟩ := h
    obtain ⟨b1, hP, hsub, hstep⟩ := Things.focusX X hXlt (l := l) i P (by simpa using hi) h2 (fun k hk hk2 => hX k hk ((hb k).2 (Or.inr hk2)))
    refine ⟨b1, hP, fun k hk => (hb k).2 (Or.inr (hsub k hk)), fun P' w' b1' h' hn ht => ?_⟩
    obtain ⟨bl', g1, g2⟩ := hstep P' w' b1' h' hn ht
    refine ⟨fun k => b0 k ∨ bl' k, ⟨b0, bl', Q.keep h1 ht (fun k hk hk1 => hd k hk (hsub k hk1)), g1, fun k hk hk2 => ?_, fun k => Iff.rfl⟩, fun k hk => ?_⟩
    · rcases g2 k hk2 with hk1 | hk1 | hk1
      · exact hd k hk hk1
      · have := Q.lt h1 k hk; omega
      · exact hX k hk1 ((hb k).2 (Or.inl hk))
    · rcases hk with hk | hk
      · exact Or.inl ((hb k).2 (Or.inl hk))
      · rcases g2 k hk with hk | hk | hk
        · exact Or.inl ((hb k).2 (Or.inr hk))
        · exact Or.inr (Or.inl hk)
        · exact Or.inr (Or.inr hk)
/-- The first is taken in by another one. -/
theorem Here.takeIn {w0 w : World} {l : List Thing} {N : Thing} (h : Here w0 (N :: l) w) (i : Nat) {P : Thing} (hi : l[i]? = some P) :
    ∃ bn bl, N.At w bn ∧ P.At w bl ∧ (∀ k, bn k → ¬ bl k) ∧ ∀ (P' : Thing) (w' : World) (bl' : Nat → Prop), P'.At w' bl' → (∀ k, bl' k → bl k ∨ w.heap.size ≤ k ∨ bn k) → Touch bl w w' → Here w0 (l.set i P') w' := by
  obtain ⟨ba, ⟨bn, bt, hN, hl, hd, hb⟩, hB⟩ := h.at_
  obtain ⟨b1, hP, hsub, hstep⟩ := hl.focusX bn (N.lt hN) i P hi hd
  refine ⟨bn, b1, hN, hP, fun k hk hk1 => hd k hk (hsub k hk1), fun P' w' bl' h' hn ht => ?_⟩
  obtain ⟨bl2, g1, g2⟩ := hstep P' w' bl' h' hn ht
  refine ⟨⟨bl2, g1, fun k hk => ?_⟩, h.bel.trans (ht.below (fun k hk => hB k ((hb k).2 (Or.inr (hsub k hk)))) h.sz)⟩
  rcases g2 k hk with hk | hk | hk
  · exact hB k ((hb k).2 (Or.inr hk))
  · exact Nat.le_trans h.sz hk
  · exact hB k ((hb k).2 (Or.inl hk))

theorem bookT_keep {S : Nat → Prop} {w w' : World} {base q : Nat} {vo wo : Value} {vs ws : List Value} {ls : List (List ByteArray)} (h : BookT w base q vo wo vs ws ls) (ht : Touch S w w') (hn : ∀ k, (k = q ∨ ∃ u ∈ vo :: wo :: (vs ++ ws), u.ownBlock = some k) → ¬ S k) : BookT w' base q vo wo vs ws ls := by
  refine ⟨?_, h.here, own_touch h.ownV ht (fun k hk => hn k (Or.inr ⟨vo, by simp, hk⟩)), own_touch h.ownW ht (fun k hk => hn k (Or.inr ⟨wo, by simp, hk⟩)), h.lenV, h.lenW, fun i v l a b => own_touch (h.eachV i v l a b) ht (fun k hk => hn k (Or.inr ⟨v, by simp [List.mem_of_getElem? a], hk⟩)), fun i v l a b => own_touch (h.eachW i v l a b) ht (fun k hk => hn k (Or.inr ⟨v, by simp [List.mem_of_getElem? a], hk⟩)), h.apart, h.off⟩
  show w'.heap[q]? = _
  rw [ht.block q h.row.lt (hn q (Or.inl rfl))]
  exact h.row
def BookIs (base q n : Nat) (last : Option (Value × List ByteArray)) (w : World) (bl : Nat → Prop) : Prop :=
  ∃ vo wo vs ws ls, BookT w base q vo wo vs ws ls ∧ vs.length = n ∧ (∀ (i : Nat) (m : List ByteArray), ls[i]? = some m → m.length ≤ 10000) ∧ (∀ (v : Value) (L : List ByteArray), last = some (v, L) → ∃ i : Nat, vs[i]? = some v ∧ ls[i]? = some L) ∧ ∀ k, bl k ↔ k = q ∨ ∃ u ∈ vo :: wo :: (vs ++ ws), u.ownBlock = some k
theorem BookIs.lt {base q n : Nat} {last : Option (Value × List ByteArray)} {w : World} {bl : Nat → Prop} (h : BookIs base q n last w bl) : ∀ k, bl k → k < w.heap.size := by
  obtain ⟨vo, wo, vs, ws, ls, h, _, _, _, hb⟩ := h
  intro k hk
  rcases (hb k).1 hk with rfl | ⟨u, hu, e⟩
  · exact h.row.lt
  · exact (h.lt hu e).2
theorem BookIs.keep {base q n : Nat} {last : Option (Value × List ByteArray)} {S : Nat → Prop} {w w' : World} {bl : Nat → Prop} (h : BookIs base q n last w bl) (ht : Touch S w w') (hn : ∀ k, bl k → ¬ S k) : BookIs base q n last w' bl := by
  obtain ⟨vo, wo, vs, ws, ls, h, h1, h2, h3, hb⟩ := h
  exact ⟨vo, wo, vs, ws, ls, bookT_keep h ht (fun k hk => hn k ((hb k).2 hk)), h1, h2, h3, hb⟩
/-- A book of n lists of texts, the last of them v (the texts L), or any. -/
def BookTh (base q n : Nat) (last : Option (Value × List ByteArray)) : Thing := ⟨BookIs base q n last, BookIs.lt, BookIs.keep⟩
theorem Here.bookTexts {w0 w : World} {l : List Thing} {q n : Nat} {last : Option (Value × List ByteArray)} {v : Value} {L : List ByteArray} (h : Here w0 (TextsTh w0.heap.size v L :: l) w) (i : Nat) (hi : l[i]? = some (BookTh w0.heap.size q n last)) (hn : n < 250) (hL : L.length ≤ 10000) :
    Calls Tryz.prog 11 #[.pointer (some ⟨q, 0, none⟩), v] w fun e w' => e = .returned (.tuple #[]) ∧ Here w0 (l.set i (BookTh w0.heap.size q (n + 1) (some (v, L)))) w' := by
  obtain ⟨bn, bl, ⟨hv, hbn⟩, ⟨vo, wo, vs, ws, ls, hB, hlen, hls, _, hbl⟩, hd, hstep⟩ := h.takeIn i hi
  have hvlt := (TextsTh w0.heap.size v L).lt ⟨hv, hbn⟩
  have hfree : Free w q (vo :: wo :: (vs ++ ws)) v := fun k hk => by
    have hk1 := (hbn k).2 hk
    have hk2 := hd k hk1
    exact ⟨hvlt k hk1, fun e => hk2 ((hbl k).2 (Or.inl e)), fun u hu e => hk2 ((hbl k).2 (Or.inr ⟨u, hu, e⟩))⟩
  refine (book_textsO w0.heap.size q vo wo vs ws ls v L w hB hv hfree (by omega) (by omega) h.sz).mono ?_
  rintro e w' ⟨rfl, ⟨vo', wo', u, hB', hol⟩, ht⟩
  have hlv : vs.length = ls.length := hB.lenV
  refine ⟨rfl, hstep (BookTh w0.heap.size q (n + 1) (some (v, L))) w' (fun k => k = q ∨ ∃ x ∈ vo' :: wo' :: ((vs ++ [v]) ++ (ws ++ [u])), x.ownBlock = some k) ⟨vo', wo', vs ++ [v], ws ++ [u], ls ++ [L], hB', by simp [hlen], fun j m hj => ?_, fun v2 L2 e => ?_, fun k => Iff.rfl⟩ (fun k hk => ?_) (ht.mono (fun k _ hk => ?_))⟩
  · rw [List.getElem?_append] at hj
    split at hj
    · exact hls j m hj
    · rw [List.getElem?_singleton] at hj
      split at hj
      · cases hj; exact hL
      · cases hj
  · injection e with e; injection e with e1 e2
    subst e1 e2
    exact ⟨vs.length, by simp, by rw [hlv]; simp⟩
  · by_cases hkl : k < w.heap.size
    · rcases hk with rfl | ⟨x, hx, e⟩
      · exact Or.inl ((hbl _).2 (Or.inl rfl))
      · obtain ⟨o1, o2, o3⟩ := hol k hkl
        have hc : x = vo' ∨ x = wo' ∨ x ∈ vs ++ ws ∨ x = v ∨ x = u := by simp at hx ⊢; rcases hx with e | e | e | e | e | e <;> simp [e]
        rcases hc with rfl | rfl | hx | rfl | rfl
        · exact Or.inl ((hbl _).2 (Or.inr ⟨vo, by simp, o1 e⟩))
        · exact Or.inl ((hbl _).2 (Or.inr ⟨wo, by simp, o2 e⟩))
        · exact Or.inl ((hbl _).2 (Or.inr ⟨x, by simp at hx ⊢; rcases hx with e | e <;> simp [e], e⟩))
        · exact Or.inr (Or.inr ((hbn k).2 e))
        · exact absurd e o3
    · exact Or.inr (Or.inl (by omega))
  · rcases hk with hk | hk | hk
    · exact (hbl k).2 (Or.inl hk)
    · exact (hbl k).2 (Or.inr ⟨vo, by simp, hk⟩)
    · exact (hbl k).2 (Or.inr ⟨wo, by simp, hk⟩)
/-- The list that was kept last can still be read. -/
theorem Here.bookLast {w0 w : World} {l : List Thing} {base q n : Nat} {v : Value} {L : List ByteArray} (h : Here w0 l w) (i : Nat) (hi : l[i]? = some (BookTh base q n (some (v, L)))) : OwnT w base v L := by
  obtain ⟨bl, ⟨vo, wo, vs, ws, ls, hB, _, _, hlast, _⟩, _, _⟩ := h.focus i hi
  obtain ⟨j, h1, h2⟩ := hlast v L rfl
  exact hB.eachV j v L h1 h2
theorem Here.bookApart {w0 w : World} {l : List Thing} {q n : Nat} {last : Option (Value × List ByteArray)} (h : Here w0 l w) (i : Nat) (hi : l[i]? = some (BookTh w0.heap.size q n last)) (hn : n ≤ 1000) : Calls Tryz.prog 22 #[.pointer (some ⟨q, 0, none⟩)] w fun e w' => e = .returned (.bool true) ∧ Below w0.heap.size w0 w' := by
  obtain ⟨bl, ⟨vo, wo, vs, ws, ls, hB, hlen, hls, _, _⟩, _, _⟩ := h.focus i hi
  refine (book_apartT w0.heap.size q vo wo vs ws ls w hB (by omega) (fun i m hm => by have := hls i m hm; omega) h.sz).mono ?_
  rintro e w' ⟨rfl, b⟩
  exact ⟨rfl, h.bel.trans b⟩

end Go.Proofs.YtjemklgfenciaaaGreat
