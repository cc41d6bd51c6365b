/-
  Several things that lie side by side in memory, each in blocks of its own: what turns one leaves the others as they were.
-/
import Derived.Test.YtjemklgfenciaaaBok0
import Derived.Test.YtjemklgfenciaaaRowT
import Derived.Deep.Draws
namespace Go.Proofs.Ytjemklgfenciaaa
open Go.RowKit
set_option linter.unusedVariables false
set_option maxRecDepth 100000
set_option linter.unusedSimpArgs false

/-- Something that lies in memory, in some blocks. -/
structure Thing where
  At : World → (Nat → Prop) → Prop
  lt : ∀ {w : World} {bl : Nat → Prop}, At w bl → ∀ k, bl k → k < w.heap.size
  keep : ∀ {S : Nat → Prop} {w w' : World} {bl : Nat → Prop}, At w bl → Touch S w w' → (∀ k, bl k → ¬ S k) → At w' bl
/-- From w to w' some of the blocks bl were turned, and new ones made: in these now lies P'. -/
def Turns (w : World) (bl : Nat → Prop) (P' : Thing) (w' : World) : Prop := ∃ bl', P'.At w' bl' ∧ (∀ k, bl' k → bl k ∨ w.heap.size ≤ k) ∧ Touch bl w w'
def Things : List Thing → World → (Nat → Prop) → Prop
  | [], _, bl => ∀ k, ¬ bl k
  | P :: l, w, bl => ∃ b1 b2, P.At w b1 ∧ Things l w b2 ∧ (∀ k, b1 k → ¬ b2 k) ∧ (∀ k, bl k ↔ b1 k ∨ b2 k)
theorem Things.lt : ∀ {l : List Thing} {w : World} {bl : Nat → Prop}, Things l w bl → ∀ k, bl k → k < w.heap.size
  | [], _, _, h, k, hk => absurd hk (h k)
  | P :: l, w, bl, h, k, hk => by
    obtain ⟨b1, b2, h1, h2, _, hb⟩ := h
    rcases (hb k).1 hk with hk | hk
    · exact P.lt h1 k hk
    · exact Things.lt h2 k hk
theorem Things.keep {S : Nat → Prop} {w w' : World} : ∀ {l : List Thing} {bl : Nat → Prop}, Things l w bl → Touch S w w' → (∀ k, bl k → ¬ S k) → Things l w' bl
  | [], _, h, _, _ => h
  | P :: l, bl, h, ht, hn => by
    obtain ⟨b1, b2, h1, h2, hd, hb⟩ := h
    exact ⟨b1, b2, P.keep h1 ht (fun k hk => hn k ((hb k).2 (Or.inl hk))), Things.keep h2 ht (fun k hk => hn k ((hb k).2 (Or.inr hk))), hd, hb⟩
/-- One of them at hand; it may be turned, and new things laid ahead of all. -/
theorem Things.focus {w : World} : ∀ {l : List Thing} {bl : Nat → Prop} (i : Nat) (P : Thing), l[i]? = some P → Things l w bl →
    ∃ b1, P.At w b1 ∧ (∀ k, b1 k → bl k) ∧ ∀ (P' : Thing) (w' : World) (b1' : Nat → Prop), P'.At w' b1' → (∀ k, b1' k → b1 k ∨ w.heap.size ≤ k) → Touch b1 w w' → ∃ bl', Things (l.set i P') w' bl' ∧ (∀ k, bl' k → bl k ∨ w.heap.size ≤ k) ∧ (∀ k, bl' k → b1' k ∨ bl k ∧ ¬ b1 k)
  | [], _, i, P, hi, _ => by simp at hi
  | Q :: l, bl, 0, P, hi, h => by
    obtain ⟨b1, b2, h1, h2, hd, hb⟩ := h
    have e : Q = P := by simpa using hi
    subst e
    refine ⟨b1, h1, fun k hk => (hb k).2 (Or.inl hk), fun P' w' b1' h' hn ht => ⟨fun k => b1' k ∨ b2 k, ⟨b1', b2, h', Things.keep h2 ht (fun k hk hk1 => hd k hk1 hk), fun k hk hk2 => ?_, fun k => Iff.rfl⟩, fun k hk => ?_, fun k hk => ?_⟩⟩
    · rcases hn k hk with hk1 | hk1
      · exact hd k hk1 hk2
      · have := Things.lt h2 k hk2; omega
    · rcases hk with hk | hk
      · rcases hn k hk with hk1 | hk1
        · exact Or.inl ((hb k).2 (Or.inl hk1))
        · exact Or.inr hk1
      · exact Or.inl ((hb k).2 (Or.inr hk))
    · rcases hk with hk | hk
      · exact Or.inl hk
      · exact Or.inr ⟨(hb k).2 (Or.inr hk), fun hk1 => hd k hk1 hk⟩
  | Q :: l, bl, i + 1, P, hi, h => by
    obtain ⟨b0, b2, h1, h2, hd, hb⟩ := h
    obtain ⟨b1, hP, hsub, hstep⟩ := Things.focus (l := l) i P (by simpa using hi) h2
    refine ⟨b1, hP, fun k hk => (hb k).2 (Or.inr (hsub k hk)), fun P' w' b1' h' hn ht => ?_⟩
    obtain ⟨bl', g1, g2, g3⟩ := hstep P' w' b1' h' hn ht
    refine ⟨fun k => b0 k ∨ bl' k, ⟨b0, bl', Q.keep h1 ht (fun k hk hk1 => hd k hk (hsub k hk1)), g1, fun k hk hk2 => ?_, fun k => Iff.rfl⟩, fun k hk => ?_, fun k hk => ?_⟩
    · rcases g2 k hk2 with hk1 | hk1
      · exact hd k hk hk1
      · have := Q.lt h1 k hk; omega
    · rcases hk with hk | hk
      · exact Or.inl ((hb k).2 (Or.inl hk))
      · rcases g2 k hk with hk | hk
        · exact Or.inl ((hb k).2 (Or.inr hk))
        · exact Or.inr hk
    · rcases hk with hk | hk
      · exact Or.inr ⟨(hb k).2 (Or.inl hk), fun hk1 => hd k hk (hsub k hk1)⟩
      · rcases g3 k hk with hk | ⟨hk, hk1⟩
        · exact Or.inl hk
        · exact Or.inr ⟨(hb k).2 (Or.inr hk), hk1⟩

/-- These things lie here, all in memory that was made since w0; nothing elder was turned. -/
structure Here (w0 : World) (l : List Thing) (w : World) : Prop where
  at_ : ∃ bl, Things l w bl ∧ ∀ k, bl k → w0.heap.size ≤ k
  bel : Below w0.heap.size w0 w
section
variable {w0 w w' : World} {l : List Thing}
theorem Here.sz (h : Here w0 l w) : w0.heap.size ≤ w.heap.size := h.bel.size
theorem Here.start (w0 : World) : Here w0 [] w0 := ⟨⟨fun _ => False, fun _ h => h, fun _ h => h.elim⟩, Below.refl _ _⟩
theorem Here.start' (h : Below w0.heap.size w0 w) : Here w0 [] w := ⟨⟨fun _ => False, fun _ h => h, fun _ h => h.elim⟩, h⟩
theorem Here.below (h : Here w0 l w) (hb : Below w.heap.size w w') : Here w0 l w' := by
  obtain ⟨bl, hl, hB⟩ := h.at_
  exact ⟨⟨bl, Things.keep hl (Touch.of_below (S := fun _ => False) hb) (fun _ _ x => x), hB⟩, h.bel.trans (hb.mono h.sz)⟩
theorem Here.drew (h : Here w0 l w) : Here w0 l w.drew := h.below ((Below.refl _ _).drew)
theorem Here.drewN (h : Here w0 l w) (m : Nat) : Here w0 l (w.drewN m) := h.below ((⟨rfl, rfl, rfl, Nat.le_refl _, fun _ _ _ => rfl⟩ : Touch (fun _ => False) w (w.drewN m)).below (fun _ h => h.elim) (Nat.le_refl _))
theorem Here.alloc (h : Here w0 l w) (o : Obj) : Here w0 l (w.alloc o) := h.below ((Below.refl _ _).alloc (Nat.le_refl _) o)
/-- One at hand. -/
theorem Here.focus (h : Here w0 l w) (i : Nat) {P : Thing} (hi : l[i]? = some P) : ∃ bl, P.At w bl ∧ (∀ k, bl k → w0.heap.size ≤ k) ∧ ∀ (P' : Thing) (w' : World), Turns w bl P' w' → Here w0 (l.set i P') w' := by
  obtain ⟨bl, hl, hB⟩ := h.at_
  obtain ⟨b1, hP, hsub, hstep⟩ := hl.focus i P hi
  refine ⟨b1, hP, fun k hk => hB k (hsub k hk), fun P' w' ht => ?_⟩
  obtain ⟨b1', h', hn, ht⟩ := ht
  obtain ⟨bl', g1, g2, _⟩ := hstep P' w' b1' h' hn ht
  refine ⟨⟨bl', g1, fun k hk => ?_⟩, h.bel.trans (ht.below (fun k hk => hB k (hsub k hk)) h.sz)⟩
  rcases g2 k hk with hk | hk
  · exact hB k hk
  · exact Nat.le_trans h.sz hk
/-- One at hand is turned, and beside it a new thing is laid. -/
theorem Here.focus2 (h : Here w0 l w) (i : Nat) {P : Thing} (hi : l[i]? = some P) : ∃ bl, P.At w bl ∧ (∀ k, bl k → w0.heap.size ≤ k) ∧
    ∀ (P' N : Thing) (w' : World) (bl' bn : Nat → Prop), P'.At w' bl' → (∀ k, bl' k → bl k ∨ w.heap.size ≤ k) → N.At w' bn → (∀ k, bn k → w.heap.size ≤ k ∧ ¬ bl' k) → Touch bl w w' → Here w0 (N :: l.set i P') w' := by
  obtain ⟨bl, hl, hB⟩ := h.at_
  obtain ⟨b1, hP, hsub, hstep⟩ := hl.focus i P hi
  refine ⟨b1, hP, fun k hk => hB k (hsub k hk), fun P' N w' b1' bn h' hn hN hbn ht => ?_⟩
  obtain ⟨bl', g1, g2, g3⟩ := hstep P' w' b1' h' hn ht
  refine ⟨⟨fun k => bn k ∨ bl' k, ⟨bn, bl', hN, g1, fun k hk hk2 => ?_, fun k => Iff.rfl⟩, fun k hk => ?_⟩, h.bel.trans (ht.below (fun k hk => hB k (hsub k hk)) h.sz)⟩
  · obtain ⟨q1, q2⟩ := hbn k hk
    rcases g3 k hk2 with hk3 | ⟨hk3, _⟩
    · exact q2 hk3
    · have := Things.lt hl k hk3; omega
  · rcases hk with hk | hk
    · exact Nat.le_trans h.sz (hbn k hk).1
    · rcases g2 k hk with hk | hk
      · exact hB k hk
      · exact Nat.le_trans h.sz hk
/-- A new thing, laid in new memory. -/
theorem Here.new (h : Here w0 l w) {N : Thing} {bn : Nat → Prop} (hN : N.At w' bn) (hbn : ∀ k, bn k → w.heap.size ≤ k) (hb : Below w.heap.size w w') : Here w0 (N :: l) w' := by
  obtain ⟨bl, hl, hB⟩ := h.at_
  refine ⟨⟨fun k => bn k ∨ bl k, ⟨bn, bl, hN, Things.keep hl (Touch.of_below (S := fun _ => False) hb) (fun _ _ x => x), fun k hk hk2 => ?_, fun k => Iff.rfl⟩, fun k hk => ?_⟩, h.bel.trans (hb.mono h.sz)⟩
  · have := hbn k hk
    have := Things.lt hl k hk2
    omega
  · rcases hk with hk | hk
    · exact Nat.le_trans h.sz (hbn k hk)
    · exact hB k hk
/-- The first is let go. -/
theorem Here.tail {P : Thing} (h : Here w0 (P :: l) w) : Here w0 l w := by
  obtain ⟨bl, ⟨b1, b2, _, h2, _, hb⟩, hB⟩ := h.at_
  exact ⟨⟨b2, h2, fun k hk => hB k ((hb k).2 (Or.inr hk))⟩, h.bel⟩
theorem Here.swap {P Q : Thing} (h : Here w0 (P :: Q :: l) w) : Here w0 (Q :: P :: l) w := by
  obtain ⟨bl, ⟨b1, b2, h1, ⟨b3, b4, h3, h4, hd2, hb2⟩, hd, hb⟩, hB⟩ := h.at_
  refine ⟨⟨bl, ⟨b3, fun k => b1 k ∨ b4 k, h3, ⟨b1, b4, h1, h4, fun k hk hk4 => hd k hk ((hb2 k).2 (Or.inr hk4)), fun k => Iff.rfl⟩, fun k hk hk2 => ?_, fun k => ?_⟩, hB⟩, h.bel⟩
  · rcases hk2 with hk2 | hk2
    · exact hd k hk2 ((hb2 k).2 (Or.inl hk))
    · exact hd2 k hk hk2
  · rw [hb, hb2]
    constructor
    · rintro (h | h | h)
      · exact Or.inr (Or.inl h)
      · exact Or.inl h
      · exact Or.inr (Or.inr h)
    · rintro (h | h | h)
      · exact Or.inr (Or.inl h)
      · exact Or.inl h
      · exact Or.inr (Or.inr h)
/-- The first two are one. -/
theorem Here.join {P Q R : Thing} (h : Here w0 (P :: Q :: l) w) (hj : ∀ b1 b2, P.At w b1 → Q.At w b2 → (∀ k, b1 k → ¬ b2 k) → R.At w (fun k => b1 k ∨ b2 k)) : Here w0 (R :: l) w := by
  obtain ⟨bl, ⟨b1, b2, h1, ⟨b3, b4, h3, h4, hd2, hb2⟩, hd, hb⟩, hB⟩ := h.at_
  refine ⟨⟨bl, ⟨fun k => b1 k ∨ b3 k, b4, hj b1 b3 h1 h3 (fun k hk hk3 => hd k hk ((hb2 k).2 (Or.inl hk3))), h4, fun k hk hk4 => ?_, fun k => ?_⟩, hB⟩, h.bel⟩
  · rcases hk with hk | hk
    · exact hd k hk ((hb2 k).2 (Or.inr hk4))
    · exact hd2 k hk hk4
  · rw [hb, hb2]
    constructor
    · rintro (h | h | h)
      · exact Or.inl (Or.inl h)
      · exact Or.inl (Or.inr h)
      · exact Or.inr h
    · rintro ((h | h) | h)
      · exact Or.inl h
      · exact Or.inr (Or.inl h)
      · exact Or.inr (Or.inr h)
/-- The first is seen as another. -/
theorem Here.as {P Q : Thing} (h : Here w0 (P :: l) w) (hj : ∀ b, P.At w b → Q.At w b) : Here w0 (Q :: l) w := by
  obtain ⟨bl, ⟨b1, b2, h1, h2, hd, hb⟩, hB⟩ := h.at_
  exact ⟨⟨bl, ⟨b1, b2, hj b1 h1, h2, hd, hb⟩, hB⟩, h.bel⟩
end

/-- A list of texts of the call's own. -/
def TextsTh (base : Nat) (v : Value) (L : List ByteArray) : Thing where
  At w bl := OwnT w base v L ∧ ∀ k, bl k ↔ v.ownBlock = some k
  lt h k hk := (World.ownsRow.lt h.1 k ((h.2 k).1 hk)).2
  keep h ht hn := ⟨own_touch h.1 ht (fun k hk => hn k ((h.2 k).2 hk)), h.2⟩
theorem Here.texts {w0 w : World} {l : List Thing} {base : Nat} {v : Value} {L : List ByteArray} (h : Here w0 l w) (i : Nat) (hi : l[i]? = some (TextsTh base v L)) : OwnT w base v L := by
  obtain ⟨bl, hP, _, _⟩ := h.focus i hi
  exact hP.1
/-- A list that grew. -/
theorem Here.grow {w0 w w' : World} {l : List Thing} {base : Nat} {v v' : Value} {L L' : List ByteArray} (h : Here w0 l w) (i : Nat) (hi : l[i]? = some (TextsTh base v L)) (ho : OwnT w' base v' L') (hg : w.grownBy w' v.ownBlock) (hat : v'.ownBlock = v.ownBlock ∨ v'.ownBlock = some w.heap.size ∧ w.grownBy w' none) : Here w0 (l.set i (TextsTh base v' L')) w' := by
  obtain ⟨bl, ⟨_, hb⟩, _, hstep⟩ := h.focus i hi
  refine hstep _ _ ⟨fun k => v'.ownBlock = some k, ⟨ho, fun k => Iff.rfl⟩, fun k hk => ?_, (touch_grown hg).mono (fun k _ hk => (hb k).2 hk)⟩
  rcases hat with hat | ⟨hat, _⟩
  · exact Or.inl ((hb k).2 (by rw [← hat]; exact hk))
  · rw [hat] at hk
    exact Or.inr (by have := Option.some.inj hk; omega)
theorem Here.newTexts {w0 w : World} {l : List Thing} (h : Here w0 l w) (base : Nat) : Here w0 (TextsTh base (.slice none 0 0) [] :: l) w :=
  h.new (bn := fun _ => False) ⟨⟨rfl, Or.inl ⟨rfl, rfl⟩⟩, fun k => by simp [Value.ownBlock]⟩ (fun _ x => x.elim) (Below.refl _ _)

end Go.Proofs.Ytjemklgfenciaaa
