/-
  Parts of this proof, one behind the other: Sep0, Win0, WinK0, Win1.
-/
import Derived.Test.YtanghehmfagmfaaGreatDoorBun34
import Derived.Test.YtanghehmfagmfaaGreatDoorBun26
import Derived.Deep.Draws
import Derived.Test.YtanghehmfagmfaaGreatDoorProg
import Derived.Test.YtanghehmfagmfaaGreatDoorBun1

/-
  Several things that lie side by side in memory, each in blocks of its own: what turns one leaves the others as they were.
-/
namespace Go.Proofs.YtanghehmfagmfaaGreatDoor
open Go.RowKit
set_option linter.unusedVariables false
set_option maxRecDepth 100000
set_option linter.unusedSimpArgs false

/-- Something that lies in memory, in some blocks. -/
structure Thing where
  At : World → (Nat → Prop) → Prop
  lt : ∀ {w : World} {bl : Nat → Prop}, At w bl → ∀ k, bl k → k < w.heap.size
  keep : ∀ {S : Nat → Prop} {w w' : World} {bl : Nat → Prop}, At w bl → Touch S w w' → (∀ k, bl k → ¬ S k) → At w' bl
/-- From w to w' some of the blocks bl were turned, and new ones made: in these now lies P'. -/
def Turns (w : World) (bl : Nat → Prop) (P' : Thing) (w' : World) : Prop := ∃ bl', P'.At w' bl' ∧ (∀ k, bl' k → bl k ∨ w.heap.size ≤ k) ∧ Touch bl w w'
def Things : List Thing → World → (Nat → Prop) → Prop
  | [], _, bl => ∀ k, ¬ bl k
  | P :: l, w, bl => ∃ b1 b2, P.At w b1 ∧ Things l w b2 ∧ (∀ k, b1 k → ¬ b2 k) ∧ (∀ k, bl k ↔ b1 k ∨ b2 k)
theorem Things.lt : ∀ {l : List Thing} {w : World} {bl : Nat → Prop}, Things l w bl → ∀ k, bl k → k < w.heap.size
  | [], _, _, h, k, hk => absurd hk (h k)
  | P :: l, w, bl, h, k, hk => by
    obtain ⟨b1, b2, h1, h2, _, hb⟩ := h
    rcases (hb k).1 hk with hk | hk
    · exact P.lt h1 k hk
    · exact Things.lt h2 k hk
theorem Things.keep {S : Nat → Prop} {w w' : World} : ∀ {l : List Thing} {bl : Nat → Prop}, Things l w bl → Touch S w w' → (∀ k, bl k → ¬ S k) → Things l w' bl
  | [], _, h, _, _ => h
  | P :: l, bl, h, ht, hn => by
    obtain ⟨b1, b2, h1, h2, hd, hb⟩ := h
    exact ⟨b1, b2, P.keep h1 ht (fun k hk => hn k ((hb k).2 (Or.inl hk))), Things.keep h2 ht (fun k hk => hn k ((hb k).2 (Or.inr hk))), hd, hb⟩
/-- One of them at hand; it may be turned, and new things laid ahead of all. -/
theorem Things.focus {w : World} : ∀ {l : List Thing} {bl : Nat → Prop} (i : Nat) (P : Thing), l[i]? = some P → Things l w bl →
    ∃ b1, P.At w b1 ∧ (∀ k, b1 k → bl k) ∧ ∀ (P' : Thing) (w' : World) (b1' : Nat → Prop), P'.At w' b1' → (∀ k, b1' k → b1 k ∨ w.heap.size ≤ k) → Touch b1 w w' → ∃ bl', Things (l.set i P') w' bl' ∧ (∀ k, bl' k → bl k ∨ w.heap.size ≤ k) ∧ (∀ k, bl' k → b1' k ∨ bl k ∧ ¬ b1 k)
  | [], _, i, P, hi, _ => by simp at hi
  | Q :: l, bl, 0, P, hi, h => by
    obtain ⟨b1, b2, h1, h2, hd, hb⟩ := h
    have e : Q = P := by simpa using hi
    subst e
    refine ⟨b1, h1, fun k hk => (hb k).2 (Or.inl hk), fun P' w' b1' h' hn ht => ⟨fun k => b1' k ∨ b2 k, ⟨b1', b2, h', Things.keep h2 ht (fun k hk hk1 => hd k hk1 hk), fun k hk hk2 => ?_, fun k => Iff.rfl⟩, fun k hk => ?_, fun k hk => ?_⟩⟩
    · rcases hn k hk with hk1 | hk1
      · exact hd k hk1 hk2
      · have := Things.lt h2 k hk2; omega
    · rcases hk with hk | hk
      · rcases hn k hk with hk1 | hk1
        · exact Or.inl ((hb k).2 (Or.inl hk1))
        · exact Or.inr hk1
      · exact Or.inl ((hb k).2 (Or.inr hk))
    · rcases hk with hk | hk
      · exact Or.inl hk
      · exact Or.inr ⟨(hb k).2 (Or.inr hk), fun hk1 => hd k hk1 hk⟩
  | Q :: l, bl, i + 1, P, hi, h => by
    obtain ⟨b0, b2, h1, h2, hd, hb⟩ := h
    obtain ⟨b1, hP, hsub, hstep⟩ := Things.focus (l := l) i P (by simpa using hi) h2
    refine ⟨b1, hP, fun k hk => (hb k).2 (Or.inr (hsub k hk)), fun P' w' b1' h' hn ht => ?_⟩
    obtain ⟨bl', g1, g2, g3⟩ := hstep P' w' b1' h' hn ht
    refine ⟨fun k => b0 k ∨ bl' k, ⟨b0, bl', Q.keep h1 ht (fun k hk hk1 => hd k hk (hsub k hk1)), g1, fun k hk hk2 => ?_, fun k => Iff.rfl⟩, fun k hk => ?_, fun k hk => ?_⟩
    · rcases g2 k hk2 with hk1 | hk1
      · exact hd k hk hk1
      · have := Q.lt h1 k hk; omega
    · rcases hk with hk | hk
      · exact Or.inl ((hb k).2 (Or.inl hk))
      · rcases g2 k hk with hk | hk
        · exact Or.inl ((hb k).2 (Or.inr hk))
        · exact Or.inr hk
    · rcases hk with hk | hk
      · exact Or.inr ⟨(hb k).2 (Or.inl hk), fun hk1 => hd k hk (hsub k hk1)⟩
      · rcases g3 k hk with hk | ⟨hk, hk1⟩
        · exact Or.inl hk
        · exact Or.inr ⟨(hb k).2 (Or.inr hk), hk1⟩

/-- These things lie here, all in memory that was made since w0; nothing elder was turned. -/
structure Here (w0 : World) (l : List Thing) (w : World) : Prop where
  at_ : ∃ bl, Things l w bl ∧ ∀ k, bl k → w0.heap.size ≤ k
  bel : Below w0.heap.size w0 w
section
variable {w0 w w' : World} {l : List Thing}
theorem Here.sz (h : Here w0 l w) : w0.heap.size ≤ w.heap.size := h.bel.size
theorem Here.start (w0 : World) : Here w0 [] w0 := ⟨⟨fun _ => False, fun _ h => h, fun _ h => h.elim⟩, Below.refl _ _⟩
theorem Here.start' (h : Below w0.heap.size w0 w) : Here w0 [] w := ⟨⟨fun _ => False, fun _ h => h, fun _ h => h.elim⟩, h⟩
theorem Here.below (h : Here w0 l w) (hb : Below w.heap.size w w') : Here w0 l w' := by
  obtain ⟨bl, hl, hB⟩ := h.at_
  exact ⟨⟨bl, Things.keep hl (Touch.of_below (S := fun _ => False) hb) (fun _ _ x => x), hB⟩, h.bel.trans (hb.mono h.sz)⟩
theorem Here.drew (h : Here w0 l w) : Here w0 l w.drew := h.below ((Below.refl _ _).drew)
theorem Here.drewN (h : Here w0 l w) (m : Nat) : Here w0 l (w.drewN m) := h.below ((⟨rfl, rfl, rfl, Nat.le_refl _, fun _ _ _ => rfl⟩ : Touch (fun _ => False) w (w.drewN m)).below (fun _ h => h.elim) (Nat.le_refl _))
theorem Here.alloc (h : Here w0 l w) (o : Obj) : Here w0 l (w.alloc o) := h.below ((Below.refl _ _).alloc (Nat.le_refl _) o)
/-- One at hand. -/
theorem Here.focus (h : Here w0 l w) (i : Nat) {P : Thing} (hi : l[i]? = some P) : ∃ bl, P.At w bl ∧ (∀ k, bl k → w0.heap.size ≤ k) ∧ ∀ (P' : Thing) (w' : World), Turns w bl P' w' → Here w0 (l.set i P') w' := by
  obtain ⟨bl, hl, hB⟩ := h.at_
  obtain ⟨b1, hP, hsub, hstep⟩ := hl.focus i P hi
  refine ⟨b1, hP, fun k hk => hB k (hsub k hk), fun P' w' ht => ?_⟩
  obtain ⟨b1', h', hn, ht⟩ := ht
  obtain ⟨bl', g1, g2, _⟩ := hstep P' w' b1' h' hn ht
  refine ⟨⟨bl', g1, fun k hk => ?_⟩, h.bel.trans (ht.below (fun k hk => hB k (hsub k hk)) h.sz)⟩
  rcases g2 k hk with hk | hk
  · exact hB k hk
  · exact Nat.le_trans h.sz hk
/-- One at hand is turned, and beside it a new thing is laid. -/
theorem Here.focus2 (h : Here w0 l w) (i : Nat) {P : Thing} (hi : l[i]? = some P) : ∃ bl, P.At w bl ∧ (∀ k, bl k → w0.heap.size ≤ k) ∧
    ∀ (P' N : Thing) (w' : World) (bl' bn : Nat → Prop), P'.At w' bl' → (∀ k, bl' k → bl k ∨ w.heap.size ≤ k) → N.At w' bn → (∀ k, bn k → w.heap.size ≤ k ∧ ¬ bl' k) → Touch bl w w' → Here w0 (N :: l.set i P') w' := by
  obtain ⟨bl, hl, hB⟩ := h.at_
  obtain ⟨b1, hP, hsub, hstep⟩ := hl.focus i P hi
  refine ⟨b1, hP, fun k hk => hB k (hsub k hk), fun P' N w' b1' bn h' hn hN hbn ht => ?_⟩
  obtain ⟨bl', g1, g2, g3⟩ := hstep P' w' b1' h' hn ht
  refine ⟨⟨fun k => bn k ∨ bl' k, ⟨bn, bl', hN, g1, fun k hk hk2 => ?_, fun k => Iff.rfl⟩, fun k hk => ?_⟩, h.bel.trans (ht.below (fun k hk => hB k (hsub k hk)) h.sz)⟩
  · obtain ⟨q1, q2⟩ := hbn k hk
    rcases g3 k hk2 with hk3 | ⟨hk3, _⟩
    · exact q2 hk3
    · have := Things.lt hl k hk3; omega
  · rcases hk with hk | hk
    · exact Nat.le_trans h.sz (hbn k hk).1
    · rcases g2 k hk with hk | hk
      · exact hB k hk
      · exact Nat.le_trans h.sz hk
/-- A new thing, laid in new memory. -/
theorem Here.new (h : Here w0 l w) {N : Thing} {bn : Nat → Prop} (hN : N.At w' bn) (hbn : ∀ k, bn k → w.heap.size ≤ k) (hb : Below w.heap.size w w') : Here w0 (N :: l) w' := by
  obtain ⟨bl, hl, hB⟩ := h.at_
  refine ⟨⟨fun k => bn k ∨ bl k, ⟨bn, bl, hN, Things.keep hl (Touch.of_below (S := fun _ => False) hb) (fun _ _ x => x), fun k hk hk2 => ?_, fun k => Iff.rfl⟩, fun k hk => ?_⟩, h.bel.trans (hb.mono h.sz)⟩
  · have := hbn k hk
    have := Things.lt hl k hk2
    omega
  · rcases hk with hk | hk
    · exact Nat.le_trans h.sz (hbn k hk)
    · exact hB k hk
/-- The first is let go. -/
theorem Here.tail {P : Thing} (h : Here w0 (P :: l) w) : Here w0 l w := by
  obtain ⟨bl, ⟨b1, b2, _, h2, _, hb⟩, hB⟩ := h.at_
  exact ⟨⟨b2, h2, fun k hk => hB k ((hb k).2 (Or.inr hk))⟩, h.bel⟩
theorem Here.swap {P Q : Thing} (h : Here w0 (P :: Q :: l) w) : Here w0 (Q :: P :: l) w := by
  obtain ⟨bl, ⟨b1, b2, h1, ⟨b3, b4, h3, h4, hd2, hb2⟩, hd, hb⟩, hB⟩ := h.at_
  refine ⟨⟨bl, ⟨b3, fun k => b1 k ∨ b4 k, h3, ⟨b1, b4, h1, h4, fun k hk hk4 => hd k hk ((hb2 k).2 (Or.inr hk4)), fun k => Iff.rfl⟩, fun k hk hk2 => ?_, fun k => ?_⟩, hB⟩, h.bel⟩
  · rcases hk2 with hk2 | hk2
    · exact hd k hk2 ((hb2 k).2 (Or.inl hk))
    · exact hd2 k hk hk2
  · rw [hb, hb2]
    constructor
    · rintro (h | h | h)
      · exact Or.inr (Or.inl h)
      · exact Or.inl h
      · exact Or.inr (Or.inr h)
    · rintro (h | h | h)
      · exact Or.inr (Or.inl h)
      · exact Or.inl h
      · exact Or.inr (Or.inr h)
/-- The first is seen as another. -/
theorem Here.as {P Q : Thing} (h : Here w0 (P :: l) w) (hj : ∀ b, P.At w b → Q.At w b) : Here w0 (Q :: l) w := by
  obtain ⟨bl, ⟨b1, b2, h1, h2, hd, hb⟩, hB⟩ := h.at_
  exact ⟨⟨bl, ⟨b1, b2, hj b1 h1, h2, hd, hb⟩, hB⟩, h.bel⟩
end

/-- A list of texts of the call's own. -/
def TextsTh (base : Nat) (v : Value) (L : List ByteArray) : Thing where
  At w bl := OwnT w base v L ∧ ∀ k, bl k ↔ v.ownBlock = some k
  lt h k hk := (World.ownsRow.lt h.1 k ((h.2 k).1 hk)).2
  keep h ht hn := ⟨own_touch h.1 ht (fun k hk => hn k ((h.2 k).2 hk)), h.2⟩
theorem Here.texts {w0 w : World} {l : List Thing} {base : Nat} {v : Value} {L : List ByteArray} (h : Here w0 l w) (i : Nat) (hi : l[i]? = some (TextsTh base v L)) : OwnT w base v L := by
  obtain ⟨bl, hP, _, _⟩ := h.focus i hi
  exact hP.1
/-- A list that grew. -/
theorem Here.grow {w0 w w' : World} {l : List Thing} {base : Nat} {v v' : Value} {L L' : List ByteArray} (h : Here w0 l w) (i : Nat) (hi : l[i]? = some (TextsTh base v L)) (ho : OwnT w' base v' L') (hg : w.grownBy w' v.ownBlock) (hat : v'.ownBlock = v.ownBlock ∨ v'.ownBlock = some w.heap.size ∧ w.grownBy w' none) : Here w0 (l.set i (TextsTh base v' L')) w' := by
  obtain ⟨bl, ⟨_, hb⟩, _, hstep⟩ := h.focus i hi
  refine hstep _ _ ⟨fun k => v'.ownBlock = some k, ⟨ho, fun k => Iff.rfl⟩, fun k hk => ?_, (touch_grown hg).mono (fun k _ hk => (hb k).2 hk)⟩
  rcases hat with hat | ⟨hat, _⟩
  · exact Or.inl ((hb k).2 (by rw [← hat]; exact hk))
  · rw [hat] at hk
    exact Or.inr (by have := Option.some.inj hk; omega)
theorem Here.newTexts {w0 w : World} {l : List Thing} (h : Here w0 l w) (base : Nat) : Here w0 (TextsTh base (.slice none 0 0) [] :: l) w :=
  h.new (bn := fun _ => False) ⟨⟨rfl, Or.inl ⟨rfl, rfl⟩⟩, fun k => by simp [Value.ownBlock]⟩ (fun _ x => x.elim) (Below.refl _ _)

end Go.Proofs.YtanghehmfagmfaaGreatDoor

/-
  Plain mathematics of package window: what has been taken, the next one, those ahead.
-/
namespace Go.Proofs.YtanghehmfagmfaaGreatDoor
set_option linter.unusedVariables false
set_option maxRecDepth 100000
set_option linter.unusedSimpArgs false

/-- The first from n on that is not among T (so many are looked at). -/
def firstW (T : List Int) : Nat → Nat → Nat
  | 0, n => n
  | f + 1, n => if (n : Int) ∈ T then firstW T f (n + 1) else n
theorem firstW_ge (T : List Int) : ∀ f n, n ≤ firstW T f n
  | 0, n => Nat.le_refl _
  | f + 1, n => by
    unfold firstW
    split
    · exact Nat.le_trans (Nat.le_succ _) (firstW_ge T f (n + 1))
    · exact Nat.le_refl _
theorem firstW_in (T : List Int) : ∀ f n (j : Nat), n ≤ j → j < firstW T f n → (j : Int) ∈ T
  | 0, n, j, h1, h2 => by unfold firstW at h2; omega
  | f + 1, n, j, h1, h2 => by
    unfold firstW at h2
    split at h2
    · rename_i h
      by_cases hj : j = n
      · subst hj; exact h
      · exact firstW_in T f (n + 1) j (by omega) h2
    · omega
theorem firstW_out (T : List Int) : ∀ (f n : Nat), (∀ x ∈ T, x < (n : Int) + (f : Int)) → ((firstW T f n : Nat) : Int) ∉ T
  | 0, n, h => fun hm => by have := h _ hm; unfold firstW at this; omega
  | f + 1, n, h => by
    unfold firstW
    split
    · exact firstW_out T f (n + 1) (fun x hx => by have := h x hx; push_cast; omega)
    · assumption
/-- It is the only one of the kind. -/
theorem firstW_is (T : List Int) (f n m : Nat) (hn : n ≤ m) (h1 : ∀ j : Nat, n ≤ j → j < m → (j : Int) ∈ T) (h2 : (m : Int) ∉ T) (hf : ∀ x ∈ T, x < (n : Int) + (f : Int)) : firstW T f n = m := by
  rcases Nat.lt_trichotomy (firstW T f n) m with h | h | h
  · exact absurd (h1 _ (firstW_ge T f n) h) (firstW_out T f n hf)
  · exact h
  · exact absurd (firstW_in T f n m hn h) h2

/-- What has been taken (T), and the least number that has not (n). -/
structure Wn where
  n : Nat
  T : List Int
def Wn.zero : Wn := ⟨0, []⟩
def Wn.may (s : Wn) (x : Int) : Bool := decide ((s.n : Int) ≤ x ∧ x < (s.n : Int) + 64 ∧ x ∉ s.T)
def Wn.take (s : Wn) (x : Int) : Wn := if s.may x = true then ⟨firstW (x :: s.T) 64 s.n, x :: s.T⟩ else s
def Wn.ahead (s : Wn) : List Int := ((List.range 64).map fun j : Nat => (s.n : Int) + (j : Int)).filter fun x => decide (x ∈ s.T)
structure Wn.Ok (s : Wn) : Prop where
  low : ∀ j : Nat, j < s.n → (j : Int) ∈ s.T
  out : (s.n : Int) ∉ s.T
  range : ∀ x ∈ s.T, 0 ≤ x ∧ x < (s.n : Int) + 64
theorem Wn.ok_zero : Wn.zero.Ok := ⟨fun j hj => absurd hj (Nat.not_lt_zero _), by simp [Wn.zero], by simp [Wn.zero]⟩
theorem Wn.may_iff (s : Wn) (x : Int) : s.may x = true ↔ (s.n : Int) ≤ x ∧ x < (s.n : Int) + 64 ∧ x ∉ s.T := by unfold Wn.may; exact decide_eq_true_iff
theorem Wn.take_yes {s : Wn} {x : Int} (h : s.may x = true) : s.take x = ⟨firstW (x :: s.T) 64 s.n, x :: s.T⟩ := by unfold Wn.take; rw [if_pos h]
theorem Wn.take_no {s : Wn} {x : Int} (h : s.may x = false) : s.take x = s := by unfold Wn.take; rw [h]; rfl
theorem Wn.Ok.take {s : Wn} (h : s.Ok) (x : Int) : (s.take x).Ok := by
  cases hm : s.may x with
  | false => rw [Wn.take_no hm]; exact h
  | true =>
    obtain ⟨h1, h2, h3⟩ := (Wn.may_iff s x).1 hm
    have hge := firstW_ge (x :: s.T) 64 s.n
    have hr : ∀ y ∈ x :: s.T, y < (s.n : Int) + 64 := by
      intro y hy
      rcases List.mem_cons.1 hy with rfl | hy
      · exact h2
      · exact (h.range y hy).2
    rw [Wn.take_yes hm]
    refine ⟨fun j hj => ?_, firstW_out _ _ _ hr, fun y hy => ?_⟩
    · by_cases hjn : j < s.n
      · exact List.mem_cons_of_mem _ (h.low j hjn)
      · exact firstW_in (x :: s.T) 64 s.n j (by omega) hj
    · have h5 := hr y hy
      have h6 : 0 ≤ y := by
        rcases List.mem_cons.1 hy with rfl | hy
        · omega
        · exact (h.range y hy).1
      exact ⟨h6, by show y < ((firstW (x :: s.T) 64 s.n : Nat) : Int) + 64; omega⟩
/-- All that was taken lies ahead of the next one: the next one is taken. -/
theorem Wn.take_next {s : Wn} (h : s.Ok) (hT : ∀ x ∈ s.T, x < (s.n : Int)) : s.may (s.n : Int) = true ∧ (s.take (s.n : Int)).n = s.n + 1 ∧ ∀ x ∈ (s.take (s.n : Int)).T, x < ((s.n + 1 : Nat) : Int) := by
  have hm : s.may (s.n : Int) = true := (Wn.may_iff s _).2 ⟨by omega, by omega, h.out⟩
  rw [Wn.take_yes hm]
  refine ⟨hm, ?_, fun x hx => ?_⟩
  · refine firstW_is _ 64 s.n (s.n + 1) (by omega) (fun j h1 h2 => ?_) (fun hx => ?_) (fun x hx => ?_)
    · obtain rfl : j = s.n := by omega
      exact List.mem_cons_self ..
    · rcases List.mem_cons.1 hx with e | hx
      · omega
      · have := hT _ hx; omega
    · rcases List.mem_cons.1 hx with rfl | hx
      · omega
      · have := hT _ hx; omega
  · rcases List.mem_cons.1 hx with rfl | hx
    · omega
    · have := hT _ hx; omega
theorem Wn.ahead_nil {s : Wn} (hT : ∀ x ∈ s.T, x < (s.n : Int)) : s.ahead = [] := by
  unfold Wn.ahead
  rw [List.filter_eq_nil_iff]
  intro a ha
  obtain ⟨j, _, rfl⟩ := List.mem_map.1 ha
  simp only [decide_eq_true_eq]
  intro hm
  have := hT _ hm
  omega
/-- The next one is missing, k behind it are there. -/
structure Wn.Gap (s : Wn) (g k : Nat) : Prop where
  ok : s.Ok
  n : s.n = g
  all : ∀ x ∈ s.T, x < (g : Int) ∨ (g : Int) < x ∧ x ≤ (g : Int) + (k : Int)
  each : ∀ j : Nat, 1 ≤ j → j ≤ k → (g : Int) + (j : Int) ∈ s.T
theorem Wn.Gap.more {s : Wn} {g k : Nat} (h : s.Gap g k) (hk : k + 1 < 64) : s.may ((g : Int) + ((k + 1 : Nat) : Int)) = true ∧ (s.take ((g : Int) + ((k + 1 : Nat) : Int))).Gap g (k + 1) := by
  have hn := h.n
  have hm : s.may ((g : Int) + ((k + 1 : Nat) : Int)) = true := (Wn.may_iff s _).2 ⟨by omega, by omega, fun hx => by have := h.all _ hx; omega⟩
  refine ⟨hm, h.ok.take _, ?_, ?_, ?_⟩
  · rw [Wn.take_yes hm, ← hn]
    refine firstW_is _ 64 s.n s.n (Nat.le_refl _) (fun j h1 h2 => absurd h1 (by omega)) (fun hx => ?_) (fun x hx => ?_)
    · rcases List.mem_cons.1 hx with e | hx
      · omega
      · exact h.ok.out hx
    · rcases List.mem_cons.1 hx with rfl | hx
      · omega
      · have := h.all _ hx; omega
  · intro x hx
    rw [Wn.take_yes hm] at hx
    rcases List.mem_cons.1 hx with rfl | hx
    · omega
    · have := h.all _ hx; omega
  · intro j h1 h2
    rw [Wn.take_yes hm]
    by_cases hj : j = k + 1
    · subst hj; exact List.mem_cons_self ..
    · exact List.mem_cons_of_mem _ (h.each j h1 (by omega))
theorem count_run : ∀ k : Fin 64, ((List.range 64).filter fun j => decide (1 ≤ j ∧ j ≤ k.val)).length = k.val := by decide +kernel
theorem Wn.Gap.ahead {s : Wn} {g k : Nat} (h : s.Gap g k) (hk : k < 64) : s.ahead.length = k := by
  unfold Wn.ahead
  rw [List.filter_map, List.length_map]
  refine Eq.trans (congrArg List.length ?_) (count_run ⟨k, hk⟩)
  apply List.filter_congr
  intro j hj
  have hn := h.n
  simp only [Function.comp]
  rw [decide_eq_decide]
  constructor
  · intro hx
    have := h.all _ hx
    omega
  · rintro ⟨h1, h2⟩
    rw [hn]
    exact h.each j h1 h2
/-- It comes: all are behind. -/
theorem Wn.Gap.fill {s : Wn} {g k : Nat} (h : s.Gap g k) (hk : k < 64) : s.may (g : Int) = true ∧ (s.take (g : Int)).n = g + k + 1 ∧ (s.take (g : Int)).ahead = [] := by
  have hn := h.n
  have hm : s.may (g : Int) = true := (Wn.may_iff s _).2 ⟨by omega, by omega, by rw [← hn]; exact h.ok.out⟩
  have e : (s.take (g : Int)).n = g + k + 1 := by
    rw [Wn.take_yes hm]
    refine firstW_is _ 64 s.n (g + k + 1) (by omega) (fun j h1 h2 => ?_) (fun hx => ?_) (fun x hx => ?_)
    · by_cases hj : j = g
      · subst hj; exact List.mem_cons_self ..
      · refine List.mem_cons_of_mem _ ?_
        have := h.each (j - g) (by omega) (by omega)
        rwa [show (g : Int) + ((j - g : Nat) : Int) = (j : Int) by omega] at this
    · rcases List.mem_cons.1 hx with e | hx
      · omega
      · have := h.all _ hx; omega
    · rcases List.mem_cons.1 hx with rfl | hx
      · omega
      · have := h.all _ hx; omega
  refine ⟨hm, e, Wn.ahead_nil fun x hx => ?_⟩
  rw [e]
  rw [Wn.take_yes hm] at hx
  rcases List.mem_cons.1 hx with rfl | hx
  · omega
  · have := h.all _ hx; omega

end Go.Proofs.YtanghehmfagmfaaGreatDoor

/-
  A Window in memory, plain: sixty-five cells, the first number that has not come and, for each number that is near, whether it has.
-/
namespace Go.Proofs.YtanghehmfagmfaaGreatDoor
set_option linter.unusedVariables false
set_option maxRecDepth 100000
set_option linter.unusedSimpArgs false

/-- The cells of a Window. -/
def winRow (n : Nat) (B : List Bool) : List Value := .int .i64 (n : Int) :: B.map Value.bool
theorem winRow_at (n : Nat) (B : List Bool) (j : Nat) (h : j < B.length) : (winRow n B)[1 + j]? = some (.bool (B.getD j false)) := by
  unfold winRow
  rw [Nat.add_comm, List.getElem?_cons_succ, List.getElem?_map, List.getElem?_eq_getElem h, List.getD_eq_getElem?_getD, List.getElem?_eq_getElem h]
  rfl
/-- Each of the sixty-four numbers from n on has a place of its own, which tells whether it is among T. -/
structure Places (n : Nat) (T : List Int) (B : List Bool) : Prop where
  len : B.length = 64
  at_ : ∀ j : Nat, j < 64 → B.getD ((n + j) % 64) false = decide ((n : Int) + (j : Int) ∈ T)
theorem place_near (n m : Nat) (h : n ≤ m) (h2 : m < n + 64) : ∃ j : Nat, j < 64 ∧ m = n + j := ⟨m - n, by omega, by omega⟩
theorem places_tell {n : Nat} {T : List Int} {B : List Bool} (h : Places n T B) (m : Nat) (h1 : n ≤ m) (h2 : m < n + 64) : B.getD (m % 64) false = decide ((m : Int) ∈ T) := by
  obtain ⟨j, hj, rfl⟩ := place_near n m h1 h2
  rw [h.at_ j hj]
  push_cast
  rfl
theorem places_zero : Places 0 [] (List.replicate 64 false) := by
  refine ⟨List.length_replicate, fun j hj => ?_⟩
  rw [List.getD_eq_getElem?_getD, List.getElem?_replicate, if_pos (by omega)]
  simp
theorem getD_set_self (B : List Bool) (i : Nat) (v : Bool) (h : i < B.length) : (B.set i v).getD i false = v := by
  rw [List.getD_eq_getElem?_getD, List.getElem?_set_self h]; rfl
theorem getD_set_other (B : List Bool) (i j : Nat) (v : Bool) (h : i ≠ j) : (B.set i v).getD j false = B.getD j false := by
  rw [List.getD_eq_getElem?_getD, List.getElem?_set_ne h, ← List.getD_eq_getElem?_getD]
/-- One that is near has come. -/
theorem places_come {n : Nat} {T : List Int} {B : List Bool} (h : Places n T B) (m : Nat) (h1 : n ≤ m) (h2 : m < n + 64) : Places n ((m : Int) :: T) (B.set (m % 64) true) := by
  refine ⟨by rw [List.length_set]; exact h.len, fun j hj => ?_⟩
  by_cases e : m = n + j
  · subst e
    rw [getD_set_self _ _ _ (by rw [h.len]; omega)]
    exact (decide_eq_true (by rw [← Int.natCast_add]; exact List.mem_cons_self ..)).symm
  · rw [getD_set_other _ _ _ _ (by omega), h.at_ j hj, decide_eq_decide, List.mem_cons]
    constructor
    · exact Or.inr
    · rintro (hx | hx)
      · omega
      · exact hx
/-- One place further: the place is free for the number sixty-four ahead. -/
theorem places_step {n : Nat} {T : List Int} {B : List Bool} (h : Places n T B) (hT : ((n + 64 : Nat) : Int) ∉ T) : Places (n + 1) T (B.set (n % 64) false) := by
  refine ⟨by rw [List.length_set]; exact h.len, fun j hj => ?_⟩
  by_cases e : j = 63
  · subst e
    rw [show (n + 1 + 63) % 64 = n % 64 by omega, getD_set_self _ _ _ (by rw [h.len]; omega)]
    refine (decide_eq_false (fun hx => hT ?_)).symm
    rw [show ((n + 64 : Nat) : Int) = ((n + 1 : Nat) : Int) + ((63 : Nat) : Int) by omega]
    exact hx
  · rw [getD_set_other _ _ _ _ (by omega), show n + 1 + j = n + (j + 1) by omega, h.at_ (j + 1) (by omega)]
    rw [show ((n + 1 : Nat) : Int) + (j : Int) = (n : Int) + ((j + 1 : Nat) : Int) by omega]

/-- Those among the first i from n on that are among T, in their order. -/
def aheadTo (n : Nat) (T : List Int) (i : Nat) : List Int := ((List.range i).map fun j : Nat => (n : Int) + (j : Int)).filter fun x => decide (x ∈ T)
theorem aheadTo_yes {n : Nat} {T : List Int} {i : Nat} (h : ((n + i : Nat) : Int) ∈ T) : aheadTo n T (i + 1) = aheadTo n T i ++ [((n + i : Nat) : Int)] := by
  unfold aheadTo
  rw [List.range_succ, List.map_append, List.filter_append]
  congr 1
  simp only [List.map_cons, List.map_nil]
  rw [List.filter_cons, if_pos (by simpa using h)]
  simp
theorem aheadTo_no {n : Nat} {T : List Int} {i : Nat} (h : ¬ ((n + i : Nat) : Int) ∈ T) : aheadTo n T (i + 1) = aheadTo n T i := by
  unfold aheadTo
  rw [List.range_succ, List.map_append, List.filter_append]
  simp only [List.map_cons, List.map_nil]
  rw [List.filter_cons, if_neg (by simpa using h)]
  simp
theorem aheadTo_len (n : Nat) (T : List Int) (i : Nat) : (aheadTo n T i).length ≤ i := by
  unfold aheadTo
  refine Nat.le_trans (List.length_filter_le _ _) ?_
  simp

theorem tmod_place (x : Nat) : Int.tmod (x : Int) 64 = ((x % 64 : Nat) : Int) := by
  rw [Int.tmod_eq_emod_of_nonneg (by omega)]
  omega

end Go.Proofs.YtanghehmfagmfaaGreatDoor

/-
  What package window's methods tell, and the laws' alive over it.
-/
namespace Go.Proofs.YtanghehmfagmfaaGreatDoor
open Go.RowKit
set_option linter.unusedVariables false
set_option maxRecDepth 100000
set_option linter.unusedSimpArgs false

def I64W (x : Int) : Prop := -9223372036854775808 ≤ x ∧ x ≤ 9223372036854775807
/-- At w bl p s: at p lies a Window, in the blocks bl, in the state s. -/
structure WindowKeeps where
  At : World → (Nat → Prop) → Nat → Wn → Prop
  ok : ∀ {w : World} {bl : Nat → Prop} {p : Nat} {s : Wn}, At w bl p s → s.Ok
  lt : ∀ {w : World} {bl : Nat → Prop} {p : Nat} {s : Wn}, At w bl p s → ∀ k, bl k → p ≤ k ∧ k < w.heap.size
  touch : ∀ {S : Nat → Prop} {w w' : World} {bl : Nat → Prop} {p : Nat} {s : Wn}, At w bl p s → Touch S w w' → (∀ k, bl k → ¬ S k) → At w' bl p s
  new : ∀ w : World, At (w.alloc (.cells Tryz.zeroCells94 94)) (fun k => k = w.heap.size) w.heap.size Wn.zero
  take : ∀ (w : World) (bl : Nat → Prop) (p : Nat) (s : Wn) (x : Int), At w bl p s → s.n ≤ 1000000 → I64W x → Calls Tryz.prog 111 #[.pointer (some ⟨p, 0, none⟩), .int .i64 x] w fun e w' => e = .returned (.bool (s.may x)) ∧
    ∃ bl', At w' bl' p (s.take x) ∧ (∀ k, bl' k → bl k ∨ w.heap.size ≤ k) ∧ Touch bl w w'
  may : ∀ (w : World) (bl : Nat → Prop) (p : Nat) (s : Wn) (x : Int), At w bl p s → s.n ≤ 1000000 → I64W x → Calls Tryz.prog 44 #[.pointer (some ⟨p, 0, none⟩), .int .i64 x] w fun e w' => e = .returned (.bool (s.may x)) ∧
    ∃ bl', At w' bl' p s ∧ (∀ k, bl' k → bl k ∨ w.heap.size ≤ k) ∧ Touch bl w w'
  nextQ : ∀ (w : World) (bl : Nat → Prop) (p : Nat) (s : Wn), At w bl p s → s.n ≤ 1000000 → Calls Tryz.prog 51 #[.pointer (some ⟨p, 0, none⟩)] w fun e w' => e = .returned (.int .i64 (s.n : Int)) ∧ ∃ m, w' = w.drewN m
  ahead : ∀ (w : World) (bl : Nat → Prop) (p : Nat) (s : Wn), At w bl p s → s.n ≤ 1000000 → Calls Tryz.prog 52 #[.pointer (some ⟨p, 0, none⟩)] w fun e w' => ∃ v bl', e = .returned v ∧ OwnI w' w.heap.size v s.ahead ∧
    At w' bl' p s ∧ (∀ k, bl' k → (bl k ∨ w.heap.size ≤ k) ∧ v.ownBlock ≠ some k) ∧ Touch bl w w'
  mayNil : ∀ (w : World) (x : Int), Calls Tryz.prog 44 #[.pointer none, .int .i64 x] w fun e w' => e = .returned (.bool false) ∧ Below w.heap.size w w'
  takeNil : ∀ (w : World) (x : Int), Calls Tryz.prog 111 #[.pointer none, .int .i64 x] w fun e w' => e = .returned (.bool false) ∧ Below w.heap.size w w'
  nextNil : ∀ (w : World), Calls Tryz.prog 51 #[.pointer none] w fun e w' => e = .returned (.int .i64 0) ∧ Below w.heap.size w w'
  aheadNil : ∀ (w : World), Calls Tryz.prog 52 #[.pointer none] w fun e w' => (∃ a c, e = .returned (.slice a 0 c)) ∧ Below w.heap.size w w'

theorem touch_drewNW (S : Nat → Prop) (w : World) (m : Nat) : Touch S w (w.drewN m) := ⟨rfl, rfl, rfl, Nat.le_refl _, fun _ _ _ => rfl⟩
theorem WindowKeeps.next (K : WindowKeeps) (w : World) (bl : Nat → Prop) (p : Nat) (s : Wn) (h : K.At w bl p s) (hn : s.n ≤ 1000000) : Calls Tryz.prog 51 #[.pointer (some ⟨p, 0, none⟩)] w fun e w' => e = .returned (.int .i64 (s.n : Int)) ∧
    ∃ bl', K.At w' bl' p s ∧ (∀ k, bl' k → bl k ∨ w.heap.size ≤ k) ∧ Touch bl w w' :=
  (K.nextQ w bl p s h hn).mono fun e w' hh => by
    obtain ⟨he, m, rfl⟩ := hh
    exact ⟨he, bl, K.touch h (touch_drewNW (fun _ => False) w m) (fun _ _ x => x), fun k hk => Or.inl hk, touch_drewNW bl w m⟩

/-- A Window that lies behind B, and all that was done since lies behind B. -/
structure WinAt (K : WindowKeeps) (w0 : World) (B p : Nat) (s : Wn) (w : World) : Prop where
  at_ : ∃ bl, K.At w bl p s
  le : B ≤ p
  bel : Below B w0 w
  sz : B ≤ w.heap.size
section
variable {K : WindowKeeps} {w0 : World} {B p : Nat} {s : Wn} {w : World}
theorem WinAt.ok (h : WinAt K w0 B p s w) : s.Ok := by
  obtain ⟨bl, ha⟩ := h.at_
  exact K.ok ha
theorem WinAt.new (h : Below B w0 w) (hB : B ≤ w.heap.size) : WinAt K w0 B w.heap.size Wn.zero (w.alloc (.cells Tryz.zeroCells94 94)) :=
  ⟨⟨_, K.new w⟩, hB, h.alloc hB _, by simp; omega⟩
theorem WinAt.below {w' : World} (h : WinAt K w0 B p s w) (hb : Below w.heap.size w w') : WinAt K w0 B p s w' := by
  obtain ⟨bl, ha⟩ := h.at_
  exact ⟨⟨bl, K.touch ha (Touch.of_below (S := fun _ => False) hb) (fun _ _ x => x)⟩, h.le, h.bel.trans (hb.mono h.sz), Nat.le_trans h.sz hb.size⟩
theorem WinAt.step {w' : World} {bl bl' : Nat → Prop} {s' : Wn} (h : WinAt K w0 B p s w) (ha : K.At w bl p s) (ha' : K.At w' bl' p s') (ht : Touch bl w w') : WinAt K w0 B p s' w' :=
  ⟨⟨bl', ha'⟩, h.le, h.bel.trans (ht.below (fun k hk => Nat.le_trans h.le (K.lt ha k hk).1) h.sz), Nat.le_trans h.sz ht.size⟩
theorem WinAt.take (h : WinAt K w0 B p s w) (x : Int) (hn : s.n ≤ 1000000) (hx : I64W x) : Calls Tryz.prog 111 #[.pointer (some ⟨p, 0, none⟩), .int .i64 x] w fun e w' => e = .returned (.bool (s.may x)) ∧ WinAt K w0 B p (s.take x) w' := by
  obtain ⟨bl, ha⟩ := h.at_
  refine (K.take w bl p s x ha hn hx).mono ?_
  rintro e w' ⟨rfl, bl', ha', _, ht⟩
  exact ⟨rfl, h.step ha ha' ht⟩
theorem WinAt.may (h : WinAt K w0 B p s w) (x : Int) (hn : s.n ≤ 1000000) (hx : I64W x) : Calls Tryz.prog 44 #[.pointer (some ⟨p, 0, none⟩), .int .i64 x] w fun e w' => e = .returned (.bool (s.may x)) ∧ WinAt K w0 B p s w' := by
  obtain ⟨bl, ha⟩ := h.at_
  refine (K.may w bl p s x ha hn hx).mono ?_
  rintro e w' ⟨rfl, bl', ha', _, ht⟩
  exact ⟨rfl, h.step ha ha' ht⟩
theorem WinAt.next (h : WinAt K w0 B p s w) (hn : s.n ≤ 1000000) : Calls Tryz.prog 51 #[.pointer (some ⟨p, 0, none⟩)] w fun e w' => e = .returned (.int .i64 (s.n : Int)) ∧ WinAt K w0 B p s w' := by
  obtain ⟨bl, ha⟩ := h.at_
  refine (K.next w bl p s ha hn).mono ?_
  rintro e w' ⟨rfl, bl', ha', _, ht⟩
  exact ⟨rfl, h.step ha ha' ht⟩
theorem WinAt.ahead (h : WinAt K w0 B p s w) (hn : s.n ≤ 1000000) : Calls Tryz.prog 52 #[.pointer (some ⟨p, 0, none⟩)] w fun e w' => ∃ a c, e = .returned (.slice a s.ahead.length c) ∧ OwnI w' B (.slice a s.ahead.length c) s.ahead ∧ WinAt K w0 B p s w' := by
  obtain ⟨bl, ha⟩ := h.at_
  refine (K.ahead w bl p s ha hn).mono ?_
  rintro e w' ⟨v, bl', rfl, ho, ha', _, ht⟩
  obtain ⟨a, c, rfl⟩ := ho.shape
  exact ⟨a, c, rfl, ho.base h.sz, h.step ha ha' ht⟩
end

end Go.Proofs.YtanghehmfagmfaaGreatDoor
