/-
  Parts of this proof, one behind the other: Sep0, Usr1, RowP.
-/
import Derived.Test.YtjemklgfenciaaaGreatBun7
import Derived.Test.YtjemklgfenciaaaGreatBun10
import Derived.Deep.Draws
import Derived.Test.YtjemklgfenciaaaGreatBun2

/-
  Several things that lie side by side in memory, each in blocks of its own: what turns one leaves the others as they were.
-/
namespace Go.Proofs.YtjemklgfenciaaaGreat
open Go.RowKit
set_option linter.unusedVariables false
set_option maxRecDepth 100000
set_option linter.unusedSimpArgs false

/-- Something that lies in memory, in some blocks. -/
structure Thing where
  At : World → (Nat → Prop) → Prop
  lt : ∀ {w : World} {bl : Nat → Prop}, At w bl → ∀ k, bl k → k < w.heap.size
  keep : ∀ {S : Nat → Prop} {w w' : World} {bl : Nat → Prop}, At w bl → Touch S w w' → (∀ k, bl k → ¬ S k) → At w' bl
/-- From w to w' some of the blocks bl were turned, and new ones made: in these now lies P'. -/
def Turns (w : World) (bl : Nat → Prop) (P' : Thing) (w' : World) : Prop := ∃ bl', P'.At w' bl' ∧ (∀ k, bl' k → bl k ∨ w.heap.size ≤ k) ∧ Touch bl w w'
def Things : List Thing → World → (Nat → Prop) → Prop
  | [], _, bl => ∀ k, ¬ bl k
  | P :: l, w, bl => ∃ b1 b2, P.At w b1 ∧ Things l w b2 ∧ (∀ k, b1 k → ¬ b2 k) ∧ (∀ k, bl k ↔ b1 k ∨ b2 k)
theorem Things.lt : ∀ {l : List Thing} {w : World} {bl : Nat → Prop}, Things l w bl → ∀ k, bl k → k < w.heap.size
  | [], _, _, h, k, hk => absurd hk (h k)
  | P :: l, w, bl, h, k, hk => by
    obtain ⟨b1, b2, h1, h2, _, hb⟩ := h
    rcases (hb k).1 hk with hk | hk
    · exact P.lt h1 k hk
    · exact Things.lt h2 k hk
theorem Things.keep {S : Nat → Prop} {w w' : World} : ∀ {l : List Thing} {bl : Nat → Prop}, Things l w bl → Touch S w w' → (∀ k, bl k → ¬ S k) → Things l w' bl
  | [], _, h, _, _ => h
  | P :: l, bl, h, ht, hn => by
    obtain ⟨b1, b2, h1, h2, hd, hb⟩ := h
    exact ⟨b1, b2, P.keep h1 ht (fun k hk => hn k ((hb k).2 (Or.inl hk))), Things.keep h2 ht (fun k hk => hn k ((hb k).2 (Or.inr hk))), hd, hb⟩
/-- One of them at hand; it may be turned, and new things laid ahead of all. -/
theorem Things.focus {w : World} : ∀ {l : List Thing} {bl : Nat → Prop} (i : Nat) (P : Thing), l[i]? = some P → Things l w bl →
    ∃ b1, P.At w b1 ∧ (∀ k, b1 k → bl k) ∧ ∀ (P' : Thing) (w' : World) (b1' : Nat → Prop), P'.At w' b1' → (∀ k, b1' k → b1 k ∨ w.heap.size ≤ k) → Touch b1 w w' → ∃ bl', Things (l.set i P') w' bl' ∧ (∀ k, bl' k → bl k ∨ w.heap.size ≤ k) ∧ (∀ k, bl' k → b1' k ∨ bl k ∧ ¬ b1 k)
  | [], _, i, P, hi, _ => by simp at hi
  | Q :: l, bl, 0, P, hi, h => by
    obtain ⟨b1, b2, h1, h2, hd, hb⟩ := h
    have e : Q = P := by simpa using hi
    subst e
    refine ⟨b1, h1, fun k hk => (hb k).2 (Or.inl hk), fun P' w' b1' h' hn ht => ⟨fun k => b1' k ∨ b2 k, ⟨b1', b2, h', Things.keep h2 ht (fun k hk hk1 => hd k hk1 hk), fun k hk hk2 => ?_, fun k => Iff.rfl⟩, fun k hk => ?_, fun k hk => ?_⟩⟩
    · rcases hn k hk with hk1 | hk1
      · exact hd k hk1 hk2
      · have := Things.lt h2 k hk2; omega
    · rcases hk with hk | hk
      · rcases hn k hk with hk1 | hk1
        · exact Or.inl ((hb k).2 (Or.inl hk1))
        · exact Or.inr hk1
      · exact Or.inl ((hb k).2 (Or.inr hk))
    · rcases hk with hk | hk
      · exact Or.inl hk
      · exact Or.inr ⟨(hb k).2 (Or.inr hk), fun hk1 => hd k hk1 hk⟩
  | Q :: l, bl, i + 1, P, hi, h => by
    obtain ⟨b0, b2, h1, h2, hd, hb⟩ := h
    obtain ⟨b1, hP, hsub, hstep⟩ := Things.focus (l := l) i P (by simpa using hi) h2
    refine ⟨b1, hP, fun k hk => (hb k).2 (Or.inr (hsub k hk)), fun P' w' b1' h' hn ht => ?_⟩
    obtain ⟨bl', g1, g2, g3⟩ := hstep P' w' b1' h' hn ht
    refine ⟨fun k => b0 k ∨ bl' k, ⟨b0, bl', Q.keep h1 ht (fun k hk hk1 => hd k hk (hsub k hk1)), g1, fun k hk hk2 => ?_, fun k => Iff.rfl⟩, fun k hk => ?_, fun k hk => ?_⟩
    · rcases g2 k hk2 with hk1 | hk1
      · exact hd k hk hk1
      · have := Q.lt h1 k hk; omega
    · rcases hk with hk | hk
      · exact Or.inl ((hb k).2 (Or.inl hk))
      · rcases g2 k hk with hk | hk
        · exact Or.inl ((hb k).2 (Or.inr hk))
        · exact Or.inr hk
    · rcases hk with hk | hk
      · exact Or.inr ⟨(hb k).2 (Or.inl hk), fun hk1 => hd k hk (hsub k hk1)⟩
      · rcases g3 k hk with hk | ⟨hk, hk1⟩
        · exact Or.inl hk
        · exact Or.inr ⟨(hb k).2 (Or.inr hk), hk1⟩

/-- These things lie here, all in memory that was made since w0; nothing elder was turned. -/
structure Here (w0 : World) (l : List Thing) (w : World) : Prop where
  at_ : ∃ bl, Things l w bl ∧ ∀ k, bl k → w0.heap.size ≤ k
  bel : Below w0.heap.size w0 w
section
variable {w0 w w' : World} {l : List Thing}
theorem Here.sz (h : Here w0 l w) : w0.heap.size ≤ w.heap.size := h.bel.size
theorem Here.start (w0 : World) : Here w0 [] w0 := ⟨⟨fun _ => False, fun _ h => h, fun _ h => h.elim⟩, Below.refl _ _⟩
theorem Here.start' (h : Below w0.heap.size w0 w) : Here w0 [] w := ⟨⟨fun _ => False, fun _ h => h, fun _ h => h.elim⟩, h⟩
theorem Here.below (h : Here w0 l w) (hb : Below w.heap.size w w') : Here w0 l w' := by
  obtain ⟨bl, hl, hB⟩ := h.at_
  exact ⟨⟨bl, Things.keep hl (Touch.of_below (S := fun _ => False) hb) (fun _ _ x => x), hB⟩, h.bel.trans (hb.mono h.sz)⟩
theorem Here.drew (h : Here w0 l w) : Here w0 l w.drew := h.below ((Below.refl _ _).drew)
theorem Here.drewN (h : Here w0 l w) (m : Nat) : Here w0 l (w.drewN m) := h.below ((⟨rfl, rfl, rfl, Nat.le_refl _, fun _ _ _ => rfl⟩ : Touch (fun _ => False) w (w.drewN m)).below (fun _ h => h.elim) (Nat.le_refl _))
theorem Here.alloc (h : Here w0 l w) (o : Obj) : Here w0 l (w.alloc o) := h.below ((Below.refl _ _).alloc (Nat.le_refl _) o)
/-- One at hand. -/
theorem Here.focus (h : Here w0 l w) (i : Nat) {P : Thing} (hi : l[i]? = some P) : ∃ bl, P.At w bl ∧ (∀ k, bl k → w0.heap.size ≤ k) ∧ ∀ (P' : Thing) (w' : World), Turns w bl P' w' → Here w0 (l.set i P') w' := by
  obtain ⟨bl, hl, hB⟩ := h.at_
  obtain ⟨b1, hP, hsub, hstep⟩ := hl.focus i P hi
  refine ⟨b1, hP, fun k hk => hB k (hsub k hk), fun P' w' ht => ?_⟩
  obtain ⟨b1', h', hn, ht⟩ := ht
  obtain ⟨bl', g1, g2, _⟩ := hstep P' w' b1' h' hn ht
  refine ⟨⟨bl', g1, fun k hk => ?_⟩, h.bel.trans (ht.below (fun k hk => hB k (hsub k hk)) h.sz)⟩
  rcases g2 k hk with hk | hk
  · exact hB k hk
  · exact Nat.le_trans h.sz hk
/-- One at hand is turned, and beside it a new thing is laid. -/
theorem Here.focus2 (h : Here w0 l w) (i : Nat) {P : Thing} (hi : l[i]? = some P) : ∃ bl, P.At w bl ∧ (∀ k, bl k → w0.heap.size ≤ k) ∧
    ∀ (P' N : Thing) (w' : World) (bl' bn : Nat → Prop), P'.At w' bl' → (∀ k, bl' k → bl k ∨ w.heap.size ≤ k) → N.At w' bn → (∀ k, bn k → w.heap.size ≤ k ∧ ¬ bl' k) → Touch bl w w' → Here w0 (N :: l.set i P') w' := by
  obtain ⟨bl, hl, hB⟩ := h.at_
  obtain ⟨b1, hP, hsub, hstep⟩ := hl.focus i P hi
  refine ⟨b1, hP, fun k hk => hB k (hsub k hk), fun P' N w' b1' bn h' hn hN hbn ht => ?_⟩
  obtain ⟨bl', g1, g2, g3⟩ := hstep P' w' b1' h' hn ht
  refine ⟨⟨fun k => bn k ∨ bl' k, ⟨bn, bl', hN, g1, fun k hk hk2 => ?_, fun k => Iff.rfl⟩, fun k hk => ?_⟩, h.bel.trans (ht.below (fun k hk => hB k (hsub k hk)) h.sz)⟩
  · obtain ⟨q1, q2⟩ := hbn k hk
    rcases g3 k hk2 with hk3 | ⟨hk3, _⟩
    · exact q2 hk3
    · have := Things.lt hl k hk3; omega
  · rcases hk with hk | hk
    · exact Nat.le_trans h.sz (hbn k hk).1
    · rcases g2 k hk with hk | hk
      · exact hB k hk
      · exact Nat.le_trans h.sz hk
/-- A new thing, laid in new memory. -/
theorem Here.new (h : Here w0 l w) {N : Thing} {bn : Nat → Prop} (hN : N.At w' bn) (hbn : ∀ k, bn k → w.heap.size ≤ k) (hb : Below w.heap.size w w') : Here w0 (N :: l) w' := by
  obtain ⟨bl, hl, hB⟩ := h.at_
  refine ⟨⟨fun k => bn k ∨ bl k, ⟨bn, bl, hN, Things.keep hl (Touch.of_below (S := fun _ => False) hb) (fun _ _ x => x), fun k hk hk2 => ?_, fun k => Iff.rfl⟩, fun k hk => ?_⟩, h.bel.trans (hb.mono h.sz)⟩
  · have := hbn k hk
    have := Things.lt hl k hk2
    omega
  · rcases hk with hk | hk
    · exact Nat.le_trans h.sz (hbn k hk)
    · exact hB k hk
/-- The first is let go. -/
theorem Here.tail {P : Thing} (h : Here w0 (P :: l) w) : Here w0 l w := by
  obtain ⟨bl, ⟨b1, b2, _, h2, _, hb⟩, hB⟩ := h.at_
  exact ⟨⟨b2, h2, fun k hk => hB k ((hb k).2 (Or.inr hk))⟩, h.bel⟩
theorem Here.swap {P Q : Thing} (h : Here w0 (P :: Q :: l) w) : Here w0 (Q :: P :: l) w := by
  obtain ⟨bl, ⟨b1, b2, h1, ⟨b3, b4, h3, h4, hd2, hb2⟩, hd, hb⟩, hB⟩ := h.at_
  refine ⟨⟨bl, ⟨b3, fun k => b1 k ∨ b4 k, h3, ⟨b1, b4, h1, h4, fun k hk hk4 => hd k hk ((hb2 k).2 (Or.inr hk4)), fun k => Iff.rfl⟩, fun k hk hk2 => ?_, fun k => ?_⟩, hB⟩, h.bel⟩
  · rcases hk2 with hk2 | hk2
    · exact hd k hk2 ((hb2 k).2 (Or.inl hk))
    · exact hd2 k hk hk2
  · rw [hb, hb2]
    constructor
    · rintro (h | h | h)
      · exact Or.inr (Or.inl h)
      · exact Or.inl h
      · exact Or.inr (Or.inr h)
    · rintro (h | h | h)
      · exact Or.inr (Or.inl h)
      · exact Or.inl h
      · exact Or.inr (Or.inr h)
/-- The first two are one. -/
theorem Here.join {P Q R : Thing} (h : Here w0 (P :: Q :: l) w) (hj : ∀ b1 b2, P.At w b1 → Q.At w b2 → (∀ k, b1 k → ¬ b2 k) → R.At w (fun k => b1 k ∨ b2 k)) : Here w0 (R :: l) w := by
  obtain ⟨bl, ⟨b1, b2, h1, ⟨b3, b4, h3, h4, hd2, hb2⟩, hd, hb⟩, hB⟩ := h.at_
  refine ⟨⟨bl, ⟨fun k => b1 k ∨ b3 k, b4, hj b1 b3 h1 h3 (fun k hk hk3 => hd k hk ((hb2 k).2 (Or.inl hk3))), h4, fun k hk hk4 => ?_, fun k => ?_⟩, hB⟩, h.bel⟩
  · rcases hk with hk | hk
    · exact hd k hk ((hb2 k).2 (Or.inr hk4))
    · exact hd2 k hk hk4
  · rw [hb, hb2]
    constructor
    · rintro (h | h | h)
      · exact Or.inl (Or.inl h)
      · exact Or.inl (Or.inr h)
      · exact Or.inr h
    · rintro ((h | h) | h)
      · exact Or.inl h
      · exact Or.inr (Or.inl h)
      · exact Or.inr (Or.inr h)
/-- The first is seen as another. -/
theorem Here.as {P Q : Thing} (h : Here w0 (P :: l) w) (hj : ∀ b, P.At w b → Q.At w b) : Here w0 (Q :: l) w := by
  obtain ⟨bl, ⟨b1, b2, h1, h2, hd, hb⟩, hB⟩ := h.at_
  exact ⟨⟨bl, ⟨b1, b2, hj b1 h1, h2, hd, hb⟩, hB⟩, h.bel⟩
end

/-- A list of texts of the call's own. -/
def TextsTh (base : Nat) (v : Value) (L : List ByteArray) : Thing where
  At w bl := OwnT w base v L ∧ ∀ k, bl k ↔ v.ownBlock = some k
  lt h k hk := (World.ownsRow.lt h.1 k ((h.2 k).1 hk)).2
  keep h ht hn := ⟨own_touch h.1 ht (fun k hk => hn k ((h.2 k).2 hk)), h.2⟩
theorem Here.texts {w0 w : World} {l : List Thing} {base : Nat} {v : Value} {L : List ByteArray} (h : Here w0 l w) (i : Nat) (hi : l[i]? = some (TextsTh base v L)) : OwnT w base v L := by
  obtain ⟨bl, hP, _, _⟩ := h.focus i hi
  exact hP.1
/-- A list that grew. -/
theorem Here.grow {w0 w w' : World} {l : List Thing} {base : Nat} {v v' : Value} {L L' : List ByteArray} (h : Here w0 l w) (i : Nat) (hi : l[i]? = some (TextsTh base v L)) (ho : OwnT w' base v' L') (hg : w.grownBy w' v.ownBlock) (hat : v'.ownBlock = v.ownBlock ∨ v'.ownBlock = some w.heap.size ∧ w.grownBy w' none) : Here w0 (l.set i (TextsTh base v' L')) w' := by
  obtain ⟨bl, ⟨_, hb⟩, _, hstep⟩ := h.focus i hi
  refine hstep _ _ ⟨fun k => v'.ownBlock = some k, ⟨ho, fun k => Iff.rfl⟩, fun k hk => ?_, (touch_grown hg).mono (fun k _ hk => (hb k).2 hk)⟩
  rcases hat with hat | ⟨hat, _⟩
  · exact Or.inl ((hb k).2 (by rw [← hat]; exact hk))
  · rw [hat] at hk
    exact Or.inr (by have := Option.some.inj hk; omega)
theorem Here.newTexts {w0 w : World} {l : List Thing} (h : Here w0 l w) (base : Nat) : Here w0 (TextsTh base (.slice none 0 0) [] :: l) w :=
  h.new (bn := fun _ => False) ⟨⟨rfl, Or.inl ⟨rfl, rfl⟩⟩, fun k => by simp [Value.ownBlock]⟩ (fun _ x => x.elim) (Below.refl _ _)

end Go.Proofs.YtjemklgfenciaaaGreat

/-
  What package users' functions tell.
-/
namespace Go.Proofs.YtjemklgfenciaaaGreat
open Go.RowKit
set_option linter.unusedVariables false
set_option maxRecDepth 100000
set_option linter.unusedSimpArgs false

/-- What a slice of users (a name and a secret each) holds. -/
def PairsAt (w : World) (oa : Option Addr) (n : Nat) (X : Nat → ByteArray × ByteArray) : Prop := ∀ i, i < n → ∃ b o, oa = some ⟨b, o, none⟩ ∧ w.cell? ⟨b, o + i * 2, none⟩ = some (.string (X i).1) ∧ w.cell? ⟨b, o + i * 2 + 1, none⟩ = some (.string (X i).2)
def listU (X : Nat → ByteArray × ByteArray) (n : Nat) : List (ByteArray × ByteArray) := (List.range n).map X
theorem PairsAt.later {w w' : World} {oa : Option Addr} {n : Nat} {X : Nat → ByteArray × ByteArray} (h : PairsAt w oa n X) (hb : Below w.heap.size w w') : PairsAt w' oa n X := by
  intro i hi
  obtain ⟨b, o, ho, h1, h2⟩ := h i hi
  have hl : b < w.heap.size := World.block_lt_of_cell? w _ h1
  exact ⟨b, o, ho, by rw [hb.cell (p := ⟨b, o + i * 2, none⟩) hl, h1], by rw [hb.cell (p := ⟨b, o + i * 2 + 1, none⟩) hl, h2]⟩
/-- Names, each behind the one ahead of it. -/
def RisingU (L : List ByteArray) : Prop := ∀ i, i + 1 < L.length → Go.Op.bytesLess (L.getD i ⟨#[]⟩).toList (L.getD (i + 1) ⟨#[]⟩).toList = true
/-- The names of all users, in order. -/
structure NamesOf (B : List Usr) (L : List ByteArray) : Prop where
  len : L.length = B.length
  each : ∀ x ∈ L, hasU B x = true
  rising : RisingU L
abbrev I64U (x : Int) : Prop := -9223372036854775808 ≤ x ∧ x ≤ 9223372036854775807
/-- At w bl p B: at p lies a Users, in the blocks bl: these users. -/
structure UsersKeeps where
  At : World → (Nat → Prop) → Nat → List Usr → Prop
  ok : ∀ {w : World} {bl : Nat → Prop} {p : Nat} {B : List Usr}, At w bl p B → UsersOk B
  lt : ∀ {w : World} {bl : Nat → Prop} {p : Nat} {B : List Usr}, At w bl p B → ∀ k, bl k → k < w.heap.size
  keep : ∀ {S : Nat → Prop} {w w' : World} {bl : Nat → Prop} {p : Nat} {B : List Usr}, At w bl p B → Touch S w w' → (∀ k, bl k → ¬ S k) → At w' bl p B
  right : ∀ (w : World) (n s : ByteArray), n.size ≤ maxLen → s.size ≤ maxLen → Calls Tryz.prog 7 #[.agg #[.string n, .string s]] w fun e w' => e = .returned (.bool (userOkU n s)) ∧ Below w.heap.size w w'
  newOk : ∀ (w : World) (oa : Option Addr) (n c : Nat) (X : Nat → ByteArray × ByteArray), PairsAt w oa n X → n ≤ maxLen → (∀ i, i < n → (X i).1.size ≤ maxLen ∧ (X i).2.size ≤ maxLen) → usersOk (listU X n) = true →
    Calls Tryz.prog 6 #[.slice oa n c] w fun e w' => ∃ bl p, e = .returned (.tuple #[.pointer (some ⟨p, 0, none⟩), .int .i64 0]) ∧ At w' bl p (freshU (listU X n)) ∧ (∀ k, bl k → w.heap.size ≤ k) ∧ Below w.heap.size w w'
  newNo : ∀ (w : World) (oa : Option Addr) (n c : Nat) (X : Nat → ByteArray × ByteArray), PairsAt w oa n X → n ≤ maxLen → (∀ i, i < n → (X i).1.size ≤ maxLen ∧ (X i).2.size ≤ maxLen) → usersOk (listU X n) = false →
    Calls Tryz.prog 6 #[.slice oa n c] w fun e w' => e = .returned (.tuple #[.pointer none, .int .i64 1]) ∧ Below w.heap.size w w'
  secretYes : ∀ (w : World) (bl : Nat → Prop) (p : Nat) (B : List Usr) (n : ByteArray), At w bl p B → n.size ≤ maxLen → hasU B n = true → Calls Tryz.prog 13 #[.pointer (some ⟨p, 0, none⟩), .string n] w fun e w' => e = .returned (.tuple #[.string (atU B n).secret, .bool true]) ∧
    ∃ bl', At w' bl' p B ∧ (∀ k, bl' k → bl k ∨ w.heap.size ≤ k) ∧ Touch bl w w'
  secretNo : ∀ (w : World) (bl : Nat → Prop) (p : Nat) (B : List Usr) (n : ByteArray), At w bl p B → n.size ≤ maxLen → hasU B n = false → Calls Tryz.prog 13 #[.pointer (some ⟨p, 0, none⟩), .string n] w fun e w' => (∃ s, e = .returned (.tuple #[.string s, .bool false])) ∧
    ∃ bl', At w' bl' p B ∧ (∀ k, bl' k → bl k ∨ w.heap.size ≤ k) ∧ Touch bl w w'
  fail : ∀ (w : World) (bl : Nat → Prop) (p : Nat) (B : List Usr) (n : ByteArray) (now : Int), At w bl p B → n.size ≤ maxLen → I64U now → Calls Tryz.prog 15 #[.pointer (some ⟨p, 0, none⟩), .string n, .int .i64 now] w fun e w' => e = .returned (.bool (failT B n)) ∧
    ∃ bl', At w' bl' p (failB B n now) ∧ (∀ k, bl' k → bl k ∨ w.heap.size ≤ k) ∧ Touch bl w w'
  good : ∀ (w : World) (bl : Nat → Prop) (p : Nat) (B : List Usr) (n : ByteArray), At w bl p B → n.size ≤ maxLen → Calls Tryz.prog 17 #[.pointer (some ⟨p, 0, none⟩), .string n] w fun e w' => e = .returned (.tuple #[]) ∧
    ∃ bl', At w' bl' p (goodB B n) ∧ (∀ k, bl' k → bl k ∨ w.heap.size ≤ k) ∧ Touch bl w w'
  locked : ∀ (w : World) (bl : Nat → Prop) (p : Nat) (B : List Usr) (n : ByteArray) (now : Int), At w bl p B → n.size ≤ maxLen → I64U now → Calls Tryz.prog 19 #[.pointer (some ⟨p, 0, none⟩), .string n, .int .i64 now] w fun e w' => e = .returned (.bool (lockedT B n now)) ∧
    ∃ bl', At w' bl' p B ∧ (∀ k, bl' k → bl k ∨ w.heap.size ≤ k) ∧ Touch bl w w'
  fails : ∀ (w : World) (bl : Nat → Prop) (p : Nat) (B : List Usr) (n : ByteArray), At w bl p B → n.size ≤ maxLen → Calls Tryz.prog 21 #[.pointer (some ⟨p, 0, none⟩), .string n] w fun e w' => e = .returned (.int .i64 (failsN B n : Int)) ∧
    ∃ bl', At w' bl' p B ∧ (∀ k, bl' k → bl k ∨ w.heap.size ≤ k) ∧ Touch bl w w'
  names : ∀ (w : World) (bl : Nat → Prop) (p : Nat) (B : List Usr), At w bl p B → Calls Tryz.prog 12 #[.pointer (some ⟨p, 0, none⟩)] w fun e w' => ∃ v L bl', e = .returned v ∧ NamesOf B L ∧ OwnT w' w.heap.size v L ∧
    At w' bl' p B ∧ (∀ k, bl' k → (bl k ∨ w.heap.size ≤ k) ∧ v.ownBlock ≠ some k) ∧ Touch bl w w'
  secretNil : ∀ (w : World) (n : ByteArray), n.size ≤ maxLen → Calls Tryz.prog 13 #[.pointer none, .string n] w fun e w' => (∃ s, e = .returned (.tuple #[.string s, .bool false])) ∧ Below w.heap.size w w'
  failNil : ∀ (w : World) (n : ByteArray) (now : Int), n.size ≤ maxLen → I64U now → Calls Tryz.prog 15 #[.pointer none, .string n, .int .i64 now] w fun e w' => e = .returned (.bool false) ∧ Below w.heap.size w w'
  goodNil : ∀ (w : World) (n : ByteArray), n.size ≤ maxLen → Calls Tryz.prog 17 #[.pointer none, .string n] w fun e w' => e = .returned (.tuple #[]) ∧ Below w.heap.size w w'
  lockedNil : ∀ (w : World) (n : ByteArray) (now : Int), n.size ≤ maxLen → I64U now → Calls Tryz.prog 19 #[.pointer none, .string n, .int .i64 now] w fun e w' => e = .returned (.bool false) ∧ Below w.heap.size w w'
  failsNil : ∀ (w : World) (n : ByteArray), n.size ≤ maxLen → Calls Tryz.prog 21 #[.pointer none, .string n] w fun e w' => e = .returned (.int .i64 0) ∧ Below w.heap.size w w'
  namesNil : ∀ (w : World), Calls Tryz.prog 12 #[.pointer none] w fun e w' => (∃ a c, e = .returned (.slice a 0 c)) ∧ Below w.heap.size w w'

def UsersTh (K : UsersKeeps) (p : Nat) (B : List Usr) : Thing := ⟨fun w bl => K.At w bl p B, K.lt, K.keep⟩
section
variable {K : UsersKeeps} {w0 w : World} {l : List Thing}
theorem Here.usersHeld (h : Here w0 l w) (i : Nat) {p : Nat} {B : List Usr} (hi : l[i]? = some (UsersTh K p B)) : UsersOk B := by
  obtain ⟨bl, hP, _, _⟩ := h.focus i hi
  exact K.ok hP
theorem Here.newUsers (K : UsersKeeps) (h : Here w0 l w) (oa : Option Addr) (n c : Nat) (X : Nat → ByteArray × ByteArray) (hx : PairsAt w oa n X) (hn : n ≤ maxLen) (hz : ∀ i, i < n → (X i).1.size ≤ maxLen ∧ (X i).2.size ≤ maxLen) (hok : usersOk (listU X n) = true) :
    Calls Tryz.prog 6 #[.slice oa n c] w fun e w' => ∃ p, e = .returned (.tuple #[.pointer (some ⟨p, 0, none⟩), .int .i64 0]) ∧ Here w0 (UsersTh K p (freshU (listU X n)) :: l) w' := by
  refine (K.newOk w oa n c X hx hn hz hok).mono ?_
  rintro e w' ⟨bl, p, rfl, hA, hb, hbel⟩
  exact ⟨p, rfl, h.new (N := UsersTh K p (freshU (listU X n))) hA hb hbel⟩
theorem Here.newUsersNo (K : UsersKeeps) (h : Here w0 l w) (oa : Option Addr) (n c : Nat) (X : Nat → ByteArray × ByteArray) (hx : PairsAt w oa n X) (hn : n ≤ maxLen) (hz : ∀ i, i < n → (X i).1.size ≤ maxLen ∧ (X i).2.size ≤ maxLen) (hok : usersOk (listU X n) = false) :
    Calls Tryz.prog 6 #[.slice oa n c] w fun e w' => e = .returned (.tuple #[.pointer none, .int .i64 1]) ∧ Here w0 l w' := by
  refine (K.newNo w oa n c X hx hn hz hok).mono ?_
  rintro e w' ⟨rfl, hbel⟩
  exact ⟨rfl, h.below hbel⟩
theorem Here.userFail (h : Here w0 l w) (i : Nat) {p : Nat} {B : List Usr} (n : ByteArray) (now : Int) (hi : l[i]? = some (UsersTh K p B)) (hn : n.size ≤ maxLen) (hw : I64U now) : Calls Tryz.prog 15 #[.pointer (some ⟨p, 0, none⟩), .string n, .int .i64 now] w fun e w' => e = .returned (.bool (failT B n)) ∧ Here w0 (l.set i (UsersTh K p (failB B n now))) w' := by
  obtain ⟨bl, hP, _, hstep⟩ := h.focus i hi
  refine (K.fail w bl p B n now hP hn hw).mono ?_
  rintro e w' ⟨rfl, hT⟩
  exact ⟨rfl, hstep _ _ hT⟩
theorem Here.userGood (h : Here w0 l w) (i : Nat) {p : Nat} {B : List Usr} (n : ByteArray) (hi : l[i]? = some (UsersTh K p B)) (hn : n.size ≤ maxLen) : Calls Tryz.prog 17 #[.pointer (some ⟨p, 0, none⟩), .string n] w fun e w' => e = .returned (.tuple #[]) ∧ Here w0 (l.set i (UsersTh K p (goodB B n))) w' := by
  obtain ⟨bl, hP, _, hstep⟩ := h.focus i hi
  refine (K.good w bl p B n hP hn).mono ?_
  rintro e w' ⟨rfl, hT⟩
  exact ⟨rfl, hstep _ _ hT⟩
theorem Here.userLocked (h : Here w0 l w) (i : Nat) {p : Nat} {B : List Usr} (n : ByteArray) (now : Int) (hi : l[i]? = some (UsersTh K p B)) (hn : n.size ≤ maxLen) (hw : I64U now) : Calls Tryz.prog 19 #[.pointer (some ⟨p, 0, none⟩), .string n, .int .i64 now] w fun e w' => e = .returned (.bool (lockedT B n now)) ∧ Here w0 (l.set i (UsersTh K p B)) w' := by
  obtain ⟨bl, hP, _, hstep⟩ := h.focus i hi
  refine (K.locked w bl p B n now hP hn hw).mono ?_
  rintro e w' ⟨rfl, hT⟩
  exact ⟨rfl, hstep _ _ hT⟩
theorem Here.userFails (h : Here w0 l w) (i : Nat) {p : Nat} {B : List Usr} (n : ByteArray) (hi : l[i]? = some (UsersTh K p B)) (hn : n.size ≤ maxLen) : Calls Tryz.prog 21 #[.pointer (some ⟨p, 0, none⟩), .string n] w fun e w' => e = .returned (.int .i64 (failsN B n : Int)) ∧ Here w0 (l.set i (UsersTh K p B)) w' := by
  obtain ⟨bl, hP, _, hstep⟩ := h.focus i hi
  refine (K.fails w bl p B n hP hn).mono ?_
  rintro e w' ⟨rfl, hT⟩
  exact ⟨rfl, hstep _ _ hT⟩
theorem Here.userSecret (h : Here w0 l w) (i : Nat) {p : Nat} {B : List Usr} (n : ByteArray) (hi : l[i]? = some (UsersTh K p B)) (hn : n.size ≤ maxLen) (hh : hasU B n = true) : Calls Tryz.prog 13 #[.pointer (some ⟨p, 0, none⟩), .string n] w fun e w' => e = .returned (.tuple #[.string (atU B n).secret, .bool true]) ∧ Here w0 (l.set i (UsersTh K p B)) w' := by
  obtain ⟨bl, hP, _, hstep⟩ := h.focus i hi
  refine (K.secretYes w bl p B n hP hn hh).mono ?_
  rintro e w' ⟨rfl, hT⟩
  exact ⟨rfl, hstep _ _ hT⟩
theorem Here.userSecretNo (h : Here w0 l w) (i : Nat) {p : Nat} {B : List Usr} (n : ByteArray) (hi : l[i]? = some (UsersTh K p B)) (hn : n.size ≤ maxLen) (hh : hasU B n = false) : Calls Tryz.prog 13 #[.pointer (some ⟨p, 0, none⟩), .string n] w fun e w' => (∃ s, e = .returned (.tuple #[.string s, .bool false])) ∧ Here w0 (l.set i (UsersTh K p B)) w' := by
  obtain ⟨bl, hP, _, hstep⟩ := h.focus i hi
  refine (K.secretNo w bl p B n hP hn hh).mono ?_
  rintro e w' ⟨he, hT⟩
  exact ⟨he, hstep _ _ hT⟩
theorem Here.userNames (h : Here w0 l w) (i : Nat) {p : Nat} {B : List Usr} (hi : l[i]? = some (UsersTh K p B)) : Calls Tryz.prog 12 #[.pointer (some ⟨p, 0, none⟩)] w fun e w' => ∃ a c L, e = .returned (.slice a L.length c) ∧ NamesOf B L ∧ Here w0 (TextsTh w0.heap.size (.slice a L.length c) L :: l.set i (UsersTh K p B)) w' := by
  obtain ⟨bl, hP, _, hstep⟩ := h.focus2 i hi
  refine (K.names w bl p B hP).mono ?_
  rintro e w' ⟨v, L, bl', rfl, hN, hown, hA, hn, ht⟩
  obtain ⟨a, c, rfl⟩ := hown.shape
  refine ⟨a, c, L, rfl, hN, hstep (UsersTh K p B) (TextsTh w0.heap.size _ L) w' bl' (fun k => (Value.slice a L.length c).ownBlock = some k) hA (fun k hk => (hn k hk).1) ⟨hown.base h.sz, fun k => Iff.rfl⟩ (fun k hk => ⟨(World.ownsRow.lt hown k hk).1, fun hk2 => (hn k hk2).2 hk⟩) ht⟩
end

end Go.Proofs.YtjemklgfenciaaaGreat

/-
  Rows of users (a name and a secret each) of a call's own.
-/
namespace Go.Proofs.YtjemklgfenciaaaGreat
open Go.RowKit
set_option linter.unusedVariables false
set_option maxRecDepth 100000
set_option linter.unusedSimpArgs false

abbrev NS := ByteArray × ByteArray
def nsNone : NS := (⟨#[]⟩, ⟨#[]⟩)
theorem infoNS : (Tryz.prog.info? 32).map (fun i => (i.zero, i.size, i.bytes)) = some (some (.agg #[.string ⟨#[]⟩, .string ⟨#[]⟩]), 2, 32) := by kernel_rfl
def cellsP (L : List NS) : List Value := L.flatMap fun p => [.string p.1, .string p.2]
theorem cellsP_len : ∀ L : List NS, (cellsP L).length = L.length * 2
  | [] => rfl
  | p :: r => by
    show ([_, _] ++ cellsP r).length = _
    rw [List.length_append, cellsP_len r, List.length_cons]
    simp
    omega
theorem cellsP_at : ∀ (L : List NS) (j : Nat), j < L.length → (cellsP L)[j * 2]? = some (.string (L.getD j nsNone).1) ∧ (cellsP L)[j * 2 + 1]? = some (.string (L.getD j nsNone).2)
  | [], j, h => absurd h (by simp)
  | p :: r, 0, h => ⟨rfl, rfl⟩
  | p :: r, j + 1, h => by
    have := cellsP_at r j (by simpa using h)
    show (_ :: _ :: cellsP r)[(j + 1) * 2]? = _ ∧ (_ :: _ :: cellsP r)[(j + 1) * 2 + 1]? = _
    rw [show (j + 1) * 2 = j * 2 + 1 + 1 by omega, List.getElem?_cons_succ, List.getElem?_cons_succ, List.getElem?_cons_succ, List.getElem?_cons_succ]
    exact this
theorem cellsP_append (a b : List NS) : cellsP (a ++ b) = cellsP a ++ cellsP b := by unfold cellsP; rw [List.flatMap_append]
theorem cellsP_one (L : List NS) : ∀ v ∈ cellsP L, v.oneCell' = true := by
  intro v hv
  obtain ⟨p, _, hv⟩ := List.mem_flatMap.1 hv
  simp at hv
  rcases hv with rfl | rfl <;> rfl
def OwnP (w : World) (base : Nat) (v : Value) (L : List NS) : Prop := w.ownsRow base 32 2 v L.length (cellsP L)
theorem OwnP.nil (w : World) (base : Nat) : OwnP w base (.slice none 0 0) [] := ⟨rfl, Or.inl ⟨rfl, rfl⟩⟩
theorem OwnP.shape {w : World} {base : Nat} {v : Value} {L : List NS} (h : OwnP w base v L) : ∃ ao cap, v = .slice ao L.length cap ∧ (ao = none → L = []) := by
  rcases h.2 with ⟨hv, hn⟩ | ⟨g, cap, cur, hv, _⟩
  · exact ⟨none, 0, by rw [hv, hn], fun _ => List.eq_nil_of_length_eq_zero hn⟩
  · exact ⟨_, cap, hv, fun h => by cases h⟩
theorem OwnP.pairs {w : World} {base : Nat} {ao : Option Addr} {n cap : Nat} {L : List NS} (h : OwnP w base (.slice ao n cap) L) : n = L.length ∧ PairsAt w ao n (fun i => L.getD i nsNone) := by
  rcases h.2 with ⟨hv, hn⟩ | ⟨g, c, cur, hv, hb, hg, hnc, hcm, hcs, htake⟩
  · injection hv with e1 e2 e3
    subst e1 e2
    exact ⟨hn.symm, fun i hi => absurd hi (by omega)⟩
  · injection hv with e1 e2 e3
    subst e1 e2 e3
    refine ⟨rfl, fun i hi => ⟨g, 0, rfl, ?_⟩⟩
    obtain ⟨c1, c2⟩ := cellsP_at L i hi
    have hc : ∀ j u, (cellsP L)[j]? = some u → w.cell? ⟨g, 0 + j, none⟩ = some u := fun j u hj => by
      have := World.ownsRow.cells h (g := g) rfl j u hj
      rwa [show (⟨g, 0, none⟩ : Addr).add j = ⟨g, 0 + j, none⟩ from by simp [Addr.add]; exact fun h => h.symm] at this
    exact ⟨hc _ _ c1, by have := hc _ _ c2; rwa [← Nat.add_assoc] at this⟩
theorem OwnP.more {w : World} {base n : Nat} {v' : Value} {L : List NS} {x : NS} (hl : L.length = n) (h : w.ownsRow base 32 2 v' (n + 1) (cellsP L ++ [.string x.1, .string x.2])) : OwnP w base v' (L ++ [x]) := by
  subst hl
  unfold OwnP
  rw [List.length_append, cellsP_append]
  exact h
theorem listU_getD (L : List NS) : listU (fun i => L.getD i nsNone) L.length = L := by
  refine List.ext_getElem? (fun i => ?_)
  unfold listU
  rw [List.getElem?_map]
  by_cases h : i < L.length
  · rw [List.getElem?_range h, List.getElem?_eq_getElem h]
    simp [List.getD_eq_getElem?_getD, List.getElem?_eq_getElem h]
  · rw [List.getElem?_eq_none (by simp; omega), List.getElem?_eq_none (by omega)]; rfl
/-- own_touch, elements of more cells. -/
theorem own_touch2 {S : Nat → Prop} {w w' : World} {base : Nat} {e : TypeId} {z : Nat} {v : Value} {n : Nat} {xs : List Value} (h : w.ownsRow base e z v n xs) (ht : Touch S w w') (hn : ∀ k, v.ownBlock = some k → ¬ S k) : w'.ownsRow base e z v n xs := by
  refine ⟨h.1, ?_⟩
  rcases h.2 with h2 | ⟨g, cap, cur, rfl, hb, hg, r⟩
  · exact Or.inl h2
  · exact Or.inr ⟨g, cap, cur, rfl, hb, by rw [ht.block g (Array.getElem?_eq_some_iff.1 hg).1 (hn g rfl)]; exact hg, r⟩
/-- A list of users of a call's own, among things side by side. -/
def PairsTh (base : Nat) (v : Value) (L : List NS) : Thing where
  At w bl := OwnP w base v L ∧ ∀ k, bl k ↔ v.ownBlock = some k
  lt h k hk := (World.ownsRow.lt h.1 k ((h.2 k).1 hk)).2
  keep h ht hn := ⟨own_touch2 h.1 ht (fun k hk => hn k ((h.2 k).2 hk)), h.2⟩
theorem Here.pairs {w0 w : World} {l : List Thing} {base : Nat} {v : Value} {L : List NS} (h : Here w0 l w) (i : Nat) (hi : l[i]? = some (PairsTh base v L)) : OwnP w base v L := by
  obtain ⟨bl, hP, _, _⟩ := h.focus i hi
  exact hP.1
theorem Here.growP {w0 w w' : World} {l : List Thing} {base : Nat} {v v' : Value} {L L' : List NS} (h : Here w0 l w) (i : Nat) (hi : l[i]? = some (PairsTh base v L)) (ho : OwnP w' base v' L') (hg : w.grownBy w' v.ownBlock) (hat : v'.ownBlock = v.ownBlock ∨ v'.ownBlock = some w.heap.size ∧ w.grownBy w' none) : Here w0 (l.set i (PairsTh base v' L')) w' := by
  obtain ⟨bl, ⟨_, hb⟩, _, hstep⟩ := h.focus i hi
  refine hstep _ _ ⟨fun k => v'.ownBlock = some k, ⟨ho, fun k => Iff.rfl⟩, fun k hk => ?_, (touch_grown hg).mono (fun k _ hk => (hb k).2 hk)⟩
  rcases hat with hat | ⟨hat, _⟩
  · exact Or.inl ((hb k).2 (by rw [← hat]; exact hk))
  · rw [hat] at hk
    exact Or.inr (by have := Option.some.inj hk; omega)
theorem Here.newPairs {w0 w : World} {l : List Thing} (h : Here w0 l w) (base : Nat) : Here w0 (PairsTh base (.slice none 0 0) [] :: l) w :=
  h.new (bn := fun _ => False) ⟨OwnP.nil w base, fun k => by simp [Value.ownBlock]⟩ (fun _ x => x.elim) (Below.refl _ _)
/-- One user, laid as a slice of its own. -/
theorem pairs_new (w : World) (n s : ByteArray) : PairsAt (w.alloc (.cells #[.string n, .string s] 32)) (some ⟨w.heap.size, 0, none⟩) 1 (fun _ => (n, s)) := by
  intro i hi
  obtain rfl : i = 0 := by omega
  have h := RowIs.new w 32 [.string n, .string s]
  exact ⟨_, 0, rfl, h.cellAt rfl, h.cellAt rfl⟩
theorem pairs_new2 (w : World) (n s m t : ByteArray) : PairsAt (w.alloc (.cells #[.string n, .string s, .string m, .string t] 32)) (some ⟨w.heap.size, 0, none⟩) 2 (fun i => if i = 0 then (n, s) else (m, t)) := by
  intro i hi
  have h := RowIs.new w 32 [.string n, .string s, .string m, .string t]
  have hc : i = 0 ∨ i = 1 := by omega
  rcases hc with rfl | rfl
  · exact ⟨_, 0, rfl, h.cellAt rfl, h.cellAt rfl⟩
  · exact ⟨_, 0, rfl, h.cellAt rfl, h.cellAt rfl⟩

end Go.Proofs.YtjemklgfenciaaaGreat
