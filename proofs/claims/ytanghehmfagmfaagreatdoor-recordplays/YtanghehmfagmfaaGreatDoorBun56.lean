/-
  Parts of this proof, one behind the other: Sep1, Opn1, Rec19, Rec20.
-/
import Derived.Test.YtanghehmfagmfaaGreatDoorBun35
import Derived.Test.YtanghehmfagmfaaGreatDoorBun44
import Derived.Test.YtanghehmfagmfaaGreatDoorBun3
import Derived.OpenShut
import Derived.Deep.Slices
import Derived.Test.YtanghehmfagmfaaGreatDoorBun43
import Derived.Test.YtanghehmfagmfaaGreatDoorBun40
import Derived.Deep.RegionWith
import Derived.Deep.RegionHeld3
import Derived.Deep.MidRow

/-
  One of several things takes another one in; and the book of texts as a thing.
-/
namespace Go.Proofs.YtanghehmfagmfaaGreatDoor
open Go.RowKit
set_option linter.unusedVariables false
set_option maxRecDepth 100000
set_option linter.unusedSimpArgs false

theorem Things.focusX {w : World} (X : Nat → Prop) (hXlt : ∀ k, X k → k < w.heap.size) : ∀ {l : List Thing} {bl : Nat → Prop} (i : Nat) (P : Thing), l[i]? = some P → Things l w bl → (∀ k, X k → ¬ bl k) →
    ∃ b1, P.At w b1 ∧ (∀ k, b1 k → bl k) ∧ ∀ (P' : Thing) (w' : World) (b1' : Nat → Prop), P'.At w' b1' → (∀ k, b1' k → b1 k ∨ w.heap.size ≤ k ∨ X k) → Touch b1 w w' → ∃ bl', Things (l.set i P') w' bl' ∧ (∀ k, bl' k → bl k ∨ w.heap.size ≤ k ∨ X k)
  | [], _, i, P, hi, _, _ => by simp at hi
  | Q :: l, bl, 0, P, hi, h, hX => by
    obtain ⟨b1, b2, h1, h2, hd, hb⟩ := h
    have e : Q = P := by simpa using hi
    subst e
    refine ⟨b1, h1, fun k hk => (hb k).2 (Or.inl hk), fun P' w' b1' h' hn ht => ⟨fun k => b1' k ∨ b2 k, ⟨b1', b2, h', Things.keep h2 ht (fun k hk hk1 => hd k hk1 hk), fun k hk hk2 => ?_, fun k => Iff.rfl⟩, fun k hk => ?_⟩⟩
    · rcases hn k hk with hk1 | hk1 | hk1
      · exact hd k hk1 hk2
      · have := Things.lt h2 k hk2; omega
      · exact hX k hk1 ((hb k).2 (Or.inr hk2))
    · rcases hk with hk | hk
      · rcases hn k hk with hk1 | hk1 | hk1
        · exact Or.inl ((hb k).2 (Or.inl hk1))
        · exact Or.inr (Or.inl hk1)
        · exact Or.inr (Or.inr hk1)
      · exact Or.inl ((hb k).2 (Or.inr hk))
  | Q :: l, bl, i + 1, P, hi, h, hX => by
    obtain ⟨b0, b2, h1, h2, hd, hb⟩ := h
    obtain ⟨b1, hP, hsub, hstep⟩ := Things.focusX X hXlt (l := l) i P (by simpa using hi) h2 (fun k hk hk2 => hX k hk ((hb k).2 (Or.inr hk2)))
    refine ⟨b1, hP, fun k hk => (hb k).2 (Or.inr (hsub k hk)), fun P' w' b1' h' hn ht => ?_⟩
    obtain ⟨bl', g1, g2⟩ := hstep P' w' b1' h' hn ht
    refine ⟨fun k => b0 k ∨ bl' k, ⟨b0, bl', Q.keep h1 ht (fun k hk hk1 => hd k hk (hsub k hk1)), g1, fun k hk hk2 => ?_, fun k => Iff.rfl⟩, fun k hk => ?_⟩
    · rcases g2 k hk2 with hk1 | hk1 | hk1
      · exact hd k hk hk1
      · have := Q.lt h1 k hk; omega
      · exact hX k hk1 ((hb k).2 (Or.inl hk))
    · rcases hk with hk | hk
      · exact Or.inl ((hb k).2 (Or.inl hk))
      · rcases g2 k hk with hk | hk | hk
        · exact Or.inl ((hb k).2 (Or.inr hk))
        · exact Or.inr (Or.inl hk)
        · exact Or.inr (Or.inr hk)
/-- The first is taken in by another one. -/
theorem Here.takeIn {w0 w : World} {l : List Thing} {N : Thing} (h : Here w0 (N :: l) w) (i : Nat) {P : Thing} (hi : l[i]? = some P) :
    ∃ bn bl, N.At w bn ∧ P.At w bl ∧ (∀ k, bn k → ¬ bl k) ∧ ∀ (P' : Thing) (w' : World) (bl' : Nat → Prop), P'.At w' bl' → (∀ k, bl' k → bl k ∨ w.heap.size ≤ k ∨ bn k) → Touch bl w w' → Here w0 (l.set i P') w' := by
  obtain ⟨ba, ⟨bn, bt, hN, hl, hd, hb⟩, hB⟩ := h.at_
  obtain ⟨b1, hP, hsub, hstep⟩ := hl.focusX bn (N.lt hN) i P hi hd
  refine ⟨bn, b1, hN, hP, fun k hk hk1 => hd k hk (hsub k hk1), fun P' w' bl' h' hn ht => ?_⟩
  obtain ⟨bl2, g1, g2⟩ := hstep P' w' bl' h' hn ht
  refine ⟨⟨bl2, g1, fun k hk => ?_⟩, h.bel.trans (ht.below (fun k hk => hB k ((hb k).2 (Or.inr (hsub k hk)))) h.sz)⟩
  rcases g2 k hk with hk | hk | hk
  · exact hB k ((hb k).2 (Or.inr hk))
  · exact Nat.le_trans h.sz hk
  · exact hB k ((hb k).2 (Or.inl hk))

theorem bookT_keep {S : Nat → Prop} {w w' : World} {base q : Nat} {vo wo : Value} {vs ws : List Value} {ls : List (List ByteArray)} (h : BookT w base q vo wo vs ws ls) (ht : Touch S w w') (hn : ∀ k, (k = q ∨ ∃ u ∈ vo :: wo :: (vs ++ ws), u.ownBlock = some k) → ¬ S k) : BookT w' base q vo wo vs ws ls := by
  refine ⟨?_, h.here, own_touch h.ownV ht (fun k hk => hn k (Or.inr ⟨vo, by simp, hk⟩)), own_touch h.ownW ht (fun k hk => hn k (Or.inr ⟨wo, by simp, hk⟩)), h.lenV, h.lenW, fun i v l a b => own_touch (h.eachV i v l a b) ht (fun k hk => hn k (Or.inr ⟨v, by simp [List.mem_of_getElem? a], hk⟩)), fun i v l a b => own_touch (h.eachW i v l a b) ht (fun k hk => hn k (Or.inr ⟨v, by simp [List.mem_of_getElem? a], hk⟩)), h.apart, h.off⟩
  show w'.heap[q]? = _
  rw [ht.block q h.row.lt (hn q (Or.inl rfl))]
  exact h.row
def BookIs (base q n : Nat) (last : Option (Value × List ByteArray)) (w : World) (bl : Nat → Prop) : Prop :=
  ∃ vo wo vs ws ls, BookT w base q vo wo vs ws ls ∧ vs.length = n ∧ (∀ (i : Nat) (m : List ByteArray), ls[i]? = some m → m.length ≤ 10000) ∧ (∀ (v : Value) (L : List ByteArray), last = some (v, L) → ∃ i : Nat, vs[i]? = some v ∧ ls[i]? = some L) ∧ ∀ k, bl k ↔ k = q ∨ ∃ u ∈ vo :: wo :: (vs ++ ws), u.ownBlock = some k
theorem BookIs.lt {base q n : Nat} {last : Option (Value × List ByteArray)} {w : World} {bl : Nat → Prop} (h : BookIs base q n last w bl) : ∀ k, bl k → k < w.heap.size := by
  obtain ⟨vo, wo, vs, ws, ls, h, _, _, _, hb⟩ := h
  intro k hk
  rcases (hb k).1 hk with rfl | ⟨u, hu, e⟩
  · exact h.row.lt
  · exact (h.lt hu e).2
theorem BookIs.keep {base q n : Nat} {last : Option (Value × List ByteArray)} {S : Nat → Prop} {w w' : World} {bl : Nat → Prop} (h : BookIs base q n last w bl) (ht : Touch S w w') (hn : ∀ k, bl k → ¬ S k) : BookIs base q n last w' bl := by
  obtain ⟨vo, wo, vs, ws, ls, h, h1, h2, h3, hb⟩ := h
  exact ⟨vo, wo, vs, ws, ls, bookT_keep h ht (fun k hk => hn k ((hb k).2 hk)), h1, h2, h3, hb⟩
/-- A book of n lists of texts, the last of them v (the texts L), or any. -/
def BookTh (base q n : Nat) (last : Option (Value × List ByteArray)) : Thing := ⟨BookIs base q n last, BookIs.lt, BookIs.keep⟩
theorem Here.bookTexts {w0 w : World} {l : List Thing} {q n : Nat} {last : Option (Value × List ByteArray)} {v : Value} {L : List ByteArray} (h : Here w0 (TextsTh w0.heap.size v L :: l) w) (i : Nat) (hi : l[i]? = some (BookTh w0.heap.size q n last)) (hn : n < 250) (hL : L.length ≤ 10000) :
    Calls Tryz.prog 22 #[.pointer (some ⟨q, 0, none⟩), v] w fun e w' => e = .returned (.tuple #[]) ∧ Here w0 (l.set i (BookTh w0.heap.size q (n + 1) (some (v, L)))) w' := by
  obtain ⟨bn, bl, ⟨hv, hbn⟩, ⟨vo, wo, vs, ws, ls, hB, hlen, hls, _, hbl⟩, hd, hstep⟩ := h.takeIn i hi
  have hvlt := (TextsTh w0.heap.size v L).lt ⟨hv, hbn⟩
  have hfree : Free w q (vo :: wo :: (vs ++ ws)) v := fun k hk => by
    have hk1 := (hbn k).2 hk
    have hk2 := hd k hk1
    exact ⟨hvlt k hk1, fun e => hk2 ((hbl k).2 (Or.inl e)), fun u hu e => hk2 ((hbl k).2 (Or.inr ⟨u, hu, e⟩))⟩
  refine (book_textsO w0.heap.size q vo wo vs ws ls v L w hB hv hfree (by omega) (by omega) h.sz).mono ?_
  rintro e w' ⟨rfl, ⟨vo', wo', u, hB', hol⟩, ht⟩
  have hlv : vs.length = ls.length := hB.lenV
  refine ⟨rfl, hstep (BookTh w0.heap.size q (n + 1) (some (v, L))) w' (fun k => k = q ∨ ∃ x ∈ vo' :: wo' :: ((vs ++ [v]) ++ (ws ++ [u])), x.ownBlock = some k) ⟨vo', wo', vs ++ [v], ws ++ [u], ls ++ [L], hB', by simp [hlen], fun j m hj => ?_, fun v2 L2 e => ?_, fun k => Iff.rfl⟩ (fun k hk => ?_) (ht.mono (fun k _ hk => ?_))⟩
  · rw [List.getElem?_append] at hj
    split at hj
    · exact hls j m hj
    · rw [List.getElem?_singleton] at hj
      split at hj
      · cases hj; exact hL
      · cases hj
  · injection e with e; injection e with e1 e2
    subst e1 e2
    exact ⟨vs.length, by simp, by rw [hlv]; simp⟩
  · by_cases hkl : k < w.heap.size
    · rcases hk with rfl | ⟨x, hx, e⟩
      · exact Or.inl ((hbl _).2 (Or.inl rfl))
      · obtain ⟨o1, o2, o3⟩ := hol k hkl
        have hc : x = vo' ∨ x = wo' ∨ x ∈ vs ++ ws ∨ x = v ∨ x = u := by simp at hx ⊢; rcases hx with e | e | e | e | e | e <;> simp [e]
        rcases hc with rfl | rfl | hx | rfl | rfl
        · exact Or.inl ((hbl _).2 (Or.inr ⟨vo, by simp, o1 e⟩))
        · exact Or.inl ((hbl _).2 (Or.inr ⟨wo, by simp, o2 e⟩))
        · exact Or.inl ((hbl _).2 (Or.inr ⟨x, by simp at hx ⊢; rcases hx with e | e <;> simp [e], e⟩))
        · exact Or.inr (Or.inr ((hbn k).2 e))
        · exact absurd e o3
    · exact Or.inr (Or.inl (by omega))
  · rcases hk with hk | hk | hk
    · exact (hbl k).2 (Or.inl hk)
    · exact (hbl k).2 (Or.inr ⟨vo, by simp, hk⟩)
    · exact (hbl k).2 (Or.inr ⟨wo, by simp, hk⟩)
/-- The list that was kept last can still be read. -/
theorem Here.bookLast {w0 w : World} {l : List Thing} {base q n : Nat} {v : Value} {L : List ByteArray} (h : Here w0 l w) (i : Nat) (hi : l[i]? = some (BookTh base q n (some (v, L)))) : OwnT w base v L := by
  obtain ⟨bl, ⟨vo, wo, vs, ws, ls, hB, _, _, hlast, _⟩, _, _⟩ := h.focus i hi
  obtain ⟨j, h1, h2⟩ := hlast v L rfl
  exact hB.eachV j v L h1 h2
theorem Here.bookApart {w0 w : World} {l : List Thing} {q n : Nat} {last : Option (Value × List ByteArray)} (h : Here w0 l w) (i : Nat) (hi : l[i]? = some (BookTh w0.heap.size q n last)) (hn : n ≤ 1000) : Calls Tryz.prog 26 #[.pointer (some ⟨q, 0, none⟩)] w fun e w' => e = .returned (.bool true) ∧ Below w0.heap.size w0 w' := by
  obtain ⟨bl, ⟨vo, wo, vs, ws, ls, hB, hlen, hls, _, _⟩, _, _⟩ := h.focus i hi
  refine (book_apartT w0.heap.size q vo wo vs ws ls w hB (by omega) (fun i m hm => by have := hls i m hm; omega) h.sz).mono ?_
  rintro e w' ⟨rfl, b⟩
  exact ⟨rfl, h.bel.trans b⟩

end Go.Proofs.YtanghehmfagmfaaGreatDoor

/-
  A slice of operations (four numbers and a text each) that came in as an argument, opened; and what is read of it in a later world.
-/
namespace Go.Proofs.YtanghehmfagmfaaGreatDoor
open Go.ChangeShapes Go.WideShapes Go.RowKit
set_option linter.unusedVariables false
set_option maxRecDepth 100000
set_option linter.unusedSimpArgs false

/-- Something that is done: its kind, three numbers and a text. -/
structure Opr where
  kind : Int
  n : Int
  at_ : Int
  by_ : Int
  b : ByteArray
def oprNone : Opr := ⟨0, 0, 0, 0, ⟨#[]⟩⟩
def Opr.cells (x : Opr) : List Value := [.int .i64 x.kind, .int .i64 x.n, .int .i64 x.at_, .int .u8 x.by_, .string x.b]
structure Opr.Wide (x : Opr) : Prop where
  kind : (Lit.int .i64 x.kind).wf = true
  n : (Lit.int .i64 x.n).wf = true
  at_ : (Lit.int .i64 x.at_).wf = true
  by_ : (Lit.int .u8 x.by_).wf = true
  b : x.b.size ≤ maxLen
theorem cellsOpr : Tryz.prog.cellsOf 45 = 5 := by kernel_rfl
theorem cellsIntO : Tryz.prog.cellsOf 3 = 1 := by kernel_rfl
theorem cellsByteO : Tryz.prog.cellsOf 5 = 1 := by kernel_rfl
/-- What a slice of operations holds. -/
def OprsAt (w : World) (oa : Option Addr) (n : Nat) (X : Nat → Opr) : Prop := ∀ i, i < n → ∃ b o, oa = some ⟨b, o, none⟩ ∧ w.rangeAt b (o + i * 5) (X i).cells
theorem OprsAt.later {w w' : World} {oa : Option Addr} {n : Nat} {X : Nat → Opr} (h : OprsAt w oa n X) (hb : Below w.heap.size w w') : OprsAt w' oa n X := by
  intro i hi
  obtain ⟨b, o, ho, hc⟩ := h i hi
  refine ⟨b, o, ho, fun j v hj => ?_⟩
  have h1 := hc j v hj
  have hl : b < w.heap.size := World.block_lt_of_cell? w _ h1
  rw [hb.cell (p := ⟨b, o + i * 5 + j, none⟩) hl, h1]
theorem oprs_open {H : Type} {enc : TypeId × Value → H} {W : World} {v : Value} {d : DataW H} {ps : List MemPlace} {base : Nat}
    (hv : Value.okWide Tryz.prog W .any base 22 v) (h : DataW.Trod enc Tryz.prog W 0 (fun _ => true) true 22 v d ps) :
    ∃ oa n cap X, v = .slice oa n cap ∧ n ≤ maxLen ∧ OprsAt W oa n X ∧ ∀ i, i < n → (X i).Wide := by
  obtain ⟨oa, n, cap, rfl⟩ := okWide_slice Tryz.underlying22 hv
  obtain ⟨fuel, hf⟩ := h
  rcases Deep.open_slice Tryz.underlying22 hf with ⟨hcs, hx⟩ | ⟨a, len', cap', m, n', D, Pl, hcs, _, hl, hm, hmm, hx, hcell⟩
  · simp [Value.cells] at hcs
    obtain ⟨rfl, rfl, rfl⟩ := hcs
    exact ⟨none, 0, 0, fun _ => oprNone, rfl, by omega, fun i hi => absurd hi (by omega), fun i hi => absurd hi (by omega)⟩
  · simp [Value.cells] at hcs
    obtain ⟨rfl, rfl, rfl⟩ := hcs
    simp only [if_true] at hmm
    have each : ∀ i, i < m → ∃ x : Opr, (∀ j u, x.cells[j]? = some u → W.cell? ((a.add (i * 5)).add j) = some u) ∧ x.Wide := by
      intro i hi
      obtain ⟨cs', h1, h2⟩ := hcell i hi
      rw [cellsOpr] at h1
      obtain ⟨_, hlen, hc⟩ := World.cells?_some h1
      obtain ⟨xs, k, hk, hxy, _, hxl, hfl⟩ := DataW.trod_struct Tryz.underlying45 h2
      have hl5 : xs.length = 5 := hxl
      match xs, hl5, cs', hlen with
      | [y0, y1, y2, y3, y4], _, [v0, v1, v2, v3, v4], _ =>
        have g0 := hfl 0 _ rfl
        have g1 := hfl 1 _ rfl
        have g2 := hfl 2 _ rfl
        have g3 := hfl 3 _ rfl
        have g4 := hfl 4 _ rfl
        simp [cellsIntO, cellsByteO, strCellsOf] at g0 g1 g2 g3 g4
        obtain ⟨n0, e0, _, w0⟩ := DataW.trod_int Tryz.underlying3 g0
        obtain ⟨n1, e1, _, w1⟩ := DataW.trod_int Tryz.underlying3 g1
        obtain ⟨n2, e2, _, w2⟩ := DataW.trod_int Tryz.underlying3 g2
        obtain ⟨n3, e3, _, w3⟩ := DataW.trod_int Tryz.underlying5 g3
        obtain ⟨s4, e4, _, w4⟩ := DataW.trod_string Tryz.underlying9 g4
        simp at e0 e1 e2 e3 e4
        subst e0 e1 e2 e3 e4
        refine ⟨⟨n0, n1, n2, n3, s4⟩, fun j u hj => ?_, ⟨w0, w1, w2, w3, w4⟩⟩
        have hj5 : j < 5 := (List.getElem?_eq_some_iff.1 hj).1
        rw [hc j hj5]
        exact hj
    haveI : Inhabited Opr := ⟨oprNone⟩
    obtain ⟨X, hX⟩ := Deep.choose_lt each
    refine ⟨some a, n, cap, X, rfl, by omega, ?_, fun i hi => (hX i (by omega)).2⟩
    obtain ⟨b, off, spot⟩ := a
    intro i hi
    have hspot : spot = none := by
      have := (hX 0 (by omega)).1 0 _ rfl
      simpa [Addr.add] using World.cell?_spot this
    subst hspot
    refine ⟨b, off, rfl, fun j u hj => ?_⟩
    have := (hX i (by omega)).1 j u hj
    rw [Addr.add_mid, Addr.add_mid] at this
    exact this

end Go.Proofs.YtanghehmfagmfaaGreatDoor

/-
  A row, a new book, among things side by side.
-/
namespace Go.Proofs.YtanghehmfagmfaaGreatDoor
open Go.RowKit
set_option linter.unusedVariables false
set_option maxRecDepth 100000
set_option linter.unusedSimpArgs false

def RowTh (g : Nat) (t : TypeId) (cs : List Value) : Thing where
  At w bl := RowIs w g t cs ∧ ∀ k, bl k ↔ k = g
  lt h k hk := by have := (h.2 k).1 hk; subst this; exact h.1.lt
  keep := by
    rintro S w w' bl ⟨h, hb⟩ ht hn
    refine ⟨?_, hb⟩
    show w'.heap[g]? = _
    rw [ht.block g h.lt (hn g ((hb g).2 rfl))]
    exact h
theorem Here.row {w0 w : World} {l : List Thing} {g : Nat} {t : TypeId} {cs : List Value} (h : Here w0 l w) (i : Nat) (hi : l[i]? = some (RowTh g t cs)) : RowIs w g t cs := by
  obtain ⟨bl, hP, _, _⟩ := h.focus i hi
  exact hP.1
theorem Here.newRow {w0 w : World} {l : List Thing} (h : Here w0 l w) (t : TypeId) (cs : List Value) : Here w0 (RowTh w.heap.size t cs :: l) (w.alloc (.cells cs.toArray t)) :=
  h.new (bn := fun k => k = w.heap.size) ⟨RowIs.new w t cs, fun k => Iff.rfl⟩ (fun k hk => by omega) ((Below.refl _ _).alloc (Nat.le_refl _) _)
theorem Here.newBook {w0 w : World} {l : List Thing} (h : Here w0 l w) : Here w0 (BookTh w0.heap.size w.heap.size 0 none :: l) (w.alloc (.cells (rowT (.slice none 0 0) (.slice none 0 0)).toArray 43)) := by
  have hB : BookT (w.alloc (.cells (rowT (.slice none 0 0) (.slice none 0 0)).toArray 43)) w0.heap.size w.heap.size (.slice none 0 0) (.slice none 0 0) [] [] [] :=
    ⟨RowIs.new w _ _, h.sz, World.ownsRow_nil _ _ _ _, World.ownsRow_nil _ _ _ _, rfl, rfl, fun i v l h => by simp at h, fun i v l h => by simp at h, by simp [Apart2, Value.ownBlock], by simp [Value.ownBlock]⟩
  refine h.new (bn := fun k => k = w.heap.size) ⟨_, _, _, _, _, hB, rfl, fun i m h => by simp at h, (fun v L h => by cases h), fun k => ?_⟩ (fun k hk => by omega) ((Below.refl _ _).alloc (Nat.le_refl _) _)
  simp [Value.ownBlock]

theorem own_moreT {w : World} {base n : Nat} {v' : Value} {l : List ByteArray} {x : ByteArray} (hl : l.length = n) (h : w.ownsRow base 9 1 v' (n + 1) (cellsT l ++ [.string x])) : OwnT w base v' (l ++ [x]) := by
  subst hl
  unfold OwnT
  rw [List.length_append, cellsT_append]
  exact h
theorem getD_mem13 (l : List ByteArray) (j : Nat) (h : j < l.length) (d : ByteArray) : l.getD j d ∈ l := by
  rw [List.getD_eq_getElem?_getD, List.getElem?_eq_getElem h]
  exact List.getElem_mem _
theorem u8_of (x : Int) (h : 0 ≤ x ∧ x ≤ 255) : ∃ y : UInt8, x = (y.toNat : Int) := ⟨UInt8.ofNat x.toNat, by rw [UInt8.toNat_ofNat']; omega⟩

end Go.Proofs.YtanghehmfagmfaaGreatDoor

/-
  Laws of chapter 13 over what package record tells: RecordPlays.
-/
namespace Go.Proofs.YtanghehmfagmfaaGreatDoor
open Go.RowKit
set_option linter.unusedVariables false
set_option maxRecDepth 100000
set_option linter.unusedSimpArgs false

set_option maxRecDepth 100000 in
set_option maxHeartbeats 16000000 in
theorem recordPlays_of (K : RecordKeeps) (key : ByteArray) (oa : Option Addr) (n c : Nat) (X : Nat → Opr) (w : World) (hkey : key.size ≤ 9223372036854775807) (hn : n ≤ maxLen) (hs : OprsAt w oa n X) (hX : ∀ i, i < n → (X i).Wide) :
    Calls Tryz.prog 3 #[.string key, .slice oa n c] w fun e w' => e = .returned (.bool true) ∧ Below w.heap.size w w' := by
  have PA : Hid _ := alive13_of K
  by_cases c0 : 60 < (n : Int)
  · have d0 : decide (60 < (n : Int)) = true := decide_eq_true c0
    go_enter Tryz.func3, Tryz.ntmps3
    go_wp2_with fail
    with_reducible refine (PA.out _).mono ?_
    rintro e w1 ⟨rfl, b⟩
    go_wp2
    go_ret
    exact ⟨rfl, b⟩
  have d0 : decide (60 < (n : Int)) = false := decide_eq_false c0
  have F1 : Hid _ := fun w => law5_fill32 key w hkey
  have hk1 : (fillS key 32).size = 32 := fillS_size _ _
  generalize fillS key 32 = KK at *
  have P1 : Hid _ := fun w1 l (h : Here w l w1) => Here.newOut K h KK hk1
  have P2 : Hid _ := fun w1 l (h : Here w l w1) => Here.newIn K h KK hk1
  have S0 : Hid (OprsAt w oa n X) := hs
  have SX : Hid (∀ i, i < n → (X i).Wide) := hX
  clear hs hX
  go_enter Tryz.func3, Tryz.ntmps3
  go_wp2_with fail
  with_reducible refine (PA.out _).mono ?_
  rintro e w1 ⟨rfl, b1⟩
  clear PA
  go_wp2_with fail
  with_reducible refine (F1.out _).mono ?_
  rintro e w' ⟨rfl, rfl⟩
  go_wp2_with fail
  with_reducible refine (P1.out _ _ (Here.start' b1)).mono ?_
  rintro e w2 ⟨p, rfl, h2⟩
  clear P1 F1 b1
  go_wp2_with fail
  with_reducible refine (P2.out _ _ h2).mono ?_
  rintro e w3 ⟨q, rfl, h3⟩
  clear P2 h2
  have H4 : Here w [RefVTh w3.heap.size ⟨KK, 0, []⟩ (.slice none 0 0) (.slice none 0 0), InTh K q ⟨KK, 0, []⟩, OutTh K p KK 0] (w3.alloc (.cells #[.string KK, .int .i64 0, .slice none 0 0, .slice none 0 0] 33)) := h3.newRefV KK
  have H5 : Hid _ := H4.newBook.newTexts w.heap.size
  have hz5 : (w3.alloc (.cells #[.string KK, .int .i64 0, .slice none 0 0, .slice none 0 0] 33)).heap.size = w3.heap.size + 1 := by simp
  rw [hz5] at H5
  clear h3 H4 hz5
  unfold rowT at H5
  go_wp2_with fail
  generalize hr : w3.heap.size = r at *
  generalize hqb : r + 1 = qb at *
  generalize (w3.alloc (.cells #[.string KK, .int .i64 0, .slice none 0 0, .slice none 0 0] 33)).alloc (.cells [Value.slice none 0 0, .slice none 0 0, .slice none 0 0, .slice none 0 0, .slice none 0 0, .slice none 0 0, .slice none 0 0, .slice none 0 0, .slice none 0 0, .slice none 0 0, .slice none 0 0, .slice none 0 0, .slice none 0 0, .slice none 0 0].toArray 43) = w5 at *
  clear hr hqb
  go_loopw [8, 9, 11] (fun vl sv i wr => ∃ (k sq kb : Nat) (s : InS) (vs vt : Value) (last : Option (Value × List ByteArray)) (LL : List ByteArray), i = .int .i64 (k : Int) ∧ k ≤ n ∧ sv = .int .i64 (sq : Int) ∧ sq ≤ k ∧ kb ≤ k ∧ s.key = KK ∧ s.W.length ≤ k ∧ LL.length = sq ∧ Hid (∀ x ∈ LL, 56 ≤ x.size ∧ x.size ≤ 2072) ∧ Here w [TextsTh w.heap.size vl LL, BookTh w.heap.size qb kb last, RefVTh r s vs vt, InTh K q s, OutTh K p KK sq] wr) (fun _ _ i _ => n - (intOf i).toNat)
  case atStart => exact ⟨0, 0, 0, ⟨KK, 0, []⟩, _, _, _, [], rfl, Nat.zero_le _, rfl, Nat.le_refl _, Nat.le_refl _, rfl, Nat.le_refl _, rfl, (fun x hx => by cases hx), H5.out⟩
  case round =>
    clear H5
    obtain ⟨k, sq, kb, s, vs, vt, last, LL, rfl, hkn, rfl, hsq, hkb, hsk, hsl, hLL, HLs, hh⟩ := hrel
    obtain ⟨ao, cap, hvl⟩ := (hh.texts 0 rfl).shape
    rw [hLL] at hvl
    subst hvl
    by_cases hlt : k < n
    · have dlt : decide ((k : Int) < (n : Int)) = true := decide_eq_true (by omega)
      obtain ⟨bb, oo, rfl, _⟩ := S0.out k hlt
      obtain ⟨b', o', e', hrg⟩ := (S0.out.later hh.bel) k hlt
      injection e' with e'; injection e' with e1 e2 _; subst e1 e2
      have hwx := SX.out k hlt
      have i0 : (0 : Int) ≤ (k : Int) := by omega
      have i1 : (k : Int) < (n : Int) := by omega
      generalize X k = x at *
      obtain ⟨xk, xn, xa, xb, xt⟩ := x
      have y0 := bounds_i64 hwx.kind
      have y1 := bounds_i64 hwx.n
      have y2 := bounds_i64 hwx.at_
      have y3 := bounds_u8 hwx.by_
      obtain ⟨xb, rfl⟩ := u8_of xb y3
      clear y3
      clear hwx
      have x0 : wr.cell? ⟨bb, oo + k * 5, none⟩ = some (.int .i64 xk) := hrg 0 _ rfl
      have x1 : wr.cell? ⟨bb, oo + k * 5 + 1, none⟩ = some (.int .i64 xn) := hrg 1 _ rfl
      have x2 : wr.cell? ⟨bb, oo + k * 5 + 2, none⟩ = some (.int .i64 xa) := hrg 2 _ rfl
      have x3 : wr.cell? ⟨bb, oo + k * 5 + 3, none⟩ = some (.int .u8 (xb.toNat : Int)) := hrg 3 _ rfl
      have x4 : wr.cell? ⟨bb, oo + k * 5 + 4, none⟩ = some (.string xt) := hrg 4 _ rfl
      have HX : Hid _ := hh.newRow 45 [.int .i64 xk, .int .i64 xn, .int .i64 xa, .int .u8 (xb.toNat : Int), .string xt]
      clear hrg
      go_upto_if 65 with fail
      by_cases h6 : 600 < (xt.size : Int)
      · have d6 : decide (600 < (xt.size : Int)) = true := decide_eq_true h6
        have HB : Hid _ := HX.out.bel
        clear hh HX
        go_wp2
        go_ret
        exact ⟨rfl, HB.out⟩
      · have d6 : decide (600 < (xt.size : Int)) = false := decide_eq_false h6
        have hok := (hh.inOk 3 rfl).1
        have hx := HX.out
        clear hh HX x0 x1 x2 x3 x4
        generalize wr.heap.size = gx at *
        generalize wr.alloc (.cells #[.int .i64 xk, .int .i64 xn, .int .i64 xa, .int .u8 (xb.toNat : Int), .string xt] 45) = wx at *
        have z0 := (hx.row 0 rfl).cellAt (j := 0) rfl
        have z1 := (hx.row 0 rfl).cellAt (j := 1) rfl
        have z4 := (hx.row 0 rfl).cellAt (j := 4) rfl
        have PO : Hid (∀ (b2 : ByteArray), b2.size ≤ 1000000 → ∀ w1, Here w [TextsTh w.heap.size (.slice ao sq cap) LL, BookTh w.heap.size qb kb last, RefVTh r s vs vt, InTh K q s, OutTh K p KK sq] w1 → Calls Tryz.prog 20 #[.pointer (some ⟨q, 0, none⟩), .string b2] w1 fun e w' => ∃ a c, e = .returned (.tuple #[.slice a (outR s b2).length c, .int .i64 (errR s b2 : Int)]) ∧ Here w (TextsTh w.heap.size (.slice a (outR s b2).length c) (outR s b2) :: [TextsTh w.heap.size (.slice ao sq cap) LL, BookTh w.heap.size qb kb last, RefVTh r s vs vt, InTh K q s, OutTh K p KK sq].set 3 (InTh K q (stepR s b2))) w') := fun b2 hb2 w1 h => h.open_ 3 b2 rfl hb2
        have PR : Hid (∀ (b2 : ByteArray), b2.size ≤ 1000000 → ∀ w1 (v : Value) (O : List ByteArray) (s' : InS), Here w [TextsTh w.heap.size v O, TextsTh w.heap.size (.slice ao sq cap) LL, BookTh w.heap.size qb kb last, RefVTh r s vs vt, InTh K q s', OutTh K p KK sq] w1 → Calls Tryz.prog 21 #[.pointer (some ⟨r, 0, none⟩), .string b2] w1 fun e w' => ∃ a c vs' vt', e = .returned (.tuple #[.slice a (outR s b2).length c, .int .i64 (errR s b2 : Int)]) ∧ Here w (TextsTh w.heap.size (.slice a (outR s b2).length c) (outR s b2) :: [TextsTh w.heap.size v O, TextsTh w.heap.size (.slice ao sq cap) LL, BookTh w.heap.size qb kb last, RefVTh r s vs vt, InTh K q s', OutTh K p KK sq].set 3 (RefVTh r (stepR s b2) vs' vt')) w') := fun b2 hb2 w1 v O s' h => h.refOpen 3 b2 rfl (by omega) (by rw [hsk]; exact hk1) hok.next hb2
        clear hok
        by_cases kk1 : xk = 1
        · subst kk1
          clear PO PR
          obtain ⟨i0T, hi0, hz0, hz1, hz2⟩ := info_parts infoT
          have hsz := recS_le KK sq xt (by omega)
          have PS := hx.sealT 5 xt rfl (by omega) (by omega)
          have PF : Hid _ := fun w1 => ref_record KK xt sq w1 hk1 (by omega) (by omega)
          have er := str_beq_self (recS KK sq xt)
          have HN : Hid (∀ w1, Here w [RowTh gx 45 [.int .i64 1, .int .i64 xn, .int .i64 xa, .int .u8 (xb.toNat : Int), .string xt], TextsTh w.heap.size (.slice ao sq cap) LL, BookTh w.heap.size qb kb last, RefVTh r s vs vt, InTh K q s, OutTh K p KK (sq + 1)] w1 → Calls Tryz.prog 19 #[.pointer (some ⟨p, 0, none⟩)] w1 fun e w' => e = .returned (.int .i64 ((sq + 1 : Nat) : Int)) ∧ ∃ m, w' = w1.drewN m) := fun w1 h => h.outNext 5 rfl (by omega)
          generalize recS KK sq xt = R at *
          have HLs2 : Hid (∀ x ∈ LL ++ [R], 56 ≤ x.size ∧ x.size ≤ 2072) := fun x hx => by
            rcases List.mem_append.1 hx with hx | hx
            · exact HLs.out x hx
            · rw [List.mem_singleton.1 hx]; exact hsz
          clear hx hsz
          go_wp2_with fail
          with_reducible refine PS.mono ?_
          rintro e w6 ⟨rfl, h6'⟩
          replace h6' : Here w [RowTh gx 45 [.int .i64 1, .int .i64 xn, .int .i64 xa, .int .u8 (xb.toNat : Int), .string xt], TextsTh w.heap.size (.slice ao sq cap) LL, BookTh w.heap.size qb kb last, RefVTh r s vs vt, InTh K q s, OutTh K p KK (sq + 1)] w6 := h6'
          clear PS z0 z1 z4
          have z4 := (h6'.row 0 rfl).cellAt (j := 4) rfl
          go_wp2_with fail
          with_reducible refine (PF.out _).mono ?_
          rintro e w7 ⟨rfl, b7⟩
          have h7 := h6'.below b7
          clear PF h6' z4
          go_wp2_with fail
          with_reducible refine (HN.out _ h7).mono ?_
          rintro e w8 ⟨rfl, m8, rfl⟩
          have h8 := (h7.drewN m8).tail
          clear HN h7 b7
          generalize w7.drewN m8 = w8 at *
          have own8 : w8.ownsRow w.heap.size 9 1 (.slice ao sq cap) sq (cellsT LL) := by
            have := h8.texts 0 rfl
            unfold OwnT at this
            rwa [hLL] at this
          have hsz8 := h8.sz
          have e9 : ((sq + 1 : Nat) : Int) = (sq : Int) + 1 := by omega
          rw [e9]
          go_wp2_with (first | (at_builtin; refine wpList_append_two _ rfl (.tmp 99) (.tmp 101) 31 rfl w.heap.size 9 i0T (.string ⟨#[]⟩) 1 16 Tryz.underlying31 hi0 hz0 hz1 hz2 rfl (by decide) (.slice ao sq cap) sq (cellsT LL) rfl (World.ownsRow.alloc own8 _) ⟨w8.heap.size, 0, none⟩ 1 1 [.string R] rfl rfl (cell_one_new w8 (.string R) 9) (by intro u hu; simp at hu; rw [hu]; rfl) (by unfold maxLen; omega) (by omega) (by simp; omega) ?_))
          intro v' w9 ho9 hg9 hat9
          have hz9 : (w8.alloc (.cells #[.string R] 9)).heap.size = w8.heap.size + 1 := by simp
          have h9 := (h8.alloc (.cells #[.string R] 9)).grow 0 rfl (own_moreT hLL ho9) hg9 (by rw [hz9]; exact hat9)
          go_wp2
          go_roundw
          case rel => exact ⟨k + 1, sq + 1, kb, s, vs, vt, last, LL ++ [R], by go_num, by omega, by go_num, by omega, by omega, hsk, by omega, by rw [List.length_append, hLL]; rfl, HLs2, h9⟩
          case measure => simp [intOf]; omega
        · have dk1 : (xk == 1) = false := beq_eq_false_iff_ne.2 kk1
          by_cases k23 : xk = 2 ∨ xk = 3
          · by_cases hq : sq = 0
            · subst hq
              have HT : Hid _ := hx.tail
              clear hx PO PR
              rcases k23 with rfl | rfl
              · go_wp2
                go_roundw
                case rel => exact ⟨k + 1, 0, kb, s, vs, vt, last, LL, by go_num, by omega, rfl, by omega, by omega, hsk, by omega, hLL, HLs, HT.out⟩
                case measure => simp [intOf]; omega
              · go_wp2
                go_roundw
                case rel => exact ⟨k + 1, 0, kb, s, vs, vt, last, LL, by go_num, by omega, rfl, by omega, by omega, hsk, by omega, hLL, HLs, HT.out⟩
                case measure => simp [intOf]; omega
            · obtain ⟨⟨t1, t2⟩, J, hJ, hJe⟩ := place13 xn sq (by omega)
              have dq : (((sq : Nat) : Int) == 0) = false := beq_eq_false_iff_ne.2 (by omega)
              have v5 : ¬ ((sq : Int) = 0) := by omega
              have v2 : IntKind.i64.wrap (xn.tmod sq + (sq : Int)) = xn.tmod sq + (sq : Int) := by rw [IntKind.wrap_i64]; omega
              have v6 : (0 : Int) ≤ (J : Int) := by omega
              have v7 : (J : Int) < (sq : Int) := by omega
              have own := hx.texts 1 rfl
              obtain ⟨gl, capl, el, _, _⟩ := own.form (by omega)
              injection el with el1 el2 el3
              subst el1 el3
              have cJ := own.cell hLL.symm J (by omega)
              have hR := HLs.out _ (getD_mem13 LL J (by omega) ⟨#[]⟩)
              generalize LL.getD J ⟨#[]⟩ = R at *
              clear own el2
              by_cases k3 : xk = 3
              · subst k3
                obtain ⟨l, hl⟩ : ∃ l : List UInt8, R = str l := ⟨_, (str_back R).symm⟩
                subst hl
                have hsl := str_size l
                rw [hsl] at hR
                obtain ⟨N, hN⟩ : ∃ N, l.length = N := ⟨_, rfl⟩
                have hsn : (str l).size = N := by rw [hsl, hN]
                rw [hN] at hR
                clear hsl
                obtain ⟨⟨s1, s2⟩, j, hj, hje⟩ := place13 xa N (by omega)
                have u2 : IntKind.i64.wrap (xa.tmod N + (N : Int)) = xa.tmod N + (N : Int) := by rw [IntKind.wrap_i64]; omega
                have u5 : ¬ ((N : Int) = 0) := by omega
                have u6 : (0 : Int) ≤ (j : Int) := by omega
                have u7 : (j : Int) < (N : Int) := by omega
                have hjl : j < l.length := by omega
                obtain ⟨y, hy⟩ : ∃ y, l[j] = y := ⟨_, rfl⟩
                have hxor := u8_xor13 y xb
                have hcv := bytes_conv wx (str l)
                have h5 := hx.newBytes (str l)
                have hcap := grownCap_ge wx (str l).size 0 5
                rw [show (str l).data.toList = l from by simp [str]] at h5
                rw [hsn] at hcv hcap
                generalize grownCap wx N 0 5 = bcap at *
                generalize Lib.bytesWorld wx 5 (str l) = w5 at *
                generalize wx.heap.size = g at *
                have hz5 := h5.bytes 0 rfl
                have q2 := (h5.row 1 rfl).cellAt (j := 2) rfl
                have q3 := (h5.row 1 rfl).cellAt (j := 3) rfl
                have hc := hz5.cell j hjl
                have hf := hz5.frozen j hjl
                rw [hy] at hc
                have h6 := h5.setByte 0 rfl j hjl (y ^^^ xb)
                replace h6 : Here w [BytesTh g (l.set j (y ^^^ xb)), RowTh gx 45 [.int .i64 3, .int .i64 xn, .int .i64 xa, .int .u8 (xb.toNat : Int), .string xt], TextsTh w.heap.size (.slice (some ⟨gl, 0, none⟩) sq cap) LL, BookTh w.heap.size qb kb last, RefVTh r s vs vt, InTh K q s, OutTh K p KK sq] _ := h6
                rw [UInt8.toNat_xor] at h6
                have STR : Hid (∀ w1 l', Here w (BytesTh g (l.set j (y ^^^ xb)) :: l') w1 → (convert 51 9 (.slice (some ⟨g, 0, none⟩) N bcap)).run Tryz.prog w1 = .ok (.string (str (l.set j (y ^^^ xb)))) w1) := fun w1 l' h => by
                  have := (h.bytes 0 rfl).string N bcap (by rw [List.length_set]; omega)
                  rwa [List.take_of_length_le (by rw [List.length_set]; omega)] at this
                have hMz : (str (l.set j (y ^^^ xb))).size = N := by rw [str_set_le, hN]
                have H6 : Hid _ := h6.drew
                have hs7 := STR.out _ _ H6.out
                clear h6 h5 hz5 hx STR
                generalize str (l.set j (y ^^^ xb)) = MM at *
                generalize l.set j (y ^^^ xb) = LB at *
                go_wp2_with fail
                go_region
                clear hcv hc hf q2 q3 z0 z1 z4 cJ
                generalize (w5.setCell ⟨g, j, none⟩ (.int .u8 ((y.toNat ^^^ xb.toNat : Nat) : Int))).drew = w7 at *
                have HT : Hid _ := H6.out.tail.tail
                clear H6
                go_wp2_with fail
                have PO1 := PO.out MM (by omega) _ HT.out
                have PR1 : Hid _ := PR.out MM (by omega)
                have ho1 := out_len s MM
                have hw1 := step_len s MM
                have hk1' : (stepR s MM).key = KK := (stepR_key _ _).trans hsk
                have hol : (outR s MM).length ≤ 100 := by omega
                have hwl : (stepR s MM).W.length ≤ k + 1 := by omega
                clear ho1 hw1 PO PR
                generalize outR s MM = O at *
                generalize errR s MM = E at *
                generalize stepR s MM = s' at *
                go_wp2_with fail
                with_reducible refine PO1.mono ?_
                rintro e w6 ⟨a6, c6, rfl, h6⟩
                replace h6 : Here w [TextsTh w.heap.size (.slice a6 O.length c6) O, TextsTh w.heap.size (.slice (some ⟨gl, 0, none⟩) sq cap) LL, BookTh w.heap.size qb kb last, RefVTh r s vs vt, InTh K q s', OutTh K p KK sq] w6 := h6
                clear PO1
                go_wp2_with fail
                with_reducible refine (PR1.out _ _ _ _ h6).mono ?_
                rintro e w7 ⟨a7, c7, vs', vt', rfl, h7⟩
                replace h7 : Here w [TextsTh w.heap.size (.slice a7 O.length c7) O, TextsTh w.heap.size (.slice a6 O.length c6) O, TextsTh w.heap.size (.slice (some ⟨gl, 0, none⟩) sq cap) LL, BookTh w.heap.size qb kb last, RefVTh r s' vs' vt', InTh K q s', OutTh K p KK sq] w7 := h7
                clear h6 PR1
                have PT := h7.swap.bookTexts 2 rfl (by omega) (by omega)
                clear h7
                go_wp2_with fail
                with_reducible refine PT.mono ?_
                rintro e w8 ⟨rfl, h8⟩
                replace h8 : Here w [TextsTh w.heap.size (.slice a7 O.length c7) O, TextsTh w.heap.size (.slice (some ⟨gl, 0, none⟩) sq cap) LL, BookTh w.heap.size qb (kb + 1) (some (.slice a6 O.length c6, O)), RefVTh r s' vs' vt', InTh K q s', OutTh K p KK sq] w8 := h8
                clear PT
                obtain ⟨as_, cs_, hvs⟩ := (h8.ref 3 rfl).seqs.shape
                rw [seqsOf_len] at hvs
                subst hvs
                have PQ : Hid _ := fun w1 (h : Here w [TextsTh w.heap.size (.slice a7 O.length c7) O, TextsTh w.heap.size (.slice (some ⟨gl, 0, none⟩) sq cap) LL, BookTh w.heap.size qb (kb + 1) (some (.slice a6 O.length c6, O)), RefVTh r s' (.slice as_ s'.W.length cs_) vt', InTh K q s', OutTh K p KK sq] w1) => book_sameTexts O (.slice a6 O.length c6) (.slice a7 O.length c7) w1 (own_seen (h.bookLast 2 rfl)) (own_seen (h.texts 0 rfl)) (by omega)
                have PN : Hid _ := fun w1 (h : Here w [TextsTh w.heap.size (.slice a7 O.length c7) O, TextsTh w.heap.size (.slice (some ⟨gl, 0, none⟩) sq cap) LL, BookTh w.heap.size qb (kb + 1) (some (.slice a6 O.length c6, O)), RefVTh r s' (.slice as_ s'.W.length cs_) vt', InTh K q s', OutTh K p KK sq] w1) => h.inNext 4 rfl
                have PW : Hid (∀ w1, Here w [TextsTh w.heap.size (.slice a7 O.length c7) O, TextsTh w.heap.size (.slice (some ⟨gl, 0, none⟩) sq cap) LL, BookTh w.heap.size qb (kb + 1) (some (.slice a6 O.length c6, O)), RefVTh r s' (.slice as_ s'.W.length cs_) vt', InTh K q s', OutTh K p KK sq] w1 → Calls Tryz.prog 25 #[.pointer (some ⟨q, 0, none⟩)] w1 fun e w' => e = .returned (.int .i64 (s'.W.length : Int)) ∧ Here w [TextsTh w.heap.size (.slice a7 O.length c7) O, TextsTh w.heap.size (.slice (some ⟨gl, 0, none⟩) sq cap) LL, BookTh w.heap.size qb (kb + 1) (some (.slice a6 O.length c6, O)), RefVTh r s' (.slice as_ s'.W.length cs_) vt', InTh K q s', OutTh K p KK sq] w') := fun w1 h => h.inWaits 4 rfl
                go_wp2_with fail
                replace h8 := h8.drew
                have c8a := (h8.ref 3 rfl).row.cellAt (j := 1) rfl
                have c8b := (h8.ref 3 rfl).row.cellAt (j := 2) rfl
                clear hol
                go_region_held3 (fun w' => w'.cell? ⟨r, 1, none⟩ = some (.int .i64 (s'.next : Int)) ∧ w'.cell? ⟨r, 2, none⟩ = some (.slice as_ s'.W.length cs_)) (first | exact ⟨c11a, c11b⟩ | exact ⟨c10a, c10b⟩ | exact ⟨c9a, c9b⟩ | exact ⟨c8a, c8b⟩) (first | (go_at_call 23; with_reducible refine (PQ.out _ h8).mono ?_; rintro e w9 ⟨rfl, b9⟩; have h9 := h8.below b9; have c9a := (h9.ref 3 rfl).row.cellAt (j := 1) rfl; have c9b := (h9.ref 3 rfl).row.cellAt (j := 2) rfl) | (go_at_call 24; with_reducible refine (PN.out _ h9).mono ?_; rintro e w10 ⟨rfl, m10, rfl⟩; have h10 := h9.drewN m10; have c10a := (h10.ref 3 rfl).row.cellAt (j := 1) rfl; have c10b := (h10.ref 3 rfl).row.cellAt (j := 2) rfl) | (go_at_call 25; with_reducible refine (PW.out _ h10).mono ?_; rintro e w11 ⟨rfl, h11⟩; have c11b := (h11.ref 3 rfl).row.cellAt (j := 2) rfl; have c11a := (h11.ref 3 rfl).row.cellAt (j := 1) rfl))
                all_goals
                  go_wp2
                  go_roundw
                  case rel => exact ⟨k + 1, sq, kb + 1, s', _, _, _, LL, by go_num, by omega, rfl, by omega, by omega, hk1', hwl, hLL, HLs, h11.tail⟩
                  case measure => simp [intOf]; omega
              · obtain rfl : xk = 2 := by omega
                have HT : Hid _ := hx.tail
                clear hx
                go_wp2_with fail
                have PO1 := PO.out R (by omega) _ HT.out
                have PR1 : Hid _ := PR.out R (by omega)
                have ho1 := out_len s R
                have hw1 := step_len s R
                have hk1' : (stepR s R).key = KK := (stepR_key _ _).trans hsk
                have hol : (outR s R).length ≤ 100 := by omega
                have hwl : (stepR s R).W.length ≤ k + 1 := by omega
                clear ho1 hw1 PO PR
                generalize outR s R = O at *
                generalize errR s R = E at *
                generalize stepR s R = s' at *
                go_wp2_with fail
                with_reducible refine PO1.mono ?_
                rintro e w6 ⟨a6, c6, rfl, h6⟩
                replace h6 : Here w [TextsTh w.heap.size (.slice a6 O.length c6) O, TextsTh w.heap.size (.slice (some ⟨gl, 0, none⟩) sq cap) LL, BookTh w.heap.size qb kb last, RefVTh r s vs vt, InTh K q s', OutTh K p KK sq] w6 := h6
                clear PO1
                go_wp2_with fail
                with_reducible refine (PR1.out _ _ _ _ h6).mono ?_
                rintro e w7 ⟨a7, c7, vs', vt', rfl, h7⟩
                replace h7 : Here w [TextsTh w.heap.size (.slice a7 O.length c7) O, TextsTh w.heap.size (.slice a6 O.length c6) O, TextsTh w.heap.size (.slice (some ⟨gl, 0, none⟩) sq cap) LL, BookTh w.heap.size qb kb last, RefVTh r s' vs' vt', InTh K q s', OutTh K p KK sq] w7 := h7
                clear h6 PR1
                have PT := h7.swap.bookTexts 2 rfl (by omega) (by omega)
                clear h7
                go_wp2_with fail
                with_reducible refine PT.mono ?_
                rintro e w8 ⟨rfl, h8⟩
                replace h8 : Here w [TextsTh w.heap.size (.slice a7 O.length c7) O, TextsTh w.heap.size (.slice (some ⟨gl, 0, none⟩) sq cap) LL, BookTh w.heap.size qb (kb + 1) (some (.slice a6 O.length c6, O)), RefVTh r s' vs' vt', InTh K q s', OutTh K p KK sq] w8 := h8
                clear PT
                obtain ⟨as_, cs_, hvs⟩ := (h8.ref 3 rfl).seqs.shape
                rw [seqsOf_len] at hvs
                subst hvs
                have PQ : Hid _ := fun w1 (h : Here w [TextsTh w.heap.size (.slice a7 O.length c7) O, TextsTh w.heap.size (.slice (some ⟨gl, 0, none⟩) sq cap) LL, BookTh w.heap.size qb (kb + 1) (some (.slice a6 O.length c6, O)), RefVTh r s' (.slice as_ s'.W.length cs_) vt', InTh K q s', OutTh K p KK sq] w1) => book_sameTexts O (.slice a6 O.length c6) (.slice a7 O.length c7) w1 (own_seen (h.bookLast 2 rfl)) (own_seen (h.texts 0 rfl)) (by omega)
                have PN : Hid _ := fun w1 (h : Here w [TextsTh w.heap.size (.slice a7 O.length c7) O, TextsTh w.heap.size (.slice (some ⟨gl, 0, none⟩) sq cap) LL, BookTh w.heap.size qb (kb + 1) (some (.slice a6 O.length c6, O)), RefVTh r s' (.slice as_ s'.W.length cs_) vt', InTh K q s', OutTh K p KK sq] w1) => h.inNext 4 rfl
                have PW : Hid (∀ w1, Here w [TextsTh w.heap.size (.slice a7 O.length c7) O, TextsTh w.heap.size (.slice (some ⟨gl, 0, none⟩) sq cap) LL, BookTh w.heap.size qb (kb + 1) (some (.slice a6 O.length c6, O)), RefVTh r s' (.slice as_ s'.W.length cs_) vt', InTh K q s', OutTh K p KK sq] w1 → Calls Tryz.prog 25 #[.pointer (some ⟨q, 0, none⟩)] w1 fun e w' => e = .returned (.int .i64 (s'.W.length : Int)) ∧ Here w [TextsTh w.heap.size (.slice a7 O.length c7) O, TextsTh w.heap.size (.slice (some ⟨gl, 0, none⟩) sq cap) LL, BookTh w.heap.size qb (kb + 1) (some (.slice a6 O.length c6, O)), RefVTh r s' (.slice as_ s'.W.length cs_) vt', InTh K q s', OutTh K p KK sq] w') := fun w1 h => h.inWaits 4 rfl
                go_wp2_with fail
                replace h8 := h8.drew
                have c8a := (h8.ref 3 rfl).row.cellAt (j := 1) rfl
                have c8b := (h8.ref 3 rfl).row.cellAt (j := 2) rfl
                clear hol
                go_region_held3 (fun w' => w'.cell? ⟨r, 1, none⟩ = some (.int .i64 (s'.next : Int)) ∧ w'.cell? ⟨r, 2, none⟩ = some (.slice as_ s'.W.length cs_)) (first | exact ⟨c11a, c11b⟩ | exact ⟨c10a, c10b⟩ | exact ⟨c9a, c9b⟩ | exact ⟨c8a, c8b⟩) (first | (go_at_call 23; with_reducible refine (PQ.out _ h8).mono ?_; rintro e w9 ⟨rfl, b9⟩; have h9 := h8.below b9; have c9a := (h9.ref 3 rfl).row.cellAt (j := 1) rfl; have c9b := (h9.ref 3 rfl).row.cellAt (j := 2) rfl) | (go_at_call 24; with_reducible refine (PN.out _ h9).mono ?_; rintro e w10 ⟨rfl, m10, rfl⟩; have h10 := h9.drewN m10; have c10a := (h10.ref 3 rfl).row.cellAt (j := 1) rfl; have c10b := (h10.ref 3 rfl).row.cellAt (j := 2) rfl) | (go_at_call 25; with_reducible refine (PW.out _ h10).mono ?_; rintro e w11 ⟨rfl, h11⟩; have c11b := (h11.ref 3 rfl).row.cellAt (j := 2) rfl; have c11a := (h11.ref 3 rfl).row.cellAt (j := 1) rfl))
                all_goals
                  go_wp2
                  go_roundw
                  case rel => exact ⟨k + 1, sq, kb + 1, s', _, _, _, LL, by go_num, by omega, rfl, by omega, by omega, hk1', hwl, hLL, HLs, h11.tail⟩
                  case measure => simp [intOf]; omega
          · have dk2 : (xk == 2) = false := beq_eq_false_iff_ne.2 (by omega)
            have dk3 : (xk == 3) = false := beq_eq_false_iff_ne.2 (by omega)
            have HT : Hid _ := hx.tail
            clear hx k23 kk1
            go_wp2_with fail
            have PO1 := PO.out xt (by omega) _ HT.out
            have PR1 : Hid _ := PR.out xt (by omega)
            have ho1 := out_len s xt
            have hw1 := step_len s xt
            have hk1' : (stepR s xt).key = KK := (stepR_key _ _).trans hsk
            have hol : (outR s xt).length ≤ 100 := by omega
            have hwl : (stepR s xt).W.length ≤ k + 1 := by omega
            clear ho1 hw1 PO PR
            generalize outR s xt = O at *
            generalize errR s xt = E at *
            generalize stepR s xt = s' at *
            go_wp2_with fail
            with_reducible refine PO1.mono ?_
            rintro e w6 ⟨a6, c6, rfl, h6⟩
            replace h6 : Here w [TextsTh w.heap.size (.slice a6 O.length c6) O, TextsTh w.heap.size (.slice ao sq cap) LL, BookTh w.heap.size qb kb last, RefVTh r s vs vt, InTh K q s', OutTh K p KK sq] w6 := h6
            clear PO1
            go_wp2_with fail
            with_reducible refine (PR1.out _ _ _ _ h6).mono ?_
            rintro e w7 ⟨a7, c7, vs', vt', rfl, h7⟩
            replace h7 : Here w [TextsTh w.heap.size (.slice a7 O.length c7) O, TextsTh w.heap.size (.slice a6 O.length c6) O, TextsTh w.heap.size (.slice ao sq cap) LL, BookTh w.heap.size qb kb last, RefVTh r s' vs' vt', InTh K q s', OutTh K p KK sq] w7 := h7
            clear h6 PR1
            have PT := h7.swap.bookTexts 2 rfl (by omega) (by omega)
            clear h7
            go_wp2_with fail
            with_reducible refine PT.mono ?_
            rintro e w8 ⟨rfl, h8⟩
            replace h8 : Here w [TextsTh w.heap.size (.slice a7 O.length c7) O, TextsTh w.heap.size (.slice ao sq cap) LL, BookTh w.heap.size qb (kb + 1) (some (.slice a6 O.length c6, O)), RefVTh r s' vs' vt', InTh K q s', OutTh K p KK sq] w8 := h8
            clear PT
            obtain ⟨as_, cs_, hvs⟩ := (h8.ref 3 rfl).seqs.shape
            rw [seqsOf_len] at hvs
            subst hvs
            have PQ : Hid _ := fun w1 (h : Here w [TextsTh w.heap.size (.slice a7 O.length c7) O, TextsTh w.heap.size (.slice ao sq cap) LL, BookTh w.heap.size qb (kb + 1) (some (.slice a6 O.length c6, O)), RefVTh r s' (.slice as_ s'.W.length cs_) vt', InTh K q s', OutTh K p KK sq] w1) => book_sameTexts O (.slice a6 O.length c6) (.slice a7 O.length c7) w1 (own_seen (h.bookLast 2 rfl)) (own_seen (h.texts 0 rfl)) (by omega)
            have PN : Hid _ := fun w1 (h : Here w [TextsTh w.heap.size (.slice a7 O.length c7) O, TextsTh w.heap.size (.slice ao sq cap) LL, BookTh w.heap.size qb (kb + 1) (some (.slice a6 O.length c6, O)), RefVTh r s' (.slice as_ s'.W.length cs_) vt', InTh K q s', OutTh K p KK sq] w1) => h.inNext 4 rfl
            have PW : Hid (∀ w1, Here w [TextsTh w.heap.size (.slice a7 O.length c7) O, TextsTh w.heap.size (.slice ao sq cap) LL, BookTh w.heap.size qb (kb + 1) (some (.slice a6 O.length c6, O)), RefVTh r s' (.slice as_ s'.W.length cs_) vt', InTh K q s', OutTh K p KK sq] w1 → Calls Tryz.prog 25 #[.pointer (some ⟨q, 0, none⟩)] w1 fun e w' => e = .returned (.int .i64 (s'.W.length : Int)) ∧ Here w [TextsTh w.heap.size (.slice a7 O.length c7) O, TextsTh w.heap.size (.slice ao sq cap) LL, BookTh w.heap.size qb (kb + 1) (some (.slice a6 O.length c6, O)), RefVTh r s' (.slice as_ s'.W.length cs_) vt', InTh K q s', OutTh K p KK sq] w') := fun w1 h => h.inWaits 4 rfl
            go_wp2_with fail
            replace h8 := h8.drew
            have c8a := (h8.ref 3 rfl).row.cellAt (j := 1) rfl
            have c8b := (h8.ref 3 rfl).row.cellAt (j := 2) rfl
            clear hol
            go_region_held3 (fun w' => w'.cell? ⟨r, 1, none⟩ = some (.int .i64 (s'.next : Int)) ∧ w'.cell? ⟨r, 2, none⟩ = some (.slice as_ s'.W.length cs_)) (first | exact ⟨c11a, c11b⟩ | exact ⟨c10a, c10b⟩ | exact ⟨c9a, c9b⟩ | exact ⟨c8a, c8b⟩) (first | (go_at_call 23; with_reducible refine (PQ.out _ h8).mono ?_; rintro e w9 ⟨rfl, b9⟩; have h9 := h8.below b9; have c9a := (h9.ref 3 rfl).row.cellAt (j := 1) rfl; have c9b := (h9.ref 3 rfl).row.cellAt (j := 2) rfl) | (go_at_call 24; with_reducible refine (PN.out _ h9).mono ?_; rintro e w10 ⟨rfl, m10, rfl⟩; have h10 := h9.drewN m10; have c10a := (h10.ref 3 rfl).row.cellAt (j := 1) rfl; have c10b := (h10.ref 3 rfl).row.cellAt (j := 2) rfl) | (go_at_call 25; with_reducible refine (PW.out _ h10).mono ?_; rintro e w11 ⟨rfl, h11⟩; have c11b := (h11.ref 3 rfl).row.cellAt (j := 2) rfl; have c11a := (h11.ref 3 rfl).row.cellAt (j := 1) rfl))
            all_goals
              go_wp2
              go_roundw
              case rel => exact ⟨k + 1, sq, kb + 1, s', _, _, _, LL, by go_num, by omega, rfl, by omega, by omega, hk1', hwl, hLL, HLs, h11.tail⟩
              case measure => simp [intOf]; omega
    · obtain rfl : k = n := by omega
      have dlt : decide ((k : Int) < (k : Int)) = false := by simp
      have hk60 : kb ≤ 1000 := by omega
      have PX : Hid (∀ w1, Here w [TextsTh w.heap.size (.slice ao sq cap) LL, BookTh w.heap.size qb kb last, RefVTh r s vs vt, InTh K q s, OutTh K p KK sq] w1 → Calls Tryz.prog 26 #[.pointer (some ⟨qb, 0, none⟩)] w1 fun e w' => e = .returned (.bool true) ∧ Below w.heap.size w w') := fun w1 h => h.bookApart 1 rfl hk60
      have N1 : Hid _ := fun w1 => K.sealNil w1 ⟨#[120]⟩ (by decide)
      have N2 : Hid _ := fun w1 => K.openNil w1 ⟨#[120]⟩ (by decide)
      have N3 : Hid _ := fun w1 => K.outNextNil w1
      have N4 : Hid _ := fun w1 => K.inNextNil w1
      have N5 : Hid _ := fun w1 => K.waitsNil w1
      go_wp2_with fail
      with_reducible refine (N1.out _).mono ?_
      rintro e w6 ⟨x6, rfl, b6⟩
      have h6 := hh.below b6
      clear hh b6 N1
      go_wp2_with fail
      with_reducible refine (N2.out _).mono ?_
      rintro e w7 ⟨x7, rfl, b7⟩
      have h7 := h6.below b7
      clear h6 b7 N2
      go_wp2_with fail
      with_reducible refine (N3.out _).mono ?_
      rintro e w8 ⟨rfl, b8⟩
      have h8 := h7.below b8
      clear h7 b8 N3
      go_wp2_with fail
      with_reducible refine (N4.out _).mono ?_
      rintro e w9 ⟨rfl, b9⟩
      have h9 := h8.below b9
      clear h8 b9 N4
      go_wp2_with fail
      with_reducible refine (N5.out _).mono ?_
      rintro e w10 ⟨rfl, b10⟩
      have h10 := h9.below b10
      clear h9 b10 N5
      go_wp2_with fail
      with_reducible refine (PX.out _ h10).mono ?_
      rintro e w11 ⟨rfl, b11⟩
      go_wp2
      go_ret
      exact ⟨rfl, b11⟩

end Go.Proofs.YtanghehmfagmfaaGreatDoor
