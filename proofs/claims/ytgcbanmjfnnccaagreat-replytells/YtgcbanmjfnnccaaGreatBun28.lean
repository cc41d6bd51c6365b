/-
  Parts of this proof, one behind the other: Rtl0, Rtl1.
-/
import Derived.Test.YtgcbanmjfnnccaaGreatBun20
import Derived.Test.YtgcbanmjfnnccaaGreatBun21
import Derived.Test.YtgcbanmjfnnccaaGreatBun25
import Derived.Test.YtgcbanmjfnnccaaGreatBun22
import Derived.Test.YtgcbanmjfnnccaaGreatBun26
import Derived.Test.YtgcbanmjfnnccaaGreatBun27

/-
  A book of texts beside what a call made; a lent list as a list of texts; what GetReply makes of PutReply's bytes.
-/
namespace Go.Proofs.YtgcbanmjfnnccaaGreat
open Go.RowKit
set_option linter.unusedVariables false
set_option maxRecDepth 100000
set_option linter.unusedSimpArgs false

theorem book_newR (w : World) : BookT (w.alloc (.cells (rowT (.slice none 0 0) (.slice none 0 0)).toArray 37)) w.heap.size w.heap.size (.slice none 0 0) (.slice none 0 0) [] [] [] :=
  ⟨RowIs.new w _ _, Nat.le_refl _, World.ownsRow_nil _ _ _ _, World.ownsRow_nil _ _ _ _, rfl, rfl, fun i v l h => by simp at h, fun i v l h => by simp at h, by simp [Apart2, Value.ownBlock], by simp [Value.ownBlock]⟩
/-- What Texts turns is the book's. -/
theorem BookT.touchedR {w w' : World} {base p : Nat} {vo wo : Value} {vs ws : List Value} {ls : List (List ByteArray)} (h : BookT w base p vo wo vs ws ls) (ht : Touch (fun k => k = p ∨ vo.ownBlock = some k ∨ wo.ownBlock = some k) w w') (hb : base ≤ w.heap.size) : Below base w w' := by
  refine ht.below (fun k hk => ?_) hb
  rcases hk with rfl | hk | hk
  · exact h.here
  · exact (h.lt (u := vo) (by simp) hk).1
  · exact (h.lt (u := wo) (by simp) hk).1
/-- A list that was made behind the book's is free. -/
theorem free_made {w w2 : World} {B q : Nat} {vo wo v : Value} {vs ws : List Value} {ls : List (List ByteArray)} {l : List ByteArray} (hB : BookT w B q vo wo vs ws ls) (hv : OwnT w2 w.heap.size v l) : Free w2 q (vo :: wo :: (vs ++ ws)) v := by
  intro k hk
  obtain ⟨h1, h2⟩ := World.ownsRow.lt hv k hk
  have hp := hB.row.lt
  refine ⟨h2, by omega, fun u hu he => ?_⟩
  have := (hB.lt hu he).2
  omega
/-- A free list is free still, when the book has one more of its own. -/
theorem free_more {w w' : World} {q : Nat} {vo wo vo' wo' v u y : Value} {vs ws : List Value} (hf : Free w q (vo :: wo :: (vs ++ ws)) y) (hvy : Apart2 v y) (ol : Olds w vo wo vo' wo' u) (hs : w.heap.size ≤ w'.heap.size) : Free w' q (vo' :: wo' :: ((vs ++ [v]) ++ (ws ++ [u]))) y := by
  intro k hk
  obtain ⟨h1, h2, h3⟩ := hf k hk
  refine ⟨by omega, h2, fun x hx he => ?_⟩
  have hcase : x = vo' ∨ x = wo' ∨ x ∈ vs ++ ws ∨ x = v ∨ x = u := by simp at hx ⊢; rcases hx with e | e | e | e | e | e <;> simp [e]
  rcases hcase with rfl | rfl | hx | rfl | rfl
  · exact h3 vo (by simp) ((ol k h1).1 he)
  · exact h3 wo (by simp) ((ol k h1).2.1 he)
  · exact h3 x (by simp at hx ⊢; rcases hx with e | e <;> simp [e]) he
  · exact hvy k he hk
  · exact (ol k h1).2.2 he
/-- A list that was made behind the book's is left by Texts. -/
theorem own_texts {w2 w3 : World} {q : Nat} {vo wo v : Value} {vs ws : List Value} {l : List ByteArray} {base : Nat} (hf : Free w2 q (vo :: wo :: (vs ++ ws)) v) (hv : OwnT w2 base v l) (t : Touch (fun k => k = q ∨ vo.ownBlock = some k ∨ wo.ownBlock = some k) w2 w3) : OwnT w3 base v l :=
  own_touch hv t (fun k hk hS => by
    obtain ⟨_, h2, h3⟩ := hf k hk
    rcases hS with hS | hS | hS
    · exact h2 hS
    · exact h3 vo (by simp) hS
    · exact h3 wo (by simp) hS)
/-- A row that was made behind the book's is left by Texts. -/
theorem row_texts {w w2 w3 : World} {B q g : Nat} {vo wo : Value} {vs ws : List Value} {ls : List (List ByteArray)} {t : TypeId} {cs : List Value} (hB : BookT w B q vo wo vs ws ls) (hg : w.heap.size ≤ g) (hr : RowIs w2 g t cs) (ht : Touch (fun k => k = q ∨ vo.ownBlock = some k ∨ wo.ownBlock = some k) w2 w3) : RowIs w3 g t cs := by
  show w3.heap[g]? = _
  rw [ht.block g hr.lt (fun hS => by
    have hp := hB.row.lt
    rcases hS with hS | hS | hS
    · omega
    · have := (hB.lt (u := vo) (by simp) hS).2; omega
    · have := (hB.lt (u := wo) (by simp) hS).2; omega)]
  exact hr
/-- A row that was made ahead of the book is left by Texts. -/
theorem row_before {w w2 w3 : World} {B q g : Nat} {vo wo : Value} {vs ws : List Value} {ls : List (List ByteArray)} {t : TypeId} {cs : List Value} (hB : BookT w2 B q vo wo vs ws ls) (hg : g < B) (hb : B ≤ w2.heap.size) (hr : RowIs w2 g t cs) (ht : Touch (fun k => k = q ∨ vo.ownBlock = some k ∨ wo.ownBlock = some k) w2 w3) : RowIs w3 g t cs :=
  RowIs.below hr (hB.touchedR ht hb) hg
/-- A lent list as a list of texts. -/
theorem Lent.strs {w : World} {base : Nat} {v : Value} {n : Nat} {L : Nat → List UInt8} (h : Lent w base v (keysOf n L)) : ∃ g cap, v = .slice (some ⟨g, 0, none⟩) n cap ∧ base ≤ g ∧ StrsAt w (some ⟨g, 0, none⟩) n L := by
  obtain ⟨g, cap, rfl, h1, h2, h3, h4⟩ := h
  rw [keysOf_len] at h1 h3 h4 ⊢
  refine ⟨g, cap, rfl, h2, fun i hi => ⟨g, 0, rfl, ?_⟩⟩
  rw [Nat.zero_add, h3 i hi, keysOf_at n L i hi]
theorem strs_reads {w : World} {oa : Option Addr} {n cap : Nat} {L : Nat → List UInt8} (h : StrsAt w oa n L) (h0 : oa = none → n = 0 ∧ cap = 0) : Reads w (.slice oa n cap) (keysOf n L) := by
  cases oa with
  | none =>
    obtain ⟨rfl, rfl⟩ := h0 rfl
    exact Or.inl ⟨rfl, by simp [keysOf]⟩
  | some a =>
    refine Or.inr ⟨a, cap, by rw [keysOf_len], fun i hi => ?_⟩
    rw [keysOf_len] at hi
    obtain ⟨b, o, e, hc⟩ := h i hi
    injection e with e
    exact ⟨b, o, e, by rw [hc, keysOf_at n L i hi]⟩
theorem getR_len (b : ByteArray) : (getR b).keys.length ≤ 40 := by
  by_cases h : isRep b
  · rw [(getR_yes h).1]
    exact h.1.1.2.2.2.2
  · rw [(getR_no h).1]
    exact Nat.zero_le _
theorem getR_empty : getR ⟨#[]⟩ = Rep.zero ∧ getROk ⟨#[]⟩ = false := refR_away (fun h => by
  have := h.1
  have e : (⟨#[]⟩ : ByteArray).size = 0 := rfl
  omega)
/-- What GetReply makes of PutReply's bytes. -/
theorem put_tells (r : Rep) : (r.ok = true ∧ getR r.put = r ∧ getROk r.put = true ∧ r.put.size ≤ 3000 ∧ r.keys.length ≤ 40) ∨ (r.ok = false ∧ r.put = ⟨#[]⟩) := by
  by_cases h : r.Ok
  · obtain ⟨_, g1, g2⟩ := getR_put h
    refine Or.inl ⟨decide_eq_true h, g1, g2, ?_, h.1.2.2.2.2⟩
    rw [Rep.put_size h]
    have h1 := keysN_le 60 r.keys h.2
    have h2 := h.1.2.2.2.1
    have h3 := h.1.2.2.2.2
    omega
  · exact Or.inr ⟨decide_eq_false h, Rep.put_no h⟩

end Go.Proofs.YtgcbanmjfnnccaaGreat

/-
  What stands while the law ReplyTells goes its way: the reply, its copy with the lent list, the book.
-/
namespace Go.Proofs.YtgcbanmjfnnccaaGreat
open Go.RowKit
set_option linter.unusedVariables false
set_option maxRecDepth 100000
set_option linter.unusedSimpArgs false

theorem Lent.strsAt {w : World} {base g n cap : Nat} {L : Nat → List UInt8} (h : Lent w base (.slice (some ⟨g, 0, none⟩) n cap) (keysOf n L)) : StrsAt w (some ⟨g, 0, none⟩) n L := by
  obtain ⟨g', cap', e, _, h2⟩ := h.strs
  injection e with e1 e2 e3
  rw [e1]
  exact h2
theorem Lent.at {w : World} {base g n cap : Nat} {l : List ByteArray} (h : Lent w base (.slice (some ⟨g, 0, none⟩) n cap) l) : g < w.heap.size ∧ base ≤ g := by
  obtain ⟨g', cap', e, _, h2, _, h4⟩ := h
  injection e with e1 e2 e3
  injection e1 with e1
  injection e1 with e1
  subst e1
  exact ⟨World.block_lt_of_cell? w _ h4, h2⟩
theorem Lent.under {w w' : World} {base g n cap B : Nat} {l : List ByteArray} (h : Lent w base (.slice (some ⟨g, 0, none⟩) n cap) l) (hg : g < B) (hb : Below B w w') : Lent w' base (.slice (some ⟨g, 0, none⟩) n cap) l := by
  obtain ⟨g', cap', e, h1, h2, h3, h4⟩ := h
  have e' := e
  injection e with e1 e2 e3
  injection e1 with e1
  injection e1 with e1
  subst e1
  exact ⟨g, cap', e', h1, h2, fun i hi => (hb.cell (p := ⟨g, i, none⟩) hg).trans (h3 i hi), (hb.cell (p := ⟨g, l.length, none⟩) hg).trans h4⟩
theorem Free.later {w w' : World} {p : Nat} {us : List Value} {v : Value} (h : Free w p us v) (hs : w.heap.size ≤ w'.heap.size) : Free w' p us v := fun k hk => ⟨by have := (h k hk).1; omega, (h k hk).2⟩

/-- A block that is none of those that Texts turns. -/
def NotB (g B : Nat) (vo wo : Value) : Prop := g ≠ B ∧ vo.ownBlock ≠ some g ∧ wo.ownBlock ≠ some g
theorem notB_made {w : World} {B g : Nat} {vo wo : Value} {vs ws : List Value} {ls : List (List ByteArray)} (hB : BookT w B B vo wo vs ws ls) (hg : w.heap.size ≤ g) : NotB g B vo wo := by
  have hp := hB.row.lt
  exact ⟨by omega, fun e => by have := (hB.lt (u := vo) (by simp) e).2; omega, fun e => by have := (hB.lt (u := wo) (by simp) e).2; omega⟩
theorem notB_more {u : World} {B g : Nat} {vo wo vo' wo' x : Value} (h : NotB g B vo wo) (ol : Olds u vo wo vo' wo' x) (hg : g < u.heap.size) : NotB g B vo' wo' :=
  ⟨h.1, fun e => h.2.1 ((ol g hg).1 e), fun e => h.2.2 ((ol g hg).2.1 e)⟩
theorem row_notB {u u' : World} {B g : Nat} {vo wo : Value} {t : TypeId} {cs : List Value} (h : NotB g B vo wo) (hr : RowIs u g t cs) (ht : Touch (fun k => k = B ∨ vo.ownBlock = some k ∨ wo.ownBlock = some k) u u') : RowIs u' g t cs := by
  show u'.heap[g]? = _
  rw [ht.block g hr.lt (fun hS => by
    rcases hS with hS | hS | hS
    · exact h.1 hS
    · exact h.2.1 hS
    · exact h.2.2 hS)]
  exact hr

structure TellsAt (w0 : World) (P B lg lc n : Nat) (rl ml : List Value) (K : List ByteArray) (vo wo : Value) (vs ws : List Value) (ls : List (List ByteArray)) (u : World) : Prop where
  rr : RowIs u w0.heap.size 25 rl
  rm : RowIs u P 25 ml
  lt1 : w0.heap.size < B
  lt2 : P < B
  lt3 : lg < B
  le : Lent u (P + 1) (.slice (some ⟨lg, 0, none⟩) n lc) K
  bk : BookT u B B vo wo vs ws ls
  bel : Below w0.heap.size w0 u
  sz : B ≤ u.heap.size
section
variable {w0 : World} {P B lg lc n : Nat} {rl ml : List Value} {K : List ByteArray} {vo wo : Value} {vs ws : List Value} {ls : List (List ByteArray)} {u u' : World}
theorem TellsAt.below (h : TellsAt w0 P B lg lc n rl ml K vo wo vs ws ls u) (hb : Below u.heap.size u u') : TellsAt w0 P B lg lc n rl ml K vo wo vs ws ls u' :=
  ⟨h.rr.below hb h.rr.lt, h.rm.below hb h.rm.lt, h.lt1, h.lt2, h.lt3, h.le.under (Nat.lt_of_lt_of_le h.lt3 h.sz) hb, h.bk.below hb, h.bel.trans (hb.mono h.bel.size), Nat.le_trans h.sz hb.size⟩
theorem TellsAt.alloc (h : TellsAt w0 P B lg lc n rl ml K vo wo vs ws ls u) (o : Obj) : TellsAt w0 P B lg lc n rl ml K vo wo vs ws ls (u.alloc o) := h.below ((Below.refl _ _).alloc (Nat.le_refl _) _)
theorem TellsAt.texts (h : TellsAt w0 P B lg lc n rl ml K vo wo vs ws ls u) {v : Value} {l : List ByteArray} (hv : OwnT u B v l) (hf : Free u B (vo :: wo :: (vs ++ ws)) v) (hN : vs.length < 250) (hl : l.length ≤ 1000000) :
    Calls Tryz.prog 10 #[.pointer (some ⟨B, 0, none⟩), v] u fun e u' => e = .returned (.tuple #[]) ∧ (∃ vo' wo' x, TellsAt w0 P B lg lc n rl ml K vo' wo' (vs ++ [v]) (ws ++ [x]) (ls ++ [l]) u' ∧ Olds u vo wo vo' wo' x) ∧ Touch (fun k => k = B ∨ vo.ownBlock = some k ∨ wo.ownBlock = some k) u u' := by
  refine (book_textsO B B vo wo vs ws ls v l u h.bk hv hf hN hl h.sz).mono ?_
  rintro e u' ⟨rfl, ⟨vo', wo', x, hB, ol⟩, t⟩
  have hb := h.bk.touchedR t h.sz
  exact ⟨rfl, ⟨vo', wo', x, ⟨h.rr.below hb h.lt1, h.rm.below hb h.lt2, h.lt1, h.lt2, h.lt3, h.le.under h.lt3 hb, hB, h.bel.trans (hb.mono (Nat.le_of_lt h.lt1)), Nat.le_trans h.sz hb.size⟩, ol⟩, t⟩
theorem TellsAt.apart (h : TellsAt w0 P B lg lc n rl ml K vo wo vs ws ls u) (hN : vs.length ≤ 1000) (hl : ∀ l ∈ ls, l.length ≤ 1000000) :
    Calls Tryz.prog 13 #[.pointer (some ⟨B, 0, none⟩)] u fun e u' => e = .returned (.bool true) ∧ Below w0.heap.size w0 u' := by
  refine (book_apartT B B vo wo vs ws ls u h.bk hN (fun i l hi => hl l (List.mem_of_getElem? hi)) h.sz).mono ?_
  rintro e u' ⟨rfl, hb⟩
  exact ⟨rfl, h.bel.trans (hb.mono (Nat.le_of_lt h.lt1))⟩
end

/-- The copy takes the lent list, the book is laid. -/
theorem tells_begin {w0 u3 : World} {P lg lc n : Nat} {x0 x1 x2 x3 x4 : Value} {rl : List Value} {K : List ByteArray} (hP : w0.heap.size < P) (hPu : P < u3.heap.size) (rr : RowIs u3 w0.heap.size 25 rl) (rm : RowIs u3 P 25 [x0, x1, x2, x3, x4]) (bel : Below w0.heap.size w0 u3) (le : Lent u3 (P + 1) (.slice (some ⟨lg, 0, none⟩) n lc) K) :
    TellsAt w0 P u3.heap.size lg lc n rl [x0, x1, x2, x3, .slice (some ⟨lg, 0, none⟩) n lc] K (.slice none 0 0) (.slice none 0 0) [] [] [] ((u3.setCell ⟨P, 4, none⟩ (.slice (some ⟨lg, 0, none⟩) n lc)).alloc (.cells #[.slice none 0 0, .slice none 0 0, .slice none 0 0, .slice none 0 0, .slice none 0 0, .slice none 0 0, .slice none 0 0, .slice none 0 0, .slice none 0 0, .slice none 0 0, .slice none 0 0, .slice none 0 0, .slice none 0 0, .slice none 0 0] 37)) := by
  have z4 : (u3.setCell ⟨P, 4, none⟩ (.slice (some ⟨lg, 0, none⟩) n lc)).heap.size = u3.heap.size := by simp [World.setCell]
  have hBk := book_newR (u3.setCell ⟨P, 4, none⟩ (.slice (some ⟨lg, 0, none⟩) n lc))
  rw [z4] at hBk
  have hr1 := RowIs.setOther rr (a := ⟨P, 4, none⟩) (show w0.heap.size ≠ P by omega) (.slice (some ⟨lg, 0, none⟩) n lc)
  have hr2 := RowIs.set rm 4 (.slice (some ⟨lg, 0, none⟩) n lc)
  have hb := bel.setCell (p := ⟨P, 4, none⟩) (Nat.le_of_lt hP) (.slice (some ⟨lg, 0, none⟩) n lc)
  obtain ⟨l1, l2⟩ := le.at
  have hle : Lent (u3.setCell ⟨P, 4, none⟩ (.slice (some ⟨lg, 0, none⟩) n lc)) (P + 1) (.slice (some ⟨lg, 0, none⟩) n lc) K := by
    obtain ⟨g, cap, e1, h1, h2, h3, h4⟩ := le
    have hc : ∀ i u, u3.cell? ⟨g, i, none⟩ = some u → (u3.setCell ⟨P, 4, none⟩ (.slice (some ⟨lg, 0, none⟩) n lc)).cell? ⟨g, i, none⟩ = some u := fun i u h => by
      rw [World.cell?_of_block (a := ⟨g, i, none⟩) (Below.heap_setCell _ _ _ _ (show g ≠ P by omega))]
      exact h
    exact ⟨g, cap, e1, h1, h2, fun i hi => hc i _ (h3 i hi), hc _ _ h4⟩
  have hba : ∀ o, Below (u3.setCell ⟨P, 4, none⟩ (.slice (some ⟨lg, 0, none⟩) n lc)).heap.size (u3.setCell ⟨P, 4, none⟩ (.slice (some ⟨lg, 0, none⟩) n lc)) ((u3.setCell ⟨P, 4, none⟩ (.slice (some ⟨lg, 0, none⟩) n lc)).alloc o) := fun o => (Below.refl _ _).alloc (Nat.le_refl _) _
  exact ⟨hr1.alloc _, RowIs.alloc hr2 _, by omega, hPu, l1, hle.below (hba _), hBk, hb.trans ((hba _).mono (by rw [z4]; omega)), by simp [z4]⟩

/-- What the two GetReply make of bytes, in parts. -/
theorem get_form (b : ByteArray) (hb : b.size ≤ 3000) : ∃ (e : Int) (s : ByteArray) (nu ve : Int) (K : List ByteArray) (o : Bool), getR b = ⟨e, s, nu, ve, K⟩ ∧ getROk b = o ∧ K.length ≤ 40 ∧
    (∀ u, Calls Tryz.prog 8 #[.string b] u fun r u' => (∃ kv, OwnT u' u.heap.size kv K ∧ r = .returned (.tuple #[.agg #[.int .i64 e, .string s, .int .i64 nu, .int .i64 ve, kv], .bool o])) ∧ Below u.heap.size u u') ∧
    (∀ u, Calls Tryz.prog 9 #[.string b] u fun r u' => (∃ kv, OwnT u' u.heap.size kv K ∧ r = .returned (.tuple #[.agg #[.int .i64 e, .string s, .int .i64 nu, .int .i64 ve, kv], .bool o])) ∧ Below u.heap.size u u') := by
  have h1 := fun u => command_getReply b u (by omega)
  have h2 := fun u => ref_getReply b u (by omega)
  have h3 := getR_len b
  generalize getR b = D at *
  generalize getROk b = o at *
  obtain ⟨e, s, nu, ve, K⟩ := D
  exact ⟨e, s, nu, ve, K, o, rfl, rfl, h3, h1, h2⟩

end Go.Proofs.YtgcbanmjfnnccaaGreat
