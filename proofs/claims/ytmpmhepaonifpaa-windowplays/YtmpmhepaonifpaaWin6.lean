/-
  What stands while the law WindowPlays goes its way: the Window, the set of what was taken, the book; and a list beside them.
-/
import Derived.Test.YtmpmhepaonifpaaWin1
import Derived.Test.YtmpmhepaonifpaaHad0
import Derived.Test.YtmpmhepaonifpaaBokI9
namespace Go.Proofs.Ytmpmhepaonifpaa
open Go.RowKit
set_option linter.unusedVariables false
set_option maxRecDepth 100000
set_option linter.unusedSimpArgs false

theorem BookI.touch {S : Nat → Prop} {w w' : World} {base p : Nat} {vo wo : Value} {vs ws : List Value} {ls : List (List Int)} (h : BookI w base p vo wo vs ws ls) (ht : Touch S w w') (hn : ∀ k, S k → k ≠ p ∧ ∀ u ∈ vo :: wo :: (vs ++ ws), u.ownBlock ≠ some k) : BookI w' base p vo wo vs ws ls := by
  refine ⟨?_, h.here, own_touch h.ownV ht (fun k hk hS => (hn k hS).2 vo (by simp) hk), own_touch h.ownW ht (fun k hk hS => (hn k hS).2 wo (by simp) hk), h.lenV, h.lenW, ?_, ?_, h.apart, h.off⟩
  · show w'.heap[p]? = _
    rw [ht.block p h.row.lt (fun hS => (hn p hS).1 rfl)]
    exact h.row
  · intro i v l h1 h2
    exact own_touch (h.eachV i v l h1 h2) ht (fun k hk hS => (hn k hS).2 v (by simp [List.mem_of_getElem? h1]) hk)
  · intro i v l h1 h2
    exact own_touch (h.eachW i v l h1 h2) ht (fun k hk hS => (hn k hS).2 v (by simp [List.mem_of_getElem? h1]) hk)

structure PlS (K : WindowKeeps) (w0 : World) (p : Nat) (s : Wn) (T : List Int) (m : Nat) (bl : Nat → Prop) (vo wo : Value) (vs ws : List Value) (ls : List (List Int)) (w : World) : Prop where
  at_ : K.At w bl p s
  had : HadAt w (p + 1) m T
  bk : BookI w p (p + 2) vo wo vs ws ls
  ap : ∀ j, bl j → j ≠ p + 1 ∧ j ≠ p + 2 ∧ ∀ u ∈ vo :: wo :: (vs ++ ws), u.ownBlock ≠ some j
  aph : ∀ u ∈ vo :: wo :: (vs ++ ws), u.ownBlock ≠ some (p + 1)
  bel : Below w0.heap.size w0 w
  lep : w0.heap.size ≤ p
  sz : p + 2 < w.heap.size
  bnd : ∀ l ∈ ls, l.length ≤ 1000000
/-- A list of the law's own beside them. -/
structure ExI (p : Nat) (bl : Nat → Prop) (us : List Value) (xv : Value) (xl : List Int) (w : World) : Prop where
  own : OwnI w p xv xl
  ap : ∀ k, xv.ownBlock = some k → ¬ bl k ∧ k ≠ p + 1 ∧ k ≠ p + 2 ∧ ∀ u ∈ us, u.ownBlock ≠ some k
theorem olds_in {w : World} {vo wo vo' wo' v u x : Value} {vs ws : List Value} {k : Nat} (ol : Olds w vo wo vo' wo' u) (hk : k < w.heap.size) (hx : x ∈ vo' :: wo' :: ((vs ++ [v]) ++ (ws ++ [u]))) (he : x.ownBlock = some k) : (∃ y ∈ vo :: wo :: (vs ++ ws), y.ownBlock = some k) ∨ v.ownBlock = some k := by
  have hcase : x = vo' ∨ x = wo' ∨ x ∈ vs ++ ws ∨ x = v ∨ x = u := by simp at hx ⊢; rcases hx with e | e | e | e | e | e <;> simp [e]
  rcases hcase with rfl | rfl | hx | rfl | rfl
  · exact Or.inl ⟨vo, by simp, (ol k hk).1 he⟩
  · exact Or.inl ⟨wo, by simp, (ol k hk).2.1 he⟩
  · exact Or.inl ⟨x, by simp at hx ⊢; rcases hx with e | e <;> simp [e], he⟩
  · exact Or.inr he
  · exact absurd he (ol k hk).2.2
section
variable {K : WindowKeeps} {w0 : World} {p : Nat} {s : Wn} {T : List Int} {m : Nat} {bl : Nat → Prop} {vo wo : Value} {vs ws : List Value} {ls : List (List Int)} {w : World}
theorem PlS.ok (h : PlS K w0 p s T m bl vo wo vs ws ls w) : s.Ok := K.ok h.at_
theorem PlS.turn {w' : World} {bl' : Nat → Prop} {s' : Wn} (h : PlS K w0 p s T m bl vo wo vs ws ls w) (ha' : K.At w' bl' p s') (hb : ∀ k, bl' k → bl k ∨ w.heap.size ≤ k) (ht : Touch bl w w') : PlS K w0 p s' T m bl' vo wo vs ws ls w' := by
  have hsz := h.sz
  refine ⟨ha', h.had.touch ht (fun hS => (h.ap _ hS).1 rfl), h.bk.touch ht (fun k hS => ⟨(h.ap k hS).2.1, (h.ap k hS).2.2⟩), fun j hj => ?_, h.aph, h.bel.trans (ht.below (fun k hk => Nat.le_trans h.lep (K.lt h.at_ k hk).1) h.bel.size), h.lep, Nat.lt_of_lt_of_le h.sz ht.size, h.bnd⟩
  rcases hb j hj with h1 | h1
  · exact h.ap j h1
  · exact ⟨by omega, by omega, fun u hu he => by have := (h.bk.lt hu he).2; omega⟩
theorem PlS.below {w' : World} (h : PlS K w0 p s T m bl vo wo vs ws ls w) (hb : Below w.heap.size w w') : PlS K w0 p s T m bl vo wo vs ws ls w' :=
  ⟨K.touch h.at_ (Touch.of_below (S := fun _ => False) hb) (fun _ _ x => x), h.had.below hb, h.bk.below hb, h.ap, h.aph, h.bel.trans (hb.mono h.bel.size), h.lep, Nat.lt_of_lt_of_le h.sz hb.size, h.bnd⟩
theorem ExI.turn {us : List Value} {xv : Value} {xl : List Int} {w' : World} {bl' : Nat → Prop} (h : ExI p bl us xv xl w) (hb : ∀ k, bl' k → bl k ∨ w.heap.size ≤ k) (ht : Touch bl w w') : ExI p bl' us xv xl w' := by
  refine ⟨own_touch h.own ht (fun k hk hS => (h.ap k hk).1 hS), fun k hk => ⟨fun hS => ?_, (h.ap k hk).2⟩⟩
  rcases hb k hS with h1 | h1
  · exact (h.ap k hk).1 h1
  · have := (World.ownsRow.lt h.own k hk).2
    omega
theorem ExI.below {us : List Value} {xv : Value} {xl : List Int} {w' : World} (h : ExI p bl us xv xl w) (hb : Below w.heap.size w w') : ExI p bl us xv xl w' := ⟨h.own.below hb, h.ap⟩
/-- A list that was just made. -/
theorem PlS.made {xv : Value} {xl : List Int} {w' : World} (h : PlS K w0 p s T m bl vo wo vs ws ls w) (ho : OwnI w' w.heap.size xv xl) : ExI p bl (vo :: wo :: (vs ++ ws)) xv xl w' := by
  have hsz := h.sz
  refine ⟨ho.base (by omega), fun k hk => ?_⟩
  have h1 := (World.ownsRow.lt ho k hk).1
  exact ⟨fun hS => by have := (K.lt h.at_ k hS).2; omega, by omega, by omega, fun u hu he => by have := (h.bk.lt hu he).2; omega⟩
theorem PlS.may (h : PlS K w0 p s T m bl vo wo vs ws ls w) (x : Int) (hn : s.n ≤ 1000000) (hx : I64W x) : Calls Try.prog 9 #[.pointer (some ⟨p, 0, none⟩), .int .i64 x] w fun e w' => e = .returned (.bool (s.may x)) ∧ ∃ bl', PlS K w0 p s T m bl' vo wo vs ws ls w' ∧ ∀ xv xl, ExI p bl (vo :: wo :: (vs ++ ws)) xv xl w → ExI p bl' (vo :: wo :: (vs ++ ws)) xv xl w' := by
  refine (K.may w bl p s x h.at_ hn hx).mono ?_
  rintro e w' ⟨rfl, bl', ha', hb, ht⟩
  exact ⟨rfl, bl', h.turn ha' hb ht, fun xv xl hx => hx.turn hb ht⟩
theorem PlS.take (h : PlS K w0 p s T m bl vo wo vs ws ls w) (x : Int) (hn : s.n ≤ 1000000) (hx : I64W x) : Calls Try.prog 10 #[.pointer (some ⟨p, 0, none⟩), .int .i64 x] w fun e w' => e = .returned (.bool (s.may x)) ∧ ∃ bl', PlS K w0 p (s.take x) T m bl' vo wo vs ws ls w' := by
  refine (K.take w bl p s x h.at_ hn hx).mono ?_
  rintro e w' ⟨rfl, bl', ha', hb, ht⟩
  exact ⟨rfl, bl', h.turn ha' hb ht⟩
theorem PlS.next (h : PlS K w0 p s T m bl vo wo vs ws ls w) (hn : s.n ≤ 1000000) : Calls Try.prog 13 #[.pointer (some ⟨p, 0, none⟩)] w fun e w' => e = .returned (.int .i64 (s.n : Int)) ∧ ∃ bl', PlS K w0 p s T m bl' vo wo vs ws ls w' ∧ ∀ xv xl, ExI p bl (vo :: wo :: (vs ++ ws)) xv xl w → ExI p bl' (vo :: wo :: (vs ++ ws)) xv xl w' := by
  refine (K.next w bl p s h.at_ hn).mono ?_
  rintro e w' ⟨rfl, bl', ha', hb, ht⟩
  exact ⟨rfl, bl', h.turn ha' hb ht, fun xv xl hx => hx.turn hb ht⟩
theorem PlS.ahead (h : PlS K w0 p s T m bl vo wo vs ws ls w) (hn : s.n ≤ 1000000) : Calls Try.prog 11 #[.pointer (some ⟨p, 0, none⟩)] w fun e w' => ∃ a c bl', e = .returned (.slice a s.ahead.length c) ∧ PlS K w0 p s T m bl' vo wo vs ws ls w' ∧ ExI p bl' (vo :: wo :: (vs ++ ws)) (.slice a s.ahead.length c) s.ahead w' ∧
    ∀ xv xl, ExI p bl (vo :: wo :: (vs ++ ws)) xv xl w → ExI p bl' (vo :: wo :: (vs ++ ws)) xv xl w' ∧ Apart2 (.slice a s.ahead.length c) xv := by
  refine (K.ahead w bl p s h.at_ hn).mono ?_
  rintro e w' ⟨v, bl', rfl, ho, ha', hb, ht⟩
  obtain ⟨a, c, rfl⟩ := ho.shape
  have hb1 := fun k hk => (hb k hk).1
  have hm := (h.made ho)
  exact ⟨a, c, bl', rfl, h.turn ha' hb1 ht, ⟨hm.own, fun k hk => ⟨fun hS => (hb k hS).2 hk, (hm.ap k hk).2⟩⟩, fun xv xl hx => ⟨hx.turn hb1 ht, fun k h1 h2 => by
    have a1 := (World.ownsRow.lt ho k h1).1
    have a2 := (World.ownsRow.lt hx.own k h2).2
    omega⟩⟩
theorem PlS.store (h : PlS K w0 p s T m bl vo wo vs ws ls w) (hm : m < 1000000) (x : Int) (hx : (Lit.int .i64 x).wf = true) : ∃ w', (Instr.mapUpdate 33 (.map (some (p + 1))) (.int .i64 x) (.bool true)).run Try.prog w = .ok () w' ∧ PlS K w0 p s (x :: T) (m + 1) bl vo wo vs ws ls w' := by
  obtain ⟨w', hrun, hh, hg⟩ := h.had.store hm x hx
  have ht : Touch (fun k => k = p + 1) w w' := (Touch.refl _ _).grown hg (fun k hk => Or.inl (Option.some.inj hk).symm)
  have hlep := h.lep
  refine ⟨w', hrun, K.touch h.at_ ht (fun k hk e => (h.ap k hk).1 e), hh, h.bk.touch ht (fun k e => by subst e; exact ⟨by omega, h.aph⟩), h.ap, h.aph, h.bel.trans (ht.below (fun k e => by omega) h.bel.size), h.lep, Nat.lt_of_lt_of_le h.sz ht.size, h.bnd⟩
theorem PlS.ints (h : PlS K w0 p s T m bl vo wo vs ws ls w) {v : Value} {l : List Int} (hv : ExI p bl (vo :: wo :: (vs ++ ws)) v l w) (hN : vs.length < 250) (hl : l.length ≤ 1000000) :
    Calls Try.prog 12 #[.pointer (some ⟨p + 2, 0, none⟩), v] w fun e w' => e = .returned (.tuple #[]) ∧ ∃ vo' wo' u, PlS K w0 p s T m bl vo' wo' (vs ++ [v]) (ws ++ [u]) (ls ++ [l]) w' ∧
      ∀ xv xl, ExI p bl (vo :: wo :: (vs ++ ws)) xv xl w → Apart2 v xv → ExI p bl (vo' :: wo' :: ((vs ++ [v]) ++ (ws ++ [u]))) xv xl w' := by
  have hsz := h.sz
  refine (book_intsO p (p + 2) vo wo vs ws ls v l w h.bk hv.own (fun k hk => ⟨(World.ownsRow.lt hv.own k hk).2, (hv.ap k hk).2.2.1, (hv.ap k hk).2.2.2⟩) hN hl (by omega)).mono ?_
  rintro e w' ⟨rfl, ⟨vo', wo', u, hB, ol⟩, t⟩
  have hbS : ∀ k, (k = p + 2 ∨ vo.ownBlock = some k ∨ wo.ownBlock = some k) → p ≤ k := fun k hk => by
    rcases hk with rfl | hk | hk
    · omega
    · exact (h.bk.lt (u := vo) (by simp) hk).1
    · exact (h.bk.lt (u := wo) (by simp) hk).1
  refine ⟨rfl, vo', wo', u, ⟨?_, ?_, hB, ?_, ?_, h.bel.trans (t.below (fun k hk => Nat.le_trans h.lep (hbS k hk)) h.bel.size), h.lep, Nat.lt_of_lt_of_le h.sz t.size, ?_⟩, ?_⟩
  · refine K.touch h.at_ t (fun k hk hS => ?_)
    obtain ⟨_, a2, a3⟩ := h.ap k hk
    rcases hS with e | e | e
    · exact a2 e
    · exact a3 vo (by simp) e
    · exact a3 wo (by simp) e
  · refine h.had.touch t (fun hS => ?_)
    rcases hS with e | e | e
    · omega
    · exact h.aph vo (by simp) e
    · exact h.aph wo (by simp) e
  · intro j hj
    obtain ⟨a1, a2, a3⟩ := h.ap j hj
    refine ⟨a1, a2, fun x hx he => ?_⟩
    rcases olds_in ol (K.lt h.at_ j hj).2 hx he with ⟨y, hy, e⟩ | e
    · exact a3 y hy e
    · exact (hv.ap j e).1 hj
  · intro x hx he
    rcases olds_in ol (by omega) hx he with ⟨y, hy, e⟩ | e
    · exact h.aph y hy e
    · exact (hv.ap _ e).2.1 rfl
  · intro l' hl'
    rcases List.mem_append.1 hl' with h1 | h1
    · exact h.bnd l' h1
    · rw [List.mem_singleton] at h1; rw [h1]; exact hl
  · intro xv xl hx hap
    refine ⟨own_touch hx.own t (fun k hk hS => ?_), fun k hk => ?_⟩
    · obtain ⟨_, _, a2, a3⟩ := hx.ap k hk
      rcases hS with e | e | e
      · exact a2 e
      · exact a3 vo (by simp) e
      · exact a3 wo (by simp) e
    · obtain ⟨a0, a1, a2, a3⟩ := hx.ap k hk
      refine ⟨a0, a1, a2, fun x hxm he => ?_⟩
      rcases olds_in ol (World.ownsRow.lt hx.own k hk).2 hxm he with ⟨y, hy, e⟩ | e
      · exact a3 y hy e
      · exact hap k e hk
theorem PlS.apart (h : PlS K w0 p s T m bl vo wo vs ws ls w) (hN : vs.length ≤ 1000) : Calls Try.prog 15 #[.pointer (some ⟨p + 2, 0, none⟩)] w fun e w' => e = .returned (.bool true) ∧ Below w0.heap.size w0 w' := by
  have hsz := h.sz
  refine (book_apartI p (p + 2) vo wo vs ws ls w h.bk hN (fun i l hi => h.bnd l (List.mem_of_getElem? hi)) (by omega)).mono ?_
  rintro e w' ⟨rfl, hb⟩
  exact ⟨rfl, h.bel.trans (hb.mono h.lep)⟩
theorem PlS.same (h : PlS K w0 p s T m bl vo wo vs ws ls w) {v xv : Value} {l : List Int} {i : Nat} (hv : vs[i]? = some v) (hl : ls[i]? = some l) (hx : ExI p bl (vo :: wo :: (vs ++ ws)) xv l w) : Calls Try.prog 14 #[v, xv] w fun e w' => e = .returned (.bool true) ∧ Below w.heap.size w w' := by
  have hb := h.bnd l (List.mem_of_getElem? hl)
  exact book_sameInts l v xv w (own_seen (h.bk.eachV i v l hv hl)) (own_seen hx.own) (by omega)
end
/-- The beginning. -/
theorem pls_new (K : WindowKeeps) {w0 u : World} (hb : Below w0.heap.size w0 u) : PlS K w0 u.heap.size Wn.zero [] 0 (fun k => k = u.heap.size) (.slice none 0 0) (.slice none 0 0) [] [] [] (((u.alloc (.cells Try.zeroCells32 32)).alloc (.map #[] 0)).alloc (.cells (rowI (.slice none 0 0) (.slice none 0 0)).toArray 43)) := by
  have e1 : (u.alloc (.cells Try.zeroCells32 32)).heap.size = u.heap.size + 1 := by simp
  have e2 : ((u.alloc (.cells Try.zeroCells32 32)).alloc (.map #[] 0)).heap.size = u.heap.size + 2 := by simp
  have b1 : ∀ (v : World) o, Below v.heap.size v (v.alloc o) := fun v o => (Below.refl _ _).alloc (Nat.le_refl _) _
  have hA := K.new u
  have hH := had_new (u.alloc (.cells Try.zeroCells32 32))
  rw [e1] at hH
  have hB : BookI (((u.alloc (.cells Try.zeroCells32 32)).alloc (.map #[] 0)).alloc (.cells (rowI (.slice none 0 0) (.slice none 0 0)).toArray 43)) u.heap.size (u.heap.size + 2) (.slice none 0 0) (.slice none 0 0) [] [] [] := by
    refine ⟨?_, by omega, World.ownsRow_nil _ _ _ _, World.ownsRow_nil _ _ _ _, rfl, rfl, fun i v l h => by simp at h, fun i v l h => by simp at h, by simp [Apart2, Value.ownBlock], by simp [Value.ownBlock]⟩
    have := RowIs.new ((u.alloc (.cells Try.zeroCells32 32)).alloc (.map #[] 0)) 43 (rowI (.slice none 0 0) (.slice none 0 0))
    rw [e2] at this
    exact this
  refine ⟨K.touch (K.touch hA (Touch.of_below (S := fun _ => False) (b1 _ _)) (fun _ _ x => x)) (Touch.of_below (S := fun _ => False) (b1 _ _)) (fun _ _ x => x), hH.below (b1 _ _), hB, fun j hj => ?_, by simp [Value.ownBlock], ((hb.alloc hb.size _).alloc (by simp; have := hb.size; omega) _).alloc (by simp; have := hb.size; omega) _, hb.size, by simp, by simp⟩
  subst hj
  exact ⟨by omega, by omega, by simp [Value.ownBlock]⟩

end Go.Proofs.Ytmpmhepaonifpaa
