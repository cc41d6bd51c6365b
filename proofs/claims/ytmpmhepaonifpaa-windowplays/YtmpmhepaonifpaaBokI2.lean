/-
  The book's lists of whole numbers: copyInts, and what is kept.
-/
import Derived.Test.YtmpmhepaonifpaaBokI1
import Derived.Deep.Upon
namespace Go.Proofs.Ytmpmhepaonifpaa
open Go.RowKit
set_option linter.unusedVariables false
set_option maxRecDepth 100000
set_option linter.unusedSimpArgs false

theorem seenI_news {w : World} {g n cap : Nat} {l : List Int} (h : Seen w (.slice (some ⟨g, 0, none⟩) n cap) (cellsI l)) : ∀ j u, (cellsI l)[j]? = some u → w.cell? ((⟨g, 0, none⟩ : Addr).add j) = some u := by
  intro j u hj
  rcases h with ⟨h, _⟩ | ⟨g', cap', hv, hc⟩
  · cases h
  · simp only [Value.slice.injEq, Option.some.injEq, Addr.mk.injEq, and_true] at hv
    rw [show (⟨g, 0, none⟩ : Addr).add j = ⟨g', j, none⟩ from by simp [Addr.add, hv.1]; exact fun h => h.symm]
    exact hc j u hj

set_option maxHeartbeats 1000000 in
theorem book_copyInts (l : List Int) (v : Value) (w : World) (h : Seen w v (cellsI l)) (hl : l.length ≤ 1000000000) :
    Calls Try.prog 19 #[v] w fun e w' => (∃ v', OwnI w' w.heap.size v' l ∧ e = .returned v') ∧ Below w.heap.size w w' := by
  obtain ⟨i0, hi0, hz0, hz1, hz2⟩ := info_parts infoI
  have hnil : w.ownsRow w.heap.size 3 1 (.slice none 0 0) 0 [] := World.ownsRow_nil w _ _ _
  rcases h with ⟨rfl, h0⟩ | ⟨g, cap, rfl, hc⟩
  · have : l = [] := by cases l; rfl; simp [cellsI] at h0
    subst this
    have hrun := run_append_nothing (P := Try.prog) w 22 22 22 3 i0 Try.underlying22 hi0 none 0 0 (Nat.le_refl _) (.slice none 0 0) (Src.ofNil w Try.underlying22 0)
    go_enter Try.func19, Try.ntmps19
    go_wp2
    go_ret
    exact ⟨⟨_, hnil, rfl⟩, Below.refl _ _⟩
  · have hn := seenI_news (Or.inr ⟨g, cap, rfl, hc⟩)
    rw [cellsI_len]
    have hcl := cellsI_len l
    generalize hk : l.length = n at *
    go_enter Try.func19, Try.ntmps19
    go_wp2_with (first | (at_builtin; refine wpList_append_two _ rfl (.const (.slice none 0 0)) (.tmp 3) 22 rfl w.heap.size 3 i0 (.int .i64 0) 1 8 Try.underlying22 hi0 hz0 hz1 hz2 rfl (by decide) (.slice none 0 0) 0 [] rfl hnil ⟨g, 0, none⟩ n cap (cellsI l) rfl (by omega) hn (cellsI_one _) (by unfold maxLen; omega) (by omega) (Nat.le_refl _) ?_))
    intro v' w2 hown2 hgrow2 hat
    obtain ⟨ao, c', rfl⟩ : ∃ ao c', v' = .slice ao n c' := by
      have := (own_seen hown2).form
      rw [hcl] at this
      exact this
    go_wp2
    go_ret
    exact ⟨⟨_, by unfold OwnI; rw [hk]; exact hown2, rfl⟩, (Below.refl _ _).grown hgrow2 (Nat.le_refl _) (fun j hj => by cases hj)⟩

/-- Lists that are kept, each in a row of its own. -/
structure KeptI (w : World) (base : Nat) (vs : List Value) (ls : List (List Int)) : Prop where
  len : vs.length = ls.length
  each : ∀ (i : Nat) (v : Value) (l : List Int), vs[i]? = some v → ls[i]? = some l → OwnI w base v l
  apart : Parted vs
theorem KeptI.touch {S : Nat → Prop} {w w' : World} {base : Nat} {vs : List Value} {ls : List (List Int)} (h : KeptI w base vs ls) (ht : Touch S w w') (hn : ∀ k, Blocks vs k → ¬ S k) : KeptI w' base vs ls :=
  ⟨h.len, fun i v l hv hl => own_touch (h.each i v l hv hl) ht (fun k hk => hn k ⟨v, List.mem_of_getElem? hv, hk⟩), h.apart⟩
theorem KeptI.below {w w' : World} {base : Nat} {vs : List Value} {ls : List (List Int)} (h : KeptI w base vs ls) (hb : Below w.heap.size w w') : KeptI w' base vs ls :=
  h.touch (Touch.of_below (S := fun _ => False) hb) (fun _ _ h => h)
theorem KeptI.lt {w : World} {base : Nat} {vs : List Value} {ls : List (List Int)} (h : KeptI w base vs ls) {k : Nat} (hk : Blocks vs k) : base ≤ k ∧ k < w.heap.size := by
  obtain ⟨v, hv, e⟩ := hk
  obtain ⟨i, hi⟩ := List.getElem?_of_mem hv
  have hlt : i < ls.length := by rw [← h.len]; exact (List.getElem?_eq_some_iff.1 hi).1
  exact World.ownsRow.lt (h.each i v ls[i] hi (List.getElem?_eq_getElem hlt)) k e
theorem KeptI.seen {w : World} {base : Nat} {vs : List Value} {ls : List (List Int)} (h : KeptI w base vs ls) (i : Nat) (v : Value) (l : List Int) (hv : vs[i]? = some v) (hl : ls[i]? = some l) : Seen w v (cellsI l) := own_seen (h.each i v l hv hl)
/-- One of them is told anew. -/
theorem KeptI.turn {w w' : World} {base : Nat} {vs : List Value} {ls : List (List Int)} (h : KeptI w base vs ls) (i : Nat) (v : Value) (l' : List Int) (hv : vs[i]? = some v) (ht : Touch (fun k => v.ownBlock = some k) w w') (ho : OwnI w' base v l') : KeptI w' base vs (ls.set i l') := by
  refine ⟨by rw [List.length_set]; exact h.len, fun j u l hu hl => ?_, h.apart⟩
  have hlt : i < ls.length := by rw [← h.len]; exact (List.getElem?_eq_some_iff.1 hv).1
  by_cases hij : i = j
  · subst hij
    rw [List.getElem?_set_self hlt] at hl
    rw [hv] at hu
    obtain rfl := Option.some.inj hu
    obtain rfl := Option.some.inj hl
    exact ho
  · rw [List.getElem?_set_ne hij] at hl
    exact own_touch (h.each j u l hu hl) ht (fun k hk hk' => h.apart i j v u hij hv hu k hk' hk)
/-- The first i of them marked. -/
def markTo (ls : List (List Int)) (i : Nat) : List (List Int) := ls.mapIdx (fun j l => if j < i then marksI j 0 l.length else l)
theorem markTo_len (ls : List (List Int)) (i : Nat) : (markTo ls i).length = ls.length := by simp [markTo]
theorem markTo_zero (ls : List (List Int)) : markTo ls 0 = ls := by
  apply List.ext_getElem?
  intro j
  simp [markTo, List.getElem?_mapIdx]
theorem markTo_at (ls : List (List Int)) (i j : Nat) (l : List Int) (h : ls[j]? = some l) : (markTo ls i)[j]? = some (if j < i then marksI j 0 l.length else l) := by
  simp [markTo, List.getElem?_mapIdx, h]
theorem markTo_succ (ls : List (List Int)) (i : Nat) (l : List Int) (h : ls[i]? = some l) : (markTo ls i).set i (marksI i 0 l.length) = markTo ls (i + 1) := by
  have hlt : i < ls.length := (List.getElem?_eq_some_iff.1 h).1
  apply List.ext_getElem?
  intro j
  by_cases hij : i = j
  · subst hij
    rw [List.getElem?_set_self (by rw [markTo_len]; exact hlt), markTo_at ls (i + 1) i l h, if_pos (by omega)]
  · rw [List.getElem?_set_ne hij]
    cases hj : ls[j]? with
    | none => simp [markTo, List.getElem?_mapIdx, hj]
    | some m =>
      rw [markTo_at ls i j m hj, markTo_at ls (i + 1) j m hj]
      by_cases h1 : j < i
      · rw [if_pos h1, if_pos (by omega)]
      · rw [if_neg h1, if_neg (by omega)]

end Go.Proofs.Ytmpmhepaonifpaa
