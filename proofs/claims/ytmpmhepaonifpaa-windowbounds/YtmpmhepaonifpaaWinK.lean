/-
  What package window's methods tell, at this program: the contracts that the laws ask for.
-/
import Derived.Test.YtmpmhepaonifpaaWinK3
import Derived.Test.YtmpmhepaonifpaaWinK4
namespace Go.Proofs.Ytmpmhepaonifpaa
open Go.RowKit
set_option linter.unusedVariables false
set_option maxRecDepth 100000
set_option linter.unusedSimpArgs false

/-- A Window of one block. -/
def WinOne (w : World) (bl : Nat → Prop) (p : Nat) (s : Wn) : Prop := (∀ k, bl k ↔ k = p) ∧ s.Ok ∧ ∃ B, Places s.n s.T B ∧ RowIs w p 32 (winRow s.n B)
theorem win_cells : Try.zeroCells32 = (winRow 0 (List.replicate 64 false)).toArray := by kernel_rfl
theorem win_touch {bl : Nat → Prop} {p : Nat} {w w' : World} (hbl : ∀ k, bl k ↔ k = p) (h : Touch (fun k => k = p) w w') : Touch bl w w' := h.mono (fun k _ hk => (hbl k).2 hk)
theorem win_none {S : Nat → Prop} {w w' : World} (h : Touch (fun _ => False) w w') : Touch S w w' := h.mono (fun _ _ hk => hk.elim)

def winKeeps : WindowKeeps where
  At := WinOne
  ok h := h.2.1
  lt := by
    rintro w bl p s ⟨hbl, _, B, _, hr⟩ k hk
    have := (hbl k).1 hk
    subst this
    exact ⟨Nat.le_refl _, hr.lt⟩
  touch := by
    rintro S w w' bl p s ⟨hbl, hs, B, hB, hr⟩ ht hS
    refine ⟨hbl, hs, B, hB, ?_⟩
    have hl := hr.lt
    unfold RowIs at *
    rw [ht.block p hl (hS p ((hbl p).2 rfl))]
    exact hr
  new := by
    intro w
    refine ⟨fun k => Iff.rfl, Wn.ok_zero, _, places_zero, ?_⟩
    rw [win_cells]
    exact RowIs.new w _ _
  take := by
    rintro w bl p s x ⟨hbl, hs, B, hB, hr⟩ hn hx
    refine (win_take w p s B x hs hr hB hn hx).mono ?_
    rintro e w' ⟨rfl, ⟨B', hB', hr'⟩, ht⟩
    exact ⟨rfl, bl, ⟨hbl, hs.take x, B', hB', hr'⟩, fun k hk => Or.inl hk, win_touch hbl ht⟩
  may := by
    rintro w bl p s x ⟨hbl, hs, B, hB, hr⟩ hn hx
    refine (win_may w p s B x hr hB hn hx).mono ?_
    rintro e w' ⟨rfl, m, rfl⟩
    exact ⟨rfl, bl, ⟨hbl, hs, B, hB, row_drewNK hr m⟩, fun k hk => Or.inl hk, touch_drewNW _ _ _⟩
  nextQ := by
    rintro w bl p s ⟨hbl, hs, B, hB, hr⟩ hn
    refine (win_next w p s.n B hr).mono ?_
    rintro e w' ⟨rfl, rfl⟩
    exact ⟨rfl, 0, rfl⟩
  ahead := by
    rintro w bl p s ⟨hbl, hs, B, hB, hr⟩ hn
    refine (win_ahead w p s.n s.T B hr hB hn).mono ?_
    rintro e w' ⟨v, rfl, hown, ht⟩
    refine ⟨v, bl, rfl, hown, ⟨hbl, hs, B, hB, row_touchW hr ht⟩, fun k hk => ⟨Or.inl hk, fun hv => ?_⟩, win_none ht⟩
    have h1 := (World.ownsRow.lt hown k hv).1
    have h2 := (hbl k).1 hk
    have h3 := hr.lt
    omega
  mayNil := win_mayNil
  takeNil := win_takeNil
  nextNil := win_nextNil
  aheadNil := win_aheadNil

end Go.Proofs.Ytmpmhepaonifpaa
