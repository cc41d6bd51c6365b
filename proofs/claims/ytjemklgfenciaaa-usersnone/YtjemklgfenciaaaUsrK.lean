/-
  Package users keeps its contract.
-/
import Derived.Test.YtjemklgfenciaaaUsrK3
import Derived.Test.YtjemklgfenciaaaUsrK5
namespace Go.Proofs.Ytjemklgfenciaaa
open Go.RowKit
set_option linter.unusedVariables false
set_option maxRecDepth 100000
set_option linter.unusedSimpArgs false

def AtU (w : World) (bl : Nat → Prop) (p : Nat) (B : List Usr) : Prop := ∃ m nn D blk, StU w p m nn D blk B ∧ ∀ k, bl k ↔ blocksU p m blk B k
theorem AtU.lt {w : World} {bl : Nat → Prop} {p : Nat} {B : List Usr} (h : AtU w bl p B) (k : Nat) (hk : bl k) : k < w.heap.size := by
  obtain ⟨m, nn, D, blk, hs, hb⟩ := h
  exact hs.lt k ((hb k).1 hk)
theorem AtU.keep {S : Nat → Prop} {w w' : World} {bl : Nat → Prop} {p : Nat} {B : List Usr} (h : AtU w bl p B) (ht : Touch S w w') (hn : ∀ k, bl k → ¬ S k) : AtU w' bl p B := by
  obtain ⟨m, nn, D, blk, hs, hb⟩ := h
  exact ⟨m, nn, D, blk, hs.keep ht (fun k hk => hn k ((hb k).2 hk)), hb⟩
theorem AtU.same {w w' : World} {bl : Nat → Prop} {p : Nat} {B : List Usr} (h : AtU w bl p B) (hb : Below w.heap.size w w') : ∃ bl', AtU w' bl' p B ∧ (∀ k, bl' k → bl k ∨ w.heap.size ≤ k) ∧ Touch bl w w' :=
  ⟨bl, h.keep (Touch.of_below (S := fun _ => False) hb) (fun _ _ x => x), fun k hk => Or.inl hk, Touch.of_below hb⟩
theorem AtU.turned {w w' : World} {bl : Nat → Prop} {p m nn : Nat} {D : DataW Unit} {blk : Nat → Nat} {B : List Usr} {n : ByteArray} {u : Usr} (hb : ∀ k, bl k ↔ blocksU p m blk B k) (hs : StU w' p m nn D blk (putU B n u)) (ht : Touch (blocksU p m blk B) w w') :
    ∃ bl', AtU w' bl' p (putU B n u) ∧ (∀ k, bl' k → bl k ∨ w.heap.size ≤ k) ∧ Touch bl w w' := by
  have hl : (putU B n u).length = B.length := by unfold putU; rw [List.length_set]
  refine ⟨bl, ⟨m, nn, D, blk, hs, fun k => ?_⟩, fun k hk => Or.inl hk, ht.mono (fun k _ hk => (hb k).2 hk)⟩
  rw [hb k]
  unfold blocksU
  rw [hl]

def usersKeeps : UsersKeeps where
  At := AtU
  ok := fun ⟨_, _, _, _, hs, _⟩ => hs.ok
  lt := AtU.lt
  keep := AtU.keep
  right := right_U
  newOk := fun w oa n c X hx hn hz hok => by
    refine (new_U w oa n c X hx hn hz).mono ?_
    rintro e w' (⟨_, p, m, rfl, hN⟩ | ⟨hno, _⟩)
    · obtain ⟨nn, D, blk, _, hs, hb⟩ := hN.st
      exact ⟨blocksU p m blk (freshU (listU X n)), p, rfl, ⟨m, nn, D, blk, hs, fun _ => Iff.rfl⟩, hb, hN.bel⟩
    · rw [hok] at hno; cases hno
  newNo := fun w oa n c X hx hn hz hno => by
    refine (new_U w oa n c X hx hn hz).mono ?_
    rintro e w' (⟨hok, _⟩ | ⟨_, rfl, hb⟩)
    · rw [hno] at hok; cases hok
    · exact ⟨rfl, hb⟩
  secretYes := fun w bl p B n h hn hh => by
    obtain ⟨m, nn, D, blk, hs, hb⟩ := h
    refine (secret_yesU hs hn hh).mono ?_
    rintro e w' ⟨rfl, hbel⟩
    exact ⟨rfl, AtU.same ⟨m, nn, D, blk, hs, hb⟩ hbel⟩
  secretNo := fun w bl p B n h hn hh => by
    obtain ⟨m, nn, D, blk, hs, hb⟩ := h
    refine (secret_noU hs hn hh).mono ?_
    rintro e w' ⟨rfl, rfl⟩
    exact ⟨⟨_, rfl⟩, AtU.same ⟨m, nn, D, blk, hs, hb⟩ (Below.refl _ _)⟩
  fail := fun w bl p B n now h hn hw => by
    obtain ⟨m, nn, D, blk, hs, hb⟩ := h
    by_cases hh : hasU B n = true
    · refine (fail_yesU hs hn hh now hw).mono ?_
      rintro e w' ⟨rfl, hs', ht⟩
      rw [show failT B n = lastU (atU B n) by unfold failT; rw [hh]; rfl, show failB B n now = putU B n (failU (atU B n) now) by unfold failB; rw [if_pos hh]]
      exact ⟨rfl, AtU.turned hb hs' ht⟩
    · have hh2 : hasU B n = false := by simpa using hh
      refine (fail_noU hs hn hh2 now).mono ?_
      rintro e w' ⟨rfl, rfl⟩
      rw [show failT B n = false by unfold failT; rw [hh2]; rfl, show failB B n now = B by unfold failB; rw [if_neg hh]]
      exact ⟨rfl, AtU.same ⟨m, nn, D, blk, hs, hb⟩ (Below.refl _ _)⟩
  good := fun w bl p B n h hn => by
    obtain ⟨m, nn, D, blk, hs, hb⟩ := h
    by_cases hh : hasU B n = true
    · refine (good_yesU hs hn hh).mono ?_
      rintro e w' ⟨rfl, hs', ht⟩
      rw [show goodB B n = putU B n (goodU (atU B n)) by unfold goodB; rw [if_pos hh]]
      exact ⟨rfl, AtU.turned hb hs' ht⟩
    · have hh2 : hasU B n = false := by simpa using hh
      refine (good_noU hs hn hh2).mono ?_
      rintro e w' ⟨rfl, rfl⟩
      rw [show goodB B n = B by unfold goodB; rw [if_neg hh]]
      exact ⟨rfl, AtU.same ⟨m, nn, D, blk, hs, hb⟩ (Below.refl _ _)⟩
  locked := fun w bl p B n now h hn hw => by
    obtain ⟨m, nn, D, blk, hs, hb⟩ := h
    by_cases hh : hasU B n = true
    · refine (locked_yesU hs hn hh now).mono ?_
      rintro e w' ⟨rfl, rfl⟩
      rw [show lockedT B n now = ((atU B n).locked && decide (now ≤ (atU B n).till)) by unfold lockedT; rw [hh]; rfl]
      exact ⟨rfl, AtU.same ⟨m, nn, D, blk, hs, hb⟩ (Below.refl _ _)⟩
    · have hh2 : hasU B n = false := by simpa using hh
      refine (locked_noU hs hn hh2 now).mono ?_
      rintro e w' ⟨rfl, rfl⟩
      rw [show lockedT B n now = false by unfold lockedT; rw [hh2]; rfl]
      exact ⟨rfl, AtU.same ⟨m, nn, D, blk, hs, hb⟩ (Below.refl _ _)⟩
  fails := fun w bl p B n h hn => by
    obtain ⟨m, nn, D, blk, hs, hb⟩ := h
    by_cases hh : hasU B n = true
    · refine (fails_yesU hs hn hh).mono ?_
      rintro e w' ⟨rfl, rfl⟩
      rw [show failsN B n = (atU B n).fails by unfold failsN; rw [if_pos hh]]
      exact ⟨rfl, AtU.same ⟨m, nn, D, blk, hs, hb⟩ (Below.refl _ _)⟩
    · have hh2 : hasU B n = false := by simpa using hh
      refine (fails_noU hs hn hh2).mono ?_
      rintro e w' ⟨rfl, rfl⟩
      rw [show failsN B n = 0 by unfold failsN; rw [if_neg hh]]
      exact ⟨rfl, AtU.same ⟨m, nn, D, blk, hs, hb⟩ (Below.refl _ _)⟩
  names := fun w bl p B h => by
    obtain ⟨m, nn, D, blk, hs, hb⟩ := h
    refine (names_U hs).mono ?_
    rintro e w' ⟨v, L, rfl, hN, hO, hbel⟩
    obtain ⟨bl', hA, h1, h2⟩ := AtU.same ⟨m, nn, D, blk, hs, hb⟩ hbel
    refine ⟨v, L, bl, rfl, hN, hO, ?_, fun k hk => ⟨Or.inl hk, fun e => ?_⟩, h2⟩
    · exact AtU.keep ⟨m, nn, D, blk, hs, hb⟩ (Touch.of_below (S := fun _ => False) hbel) (fun _ _ x => x)
    · have h3 := (World.ownsRow.lt hO k e).1
      have h4 := hs.lt k ((hb k).1 hk)
      omega
  secretNil := fun w n _ => secretNil_U w n
  failNil := fun w n now _ _ => failNil_U w n now
  goodNil := fun w n _ => goodNil_U w n
  lockedNil := fun w n now _ _ => lockedNil_U w n now
  failsNil := fun w n _ => failsNil_U w n
  namesNil := namesNil_U

end Go.Proofs.Ytjemklgfenciaaa
