/-
  Parts of this proof, one behind the other: Usr19, Usr22.
-/
import Derived.Test.YtjemklgfenciaaaGreatBun29
import Derived.Test.YtjemklgfenciaaaGreatBun25

/-
  A book of texts, new, among things side by side.
-/
namespace Go.Proofs.YtjemklgfenciaaaGreat
open Go.RowKit
set_option linter.unusedVariables false
set_option maxRecDepth 100000

theorem Here.newBookU {w0 w : World} {l : List Thing} (h : Here w0 l w) : Here w0 (BookTh w0.heap.size w.heap.size 0 none :: l) (w.alloc (.cells (rowT (.slice none 0 0) (.slice none 0 0)).toArray 45)) := by
  have hB : BookT (w.alloc (.cells (rowT (.slice none 0 0) (.slice none 0 0)).toArray 45)) w0.heap.size w.heap.size (.slice none 0 0) (.slice none 0 0) [] [] [] :=
    ⟨RowIs.new w _ _, h.sz, World.ownsRow_nil _ _ _ _, World.ownsRow_nil _ _ _ _, rfl, rfl, fun i v l h => by simp at h, fun i v l h => by simp at h, by simp [Apart2, Value.ownBlock], by simp [Value.ownBlock]⟩
  refine h.new (bn := fun k => k = w.heap.size) ⟨_, _, _, _, _, hB, rfl, fun i m h => by simp at h, (fun v L h => by cases h), fun k => ?_⟩ (fun k hk => by omega) ((Below.refl _ _).alloc (Nat.le_refl _) _)
  simp [Value.ownBlock]

/-- Texts of a call's own, one by one. -/
theorem own_textCells {w : World} {base : Nat} {a : Option Addr} {n c : Nat} {L : List ByteArray} (h : OwnT w base (.slice a n c) L) (h0 : 0 < L.length) :
    ∃ g, a = some ⟨g, 0, none⟩ ∧ ∀ j, j < L.length → w.cell? ⟨g, j, none⟩ = some (.string (L.getD j ⟨#[]⟩)) := by
  rcases h.2 with ⟨e, e0⟩ | ⟨g, cap, cur, e, hb, hg, hnc, hcm, hcs, htake⟩
  · omega
  · injection e with e1 e2 e3
    refine ⟨g, e1, fun j hj => ?_⟩
    subst e1 e2 e3
    have := World.ownsRow.cells h (g := g) rfl j (.string (L.getD j ⟨#[]⟩)) (by
      unfold cellsT
      rw [List.getElem?_map, List.getElem?_eq_getElem hj, List.getD_eq_getElem?_getD, List.getElem?_eq_getElem hj]
      rfl)
    rwa [show (⟨g, 0, none⟩ : Addr).add j = ⟨g, j, none⟩ from by simp [Addr.add]; exact fun h => h.symm] at this

end Go.Proofs.YtjemklgfenciaaaGreat

/-
  The law on every play: a variable of the call's own beside the other things, and what users and the reference's book do to them.
-/
namespace Go.Proofs.YtjemklgfenciaaaGreat
open Go.RowKit
set_option linter.unusedVariables false
set_option maxRecDepth 100000
set_option linter.unusedSimpArgs false

def RowThU (g : Nat) (t : TypeId) (cs : List Value) : Thing where
  At w bl := RowIs w g t cs ∧ ∀ k, bl k ↔ k = g
  lt h k hk := by have := (h.2 k).1 hk; subst this; exact h.1.lt
  keep := by
    rintro S w w' bl ⟨h, hb⟩ ht hn
    refine ⟨?_, hb⟩
    show w'.heap[g]? = _
    rw [ht.block g h.lt (hn g ((hb g).2 rfl))]
    exact h
theorem Here.rowU {w0 w : World} {l : List Thing} {g : Nat} {t : TypeId} {cs : List Value} (h : Here w0 l w) (i : Nat) (hi : l[i]? = some (RowThU g t cs)) : RowIs w g t cs := by
  obtain ⟨bl, hP, _, _⟩ := h.focus i hi
  exact hP.1
theorem Here.newRowU {w0 w : World} {l : List Thing} (h : Here w0 l w) (t : TypeId) (cs : List Value) : Here w0 (RowThU w.heap.size t cs :: l) (w.alloc (.cells cs.toArray t)) :=
  h.new (bn := fun k => k = w.heap.size) ⟨RowIs.new w t cs, fun k => Iff.rfl⟩ (fun k hk => by omega) ((Below.refl _ _).alloc (Nat.le_refl _) _)
/-- One of them is let go. -/
theorem Here.tailU {w0 w : World} {N : Thing} {l : List Thing} (h : Here w0 (N :: l) w) : Here w0 l w := by
  obtain ⟨⟨bl, ⟨b1, b2, _, h2, _, hb⟩, hB⟩, hbel⟩ := h
  exact ⟨⟨b2, h2, fun k hk => hB k ((hb k).2 (Or.inr hk))⟩, hbel⟩
section
variable (K : UsersKeeps) {w0 : World} {V T0 B0 : Thing} {p r gF gU gK : Nat} {vL : Value}
/-- The variable, the names that were told, the book of texts, the reference's book, the users. -/
abbrev PlayL (V T0 B0 : Thing) (r : Nat) (vL : Value) (gF gU gK p : Nat) (B1 B2 : List Usr) : List Thing := [V, T0, B0, RefBkTh r vL gF gU gK B1, UsersTh K p B2]
theorem play_failU {B1 B2 : List Usr} {w1 : World} {nm : ByteArray} {now : Int} (h : Here w0 (PlayL K V T0 B0 r vL gF gU gK p B1 B2) w1) (hn : nm.size ≤ maxLen) (hw : I64U now) :
    Calls Tryz.prog 15 #[.pointer (some ⟨p, 0, none⟩), .string nm, .int .i64 now] w1 fun e w' => e = .returned (.bool (failT B2 nm)) ∧ Here w0 (PlayL K V T0 B0 r vL gF gU gK p B1 (failB B2 nm now)) w' := h.userFail 4 nm now rfl hn hw
theorem play_failR {B1 B2 : List Usr} {w1 : World} {nm : ByteArray} {now : Int} (h : Here w0 (PlayL K V T0 B0 r vL gF gU gK p B1 B2) w1) (hok : UsersOk B1) (hw : I64U now) :
    Calls Tryz.prog 16 #[.pointer (some ⟨r, 0, none⟩), .string nm, .int .i64 now] w1 fun e w' => e = .returned (.bool (failT B1 nm)) ∧ Here w0 (PlayL K V T0 B0 r vL gF gU gK p (failB B1 nm now) B2) w' := h.refFail 3 nm now rfl hok hw
theorem play_goodU {B1 B2 : List Usr} {w1 : World} {nm : ByteArray} (h : Here w0 (PlayL K V T0 B0 r vL gF gU gK p B1 B2) w1) (hn : nm.size ≤ maxLen) :
    Calls Tryz.prog 17 #[.pointer (some ⟨p, 0, none⟩), .string nm] w1 fun e w' => e = .returned (.tuple #[]) ∧ Here w0 (PlayL K V T0 B0 r vL gF gU gK p B1 (goodB B2 nm)) w' := h.userGood 4 nm rfl hn
theorem play_goodR {B1 B2 : List Usr} {w1 : World} {nm : ByteArray} (h : Here w0 (PlayL K V T0 B0 r vL gF gU gK p B1 B2) w1) (hok : UsersOk B1) :
    Calls Tryz.prog 18 #[.pointer (some ⟨r, 0, none⟩), .string nm] w1 fun e w' => e = .returned (.tuple #[]) ∧ Here w0 (PlayL K V T0 B0 r vL gF gU gK p (goodB B1 nm) B2) w' := h.refGood 3 nm rfl (by have := hok.len; omega)
theorem play_lockedU {B1 B2 : List Usr} {w1 : World} {nm : ByteArray} {now : Int} (h : Here w0 (PlayL K V T0 B0 r vL gF gU gK p B1 B2) w1) (hn : nm.size ≤ maxLen) (hw : I64U now) :
    Calls Tryz.prog 19 #[.pointer (some ⟨p, 0, none⟩), .string nm, .int .i64 now] w1 fun e w' => e = .returned (.bool (lockedT B2 nm now)) ∧ Here w0 (PlayL K V T0 B0 r vL gF gU gK p B1 B2) w' := h.userLocked 4 nm now rfl hn hw
theorem play_lockedR {B1 B2 : List Usr} {w1 : World} {nm : ByteArray} {now : Int} (h : Here w0 (PlayL K V T0 B0 r vL gF gU gK p B1 B2) w1) (hok : UsersOk B1) :
    Calls Tryz.prog 20 #[.pointer (some ⟨r, 0, none⟩), .string nm, .int .i64 now] w1 fun e w' => e = .returned (.bool (lockedT B1 nm now)) ∧ w1 = w' := h.refLocked 3 nm now rfl (by have := hok.len; omega)
theorem play_failsU {B1 B2 : List Usr} {w1 : World} {nm : ByteArray} (h : Here w0 (PlayL K V T0 B0 r vL gF gU gK p B1 B2) w1) (hn : nm.size ≤ maxLen) :
    Calls Tryz.prog 21 #[.pointer (some ⟨p, 0, none⟩), .string nm] w1 fun e w' => e = .returned (.int .i64 (failsN B2 nm : Int)) ∧ Here w0 (PlayL K V T0 B0 r vL gF gU gK p B1 B2) w' := h.userFails 4 nm rfl hn
theorem play_at {B1 B2 : List Usr} {w1 : World} {nm : ByteArray} (h : Here w0 (PlayL K V T0 B0 r vL gF gU gK p B1 B2) w1) (hok : UsersOk B1) :
    Calls Tryz.prog 14 #[.pointer (some ⟨r, 0, none⟩), .string nm] w1 fun e w' => e = .returned (.int .i64 (atV B1 nm)) ∧ w1 = w' := h.refAt 3 nm rfl (by have := hok.len; omega)
end
end Go.Proofs.YtjemklgfenciaaaGreat
