/-
  What the law DigestCopies keeps: a row of copies and a row of texts.
-/
import Derived.Test.YtjdhmemnigohbaaParts2
import Derived.Deep.AppendLies
namespace Go.Proofs.Ytjdhmemnigohbaa
open Go.RowKit
set_option linter.unusedVariables false

theorem infoP : (Try.prog.info? 26).map (fun i => (i.zero, i.size, i.bytes)) = some (some (.pointer none), 1, 8) := by kernel_rfl
theorem infoS : (Try.prog.info? 9).map (fun i => (i.zero, i.size, i.bytes)) = some (some (.string ⟨#[]⟩), 1, 16) := by kernel_rfl
def ptrC (C : Nat → Nat) (k : Nat) : List Value := (List.range k).map fun i => .pointer (some ⟨C i, 0, none⟩)
def hadC (L : Nat → List UInt8) (k : Nat) : List Value := (List.range k).map fun i => .string (str (joinTo L i))
def extC (C : Nat → Nat) (k c : Nat) : Nat → Nat := fun i => if i < k then C i else c
theorem ptrC_succ (C : Nat → Nat) (k c : Nat) : ptrC (extC C k c) (k + 1) = ptrC C k ++ [.pointer (some ⟨c, 0, none⟩)] := by
  simp only [ptrC, List.range_succ, List.map_append, List.map_cons, List.map_nil]
  congr 1
  · apply List.map_congr_left
    intro i hi
    rw [extC, if_pos (List.mem_range.1 hi)]
  · rw [extC, if_neg (Nat.lt_irrefl _)]
theorem hadC_succ (L : Nat → List UInt8) (k : Nat) : hadC L (k + 1) = hadC L k ++ [.string (str (joinTo L k))] := by
  simp [hadC, List.range_succ]
theorem ptrC_at (C : Nat → Nat) (k i : Nat) (h : i < k) : (ptrC C k)[i]? = some (.pointer (some ⟨C i, 0, none⟩)) := by simp [ptrC, h]
theorem hadC_at (L : Nat → List UInt8) (k i : Nat) (h : i < k) : (hadC L k)[i]? = some (.string (str (joinTo L i))) := by simp [hadC, h]

theorem owns_lt {w : World} {base n size : Nat} {e : TypeId} {v : Value} {xs : List Value} (h : w.ownsRow base e size v n xs) : ∀ b, v.ownBlock = some b → b < w.heap.size := by
  intro b hb
  rcases h.2 with ⟨rfl, _⟩ | ⟨g, cap, cur, rfl, hg, hh, _⟩
  · cases hb
  · simp only [Value.ownBlock, Option.some.injEq] at hb
    rw [← hb]
    exact (Array.getElem?_eq_some_iff.1 hh).1
theorem owns_kept {w w' : World} {base n size : Nat} {e : TypeId} {v : Value} {xs : List Value} (h : w.ownsRow base e size v n xs) (hk : ∀ b, v.ownBlock = some b → w'.heap[b]? = w.heap[b]?) : w'.ownsRow base e size v n xs := by
  obtain ⟨h1, h2⟩ := h
  refine ⟨h1, ?_⟩
  rcases h2 with h2 | ⟨g, cap, cur, hv, hg, hh, r⟩
  · exact Or.inl h2
  · exact Or.inr ⟨g, cap, cur, hv, hg, by rw [hk g (by rw [hv]; rfl)]; exact hh, r⟩

theorem owns_form {w : World} {base n size : Nat} {e : TypeId} {v : Value} {xs : List Value} (h : w.ownsRow base e size v n xs) : ∃ (o : Option Addr) (cap : Nat), v = .slice o n cap ∧ (0 < n → ∃ g, o = some ⟨g, 0, none⟩) := by
  rcases h.2 with ⟨rfl, rfl⟩ | ⟨g, cap, cur, rfl, _⟩
  · exact ⟨none, 0, rfl, fun h => absurd h (by omega)⟩
  · exact ⟨_, cap, rfl, fun _ => ⟨g, rfl⟩⟩
theorem cell_below {w w' : World} {a : Addr} {x : Value} (hb : Below w.heap.size w w') (h : w.cell? a = some x) : w'.cell? a = some x := by
  rw [hb.cell (World.block_lt_of_cell? w _ h), h]
structure Cop (B g : Nat) (L : Nat → List UInt8) (k : Nat) (C : Nat → Nat) (v5 v6 : Value) (w : World) : Prop where
  own5 : w.ownsRow B 26 1 v5 k (ptrC C k)
  own6 : w.ownsRow B 9 1 v6 k (hadC L k)
  ne56 : ∀ b, v5.ownBlock = some b → v6.ownBlock ≠ some b
  g5 : v5.ownBlock ≠ some g
  g6 : v6.ownBlock ≠ some g
  c5 : ∀ i, i < k → v5.ownBlock ≠ some (C i)
  c6 : ∀ i, i < k → v6.ownBlock ≠ some (C i)
  cg : ∀ i, i < k → C i ≠ g
  cB : ∀ i, i < k → B ≤ C i
  rd : ∀ i, i < k → Ready w (C i) (joinTo L i)
  inj : ∀ i j, i < j → j < k → C i ≠ C j

theorem Cop.kept {B g k : Nat} {L : Nat → List UInt8} {C : Nat → Nat} {v5 v6 : Value} {w w' : World} (h : Cop B g L k C v5 v6 w) (hk : ∀ b, b < w.heap.size → b ≠ g → w'.heap[b]? = w.heap[b]?) : Cop B g L k C v5 v6 w' :=
  ⟨owns_kept h.own5 (fun b hb => hk b (owns_lt h.own5 b hb) (fun e => h.g5 (by rw [hb, e]))), owns_kept h.own6 (fun b hb => hk b (owns_lt h.own6 b hb) (fun e => h.g6 (by rw [hb, e]))), h.ne56, h.g5, h.g6, h.c5, h.c6, h.cg, h.cB,
    fun i hi => (h.rd i hi).kept (hk _ (h.rd i hi).lt (h.cg i hi)), h.inj⟩

theorem Cop.step {B g k c g5 cap5 g6 cap6 : Nat} {L : Nat → List UInt8} {C : Nat → Nat} {v5 v6 : Value} {w3 w5 w7 : World} {o1 o2 : Obj} (h : Cop B g L k C v5 v6 w3) (hg : g < w3.heap.size)
    (hc : Ready w3 c (joinTo L k)) (hcg : c ≠ g) (hcB : B ≤ c) (hcC : ∀ i, i < k → C i ≠ c) (h5c : v5.ownBlock ≠ some c) (h6c : v6.ownBlock ≠ some c)
    (hown5 : w5.ownsRow B 26 1 (.slice (some ⟨g5, 0, none⟩) (k + 1) cap5) (k + 1) (ptrC C k ++ [.pointer (some ⟨c, 0, none⟩)])) (hgrow5 : (w3.alloc o1).grownBy w5 v5.ownBlock) (hat5 : v5.ownBlock = some g5 ∨ g5 = w3.heap.size + 1)
    (hown6 : w7.ownsRow B 9 1 (.slice (some ⟨g6, 0, none⟩) (k + 1) cap6) (k + 1) (hadC L k ++ [.string (str (joinTo L k))])) (hgrow6 : (w5.alloc o2).grownBy w7 v6.ownBlock) (hat6 : v6.ownBlock = some g6 ∨ g6 = w5.heap.size + 1) :
    Cop B g L (k + 1) (extC C k c) (.slice (some ⟨g5, 0, none⟩) (k + 1) cap5) (.slice (some ⟨g6, 0, none⟩) (k + 1) cap6) w7 ∧ ∀ b, b < w3.heap.size → v5.ownBlock ≠ some b → v6.ownBlock ≠ some b → w7.heap[b]? = w3.heap[b]? := by
  have hs5 : w3.heap.size + 1 ≤ w5.heap.size := by have := hgrow5.size; simpa using this
  have hs5' : (w5.alloc o2).heap.size = w5.heap.size + 1 := by simp
  have hs3' : (w3.alloc o1).heap.size = w3.heap.size + 1 := by simp
  have keep : ∀ b, b < w3.heap.size → v5.ownBlock ≠ some b → v6.ownBlock ≠ some b → w7.heap[b]? = w3.heap[b]? := by
    intro b hb n5 n6
    rw [hgrow6.block b (by omega) (Ne.symm n6), Below.heap_alloc _ _ _ (by omega), hgrow5.block b (by omega) (Ne.symm n5), Below.heap_alloc _ _ _ hb]
  have l5 := owns_lt h.own5
  have l6 := owns_lt h.own6
  have hg5 : g5 < w5.heap.size := owns_lt hown5 g5 rfl
  have n6 : v6.ownBlock ≠ some g5 := by
    rcases hat5 with e | e
    · exact h.ne56 g5 e
    · intro e6; have := l6 g5 e6; omega
  have n56 : g5 ≠ g6 := by
    rcases hat6 with e | e
    · intro e'; exact n6 (by rw [e, e'])
    · omega
  have n5g : g5 ≠ g := by
    rcases hat5 with e | e
    · intro e'; exact h.g5 (by rw [e, e'])
    · omega
  have n6g : g6 ≠ g := by
    rcases hat6 with e | e
    · intro e'; exact h.g6 (by rw [e, e'])
    · omega
  have n5c : g5 ≠ c := by
    have := hc.lt
    rcases hat5 with e | e
    · intro e'; exact h5c (by rw [e, e'])
    · omega
  have n6c : g6 ≠ c := by
    have := hc.lt
    rcases hat6 with e | e
    · intro e'; exact h6c (by rw [e, e'])
    · omega
  have n5C : ∀ i, i < k → g5 ≠ C i := by
    intro i hi
    have := (h.rd i hi).lt
    rcases hat5 with e | e
    · intro e'; exact h.c5 i hi (by rw [e, e'])
    · omega
  have n6C : ∀ i, i < k → g6 ≠ C i := by
    intro i hi
    have := (h.rd i hi).lt
    rcases hat6 with e | e
    · intro e'; exact h.c6 i hi (by rw [e, e'])
    · omega
  have ext : ∀ i, i < k + 1 → (i < k ∧ extC C k c i = C i) ∨ (i = k ∧ extC C k c i = c) := by
    intro i hi
    unfold extC
    by_cases e : i < k
    · exact Or.inl ⟨e, if_pos e⟩
    · exact Or.inr ⟨by omega, if_neg e⟩
  refine ⟨⟨?_, ?_, ?_, ?_, ?_, ?_, ?_, ?_, ?_, ?_, ?_⟩, keep⟩
  · rw [ptrC_succ]
    refine owns_kept hown5 (fun b hb => ?_)
    simp only [Value.ownBlock, Option.some.injEq] at hb
    subst hb
    rw [hgrow6.block g5 (by omega) (Ne.symm n6), Below.heap_alloc _ _ _ hg5]
  · rw [hadC_succ]; exact hown6
  · intro b hb hb'
    simp only [Value.ownBlock, Option.some.injEq] at hb hb'
    omega
  · simpa [Value.ownBlock] using n5g
  · simpa [Value.ownBlock] using n6g
  · intro i hi
    rcases ext i hi with ⟨e1, e2⟩ | ⟨e1, e2⟩
    · rw [e2]; simpa [Value.ownBlock] using n5C i e1
    · rw [e2]; simpa [Value.ownBlock] using n5c
  · intro i hi
    rcases ext i hi with ⟨e1, e2⟩ | ⟨e1, e2⟩
    · rw [e2]; simpa [Value.ownBlock] using n6C i e1
    · rw [e2]; simpa [Value.ownBlock] using n6c
  · intro i hi
    rcases ext i hi with ⟨e1, e2⟩ | ⟨e1, e2⟩
    · rw [e2]; exact h.cg i e1
    · rw [e2]; exact hcg
  · intro i hi
    rcases ext i hi with ⟨e1, e2⟩ | ⟨e1, e2⟩
    · rw [e2]; exact h.cB i e1
    · rw [e2]; exact hcB
  · intro i hi
    rcases ext i hi with ⟨e1, e2⟩ | ⟨e1, e2⟩
    · rw [e2]; exact (h.rd i e1).kept (keep _ (h.rd i e1).lt (h.c5 i e1) (h.c6 i e1))
    · rw [e2, e1]; exact hc.kept (keep _ hc.lt h5c h6c)
  · intro i j hij hj
    rcases ext i (by omega) with ⟨e1, e2⟩ | ⟨e1, e2⟩
    · rcases ext j hj with ⟨e3, e4⟩ | ⟨e3, e4⟩
      · rw [e2, e4]; exact h.inj i j hij e3
      · rw [e2, e4]; exact hcC i e1
    · omega
theorem Cop.own6' {B g k : Nat} {L : Nat → List UInt8} {C : Nat → Nat} {v5 v6 : Value} {w3 w5 : World} {o1 : Obj} (h : Cop B g L k C v5 v6 w3) (hgrow5 : (w3.alloc o1).grownBy w5 v5.ownBlock) : w5.ownsRow B 9 1 v6 k (hadC L k) :=
  owns_kept h.own6 (fun b hb => by
    have hl := owns_lt h.own6 b hb
    rw [hgrow5.block b (by simp; omega) (fun e => h.ne56 b e.symm hb), Below.heap_alloc _ _ _ hl])
theorem Cop.start (B g : Nat) (L : Nat → List UInt8) (w : World) : Cop B g L 0 (fun _ => 0) (.slice none 0 0) (.slice none 0 0) w where
  own5 := ⟨rfl, Or.inl ⟨rfl, rfl⟩⟩
  own6 := ⟨rfl, Or.inl ⟨rfl, rfl⟩⟩
  ne56 := fun b hb => by cases hb
  g5 := fun e => by cases e
  g6 := fun e => by cases e
  c5 := fun i hi => absurd hi (by omega)
  c6 := fun i hi => absurd hi (by omega)
  cg := fun i hi => absurd hi (by omega)
  cB := fun i hi => absurd hi (by omega)
  rd := fun i hi => absurd hi (by omega)
  inj := fun i j _ hj => absurd hj (by omega)
theorem ref_sum_str (l : List UInt8) (w : World) (hlen : l.length ≤ 288230376151711744) :
    Calls Try.prog 12 #[.string (str l)] w fun e w' => e = .returned (.string (str (shaL l))) ∧ Below w.heap.size w w' := by
  have := ref_sum (str l) w (by rw [str_size]; exact hlen)
  rwa [shaS_str] at this

end Go.Proofs.Ytjdhmemnigohbaa
