/-
  A book of texts beside a Reader.
-/
import Derived.Test.YtkjdklicgbjkpaaFra4
import Derived.Test.YtkjdklicgbjkpaaBokT9
import Derived.Test.YtkjdklicgbjkpaaStrs0
namespace Go.Proofs.Ytkjdklicgbjkpaa
open Go.RowKit
set_option linter.unusedVariables false
set_option maxRecDepth 100000
set_option linter.unusedSimpArgs false

/-- What a Reader's Feed leaves. -/
def Fed (K : FrameKeeps) (w : World) (bl : Nat → Prop) (p : Nat) (fs : List ByteArray) (l' : ByteArray) (d' : Bool) (e : Ending) (w' : World) : Prop :=
  ∃ v bl', OwnT w' w.heap.size v fs ∧ e = .returned (.tuple #[v, .bool (!d')]) ∧ K.Rd w' bl' p l' d' ∧ (∀ k, bl' k → (bl k ∨ w.heap.size ≤ k) ∧ v.ownBlock ≠ some k) ∧ Touch bl w w'
theorem FrameKeeps.live (K : FrameKeeps) (w : World) (bl : Nat → Prop) (p : Nat) (l b : ByteArray) (h : K.Rd w bl p l false) (hs : l.size + b.size ≤ 1000000) :
    Calls Try.prog 10 #[.pointer (some ⟨p, 0, none⟩), .string b] w (Fed K w bl p (framesS (l ++ b)) (leftS (l ++ b)) (deadS (l ++ b))) :=
  K.feed w bl p l false b h (fun _ => hs) (fun h => by cases h)
theorem FrameKeeps.gone (K : FrameKeeps) (w : World) (bl : Nat → Prop) (p : Nat) (b : ByteArray) (h : K.Rd w bl p ⟨#[]⟩ true) :
    Calls Try.prog 10 #[.pointer (some ⟨p, 0, none⟩), .string b] w (Fed K w bl p [] ⟨#[]⟩ true) :=
  K.feed w bl p ⟨#[]⟩ true b h (fun h => by cases h) (fun _ => rfl)

theorem book_newT (w : World) : BookT (w.alloc (.cells (rowT (.slice none 0 0) (.slice none 0 0)).toArray 41)) w.heap.size w.heap.size (.slice none 0 0) (.slice none 0 0) [] [] [] :=
  ⟨RowIs.new w _ _, Nat.le_refl _, World.ownsRow_nil _ _ _ _, World.ownsRow_nil _ _ _ _, rfl, rfl, fun i v l h => by simp at h, fun i v l h => by simp at h, by simp [Apart2, Value.ownBlock], by simp [Value.ownBlock]⟩
theorem own_base9 {w : World} {base base' : Nat} {t : TypeId} {z : Nat} {v : Value} {n : Nat} {cs : List Value} (h : w.ownsRow base t z v n cs) (hb : base' ≤ base) : w.ownsRow base' t z v n cs := by
  refine ⟨h.1, ?_⟩
  rcases h.2 with hn | ⟨g, cap, cur, hv, hg, r⟩
  · exact Or.inl hn
  · exact Or.inr ⟨g, cap, cur, hv, by omega, r⟩
theorem BookT.base {w : World} {base base' p : Nat} {vo wo : Value} {vs ws : List Value} {ls : List (List ByteArray)} (h : BookT w base p vo wo vs ws ls) (hb : base' ≤ base) : BookT w base' p vo wo vs ws ls :=
  ⟨h.row, Nat.le_trans hb h.here, own_base9 h.ownV hb, own_base9 h.ownW hb, h.lenV, h.lenW, fun i v l a b => (h.eachV i v l a b).base hb, fun i v l a b => (h.eachW i v l a b).base hb, h.apart, h.off⟩
/-- A book is left as it was by what turns none of its blocks. -/
theorem BookT.touch {S : Nat → Prop} {w w' : World} {base p : Nat} {vo wo : Value} {vs ws : List Value} {ls : List (List ByteArray)} (h : BookT w base p vo wo vs ws ls) (ht : Touch S w w') (hn : ∀ k, S k → k ≠ p ∧ ∀ u ∈ vo :: wo :: (vs ++ ws), u.ownBlock ≠ some k) : BookT w' base p vo wo vs ws ls := by
  refine ⟨?_, h.here, own_touch h.ownV ht (fun k hk hS => (hn k hS).2 vo (by simp) hk), own_touch h.ownW ht (fun k hk hS => (hn k hS).2 wo (by simp) hk), h.lenV, h.lenW, ?_, ?_, h.apart, h.off⟩
  · show w'.heap[p]? = _
    rw [ht.block p h.row.lt (fun hS => (hn p hS).1 rfl)]
    exact h.row
  · intro i v l h1 h2
    exact own_touch (h.eachV i v l h1 h2) ht (fun k hk hS => (hn k hS).2 v (by simp [List.mem_of_getElem? h1]) hk)
  · intro i v l h1 h2
    exact own_touch (h.eachW i v l h1 h2) ht (fun k hk hS => (hn k hS).2 v (by simp [List.mem_of_getElem? h1]) hk)
/-- What Texts turns is the book's. -/
theorem BookT.touched {w w' : World} {base p : Nat} {vo wo : Value} {vs ws : List Value} {ls : List (List ByteArray)} (h : BookT w base p vo wo vs ws ls) (ht : Touch (fun k => k = p ∨ vo.ownBlock = some k ∨ wo.ownBlock = some k) w w') (hb : base ≤ w.heap.size) : Below base w w' := by
  refine ht.below (fun k hk => ?_) hb
  rcases hk with rfl | hk | hk
  · exact h.here
  · exact (h.lt (u := vo) (by simp) hk).1
  · exact (h.lt (u := wo) (by simp) hk).1
/-- A list that a call made which turned nothing of the book's is free. -/
theorem tel_mid {bl : Nat → Prop} {w w2 : World} {B q : Nat} {vo wo v : Value} {vs ws : List Value} {ls : List (List ByteArray)} {l : List ByteArray} (hB : BookT w B q vo wo vs ws ls) (hap : ∀ j, bl j → j ≠ q ∧ ∀ u ∈ vo :: wo :: (vs ++ ws), u.ownBlock ≠ some j) (t1 : Touch bl w w2) (hv : OwnT w2 w.heap.size v l) (hb : B ≤ w.heap.size) :
    BookT w2 B q vo wo vs ws ls ∧ Free w2 q (vo :: wo :: (vs ++ ws)) v ∧ OwnT w2 B v l := by
  refine ⟨hB.touch t1 hap, fun k hk => ?_, hv.base hb⟩
  obtain ⟨h1, h2⟩ := World.ownsRow.lt hv k hk
  have hp := hB.row.lt
  refine ⟨h2, by omega, fun u hu he => ?_⟩
  have := (hB.lt hu he).2
  omega
/-- The Reader and the book behind one Feed and one Texts lie apart again. -/
theorem tel_next (K : FrameKeeps) {bl bl1 : Nat → Prop} {w w2 w3 : World} {B p q : Nat} {l1 : ByteArray} {d1 : Bool} {vo wo v vo' wo' u : Value} {vs ws : List Value} {ls : List (List ByteArray)}
    (hB : BookT w B q vo wo vs ws ls) (hap : ∀ j, bl j → j ≠ q ∧ ∀ u ∈ vo :: wo :: (vs ++ ws), u.ownBlock ≠ some j) (hR1 : K.Rd w2 bl1 p l1 d1) (hb1 : ∀ k, bl1 k → (bl k ∨ w.heap.size ≤ k) ∧ v.ownBlock ≠ some k)
    (ol : Olds w2 vo wo vo' wo' u) (t3 : Touch (fun k => k = q ∨ vo.ownBlock = some k ∨ wo.ownBlock = some k) w2 w3) :
    K.Rd w3 bl1 p l1 d1 ∧ ∀ j, bl1 j → j ≠ q ∧ ∀ x ∈ vo' :: wo' :: ((vs ++ [v]) ++ (ws ++ [u])), x.ownBlock ≠ some j := by
  have hA : ∀ j, bl1 j → j ≠ q ∧ ∀ x ∈ vo :: wo :: (vs ++ ws), x.ownBlock ≠ some j := by
    intro j hj
    rcases (hb1 j hj).1 with h | h
    · exact hap j h
    · have hq := hB.row.lt
      exact ⟨by omega, fun x hx he => by have := (hB.lt hx he).2; omega⟩
  refine ⟨K.touch hR1 t3 (fun k hk hS => ?_), fun j hj => ⟨(hA j hj).1, fun x hx he => ?_⟩⟩
  · rcases hS with hS | hS | hS
    · exact (hA k hk).1 hS
    · exact (hA k hk).2 vo (by simp) hS
    · exact (hA k hk).2 wo (by simp) hS
  · have hlt := (K.lt hR1 j hj).2
    have hcase : x = vo' ∨ x = wo' ∨ x ∈ vs ++ ws ∨ x = v ∨ x = u := by simp at hx ⊢; rcases hx with e | e | e | e | e | e <;> simp [e]
    rcases hcase with rfl | rfl | hx | rfl | rfl
    · exact (hA j hj).2 vo (by simp) ((ol j hlt).1 he)
    · exact (hA j hj).2 wo (by simp) ((ol j hlt).2.1 he)
    · exact (hA j hj).2 x (by simp at hx ⊢; rcases hx with e | e <;> simp [e]) he
    · exact (hb1 j hj).2 he
    · exact (ol j hlt).2.2 he
/-- The Reader and the book at a round's beginning. -/
def Tel (K : FrameKeeps) (B p q k : Nat) (l : ByteArray) (d : Bool) (w : World) : Prop :=
  ∃ bl vo wo vs ws ls, K.Rd w bl p l d ∧ BookT w B q vo wo vs ws ls ∧ vs.length = k ∧ (∀ (i : Nat) (m : List ByteArray), ls[i]? = some m → m.length ≤ 10000) ∧ ∀ j, bl j → j ≠ q ∧ ∀ u ∈ vo :: wo :: (vs ++ ws), u.ownBlock ≠ some j

end Go.Proofs.Ytkjdklicgbjkpaa
