/-
  Parts of this proof, one behind the other: Bok0.
-/
import Derived.Test.YtjemklgfenciaaaGreatBun4
import Derived.Maps.AppendAt

/-
  Several rows of a call's own side by side: what is turned and what is left, and append onto one of them.
-/
namespace Go.Proofs.YtjemklgfenciaaaGreat
open Go.RowKit
set_option linter.unusedVariables false
set_option maxRecDepth 100000

/-- Of the blocks that were there only such as lie in S are turned; new ones are made. -/
structure Touch (S : Nat → Prop) (w w' : World) : Prop where
  os : w'.os = w.os
  tape : w'.tape = w.tape
  output : w'.output = w.output
  size : w.heap.size ≤ w'.heap.size
  block : ∀ k, k < w.heap.size → ¬ S k → w'.heap[k]? = w.heap[k]?
theorem Touch.refl (S : Nat → Prop) (w : World) : Touch S w w := ⟨rfl, rfl, rfl, Nat.le_refl _, fun _ _ _ => rfl⟩
theorem Touch.trans {S : Nat → Prop} {a b c : World} (h : Touch S a b) (k : Touch S b c) : Touch S a c :=
  ⟨k.os.trans h.os, k.tape.trans h.tape, k.output.trans h.output, Nat.le_trans h.size k.size, fun i hi hs => (k.block i (Nat.lt_of_lt_of_le hi h.size) hs).trans (h.block i hi hs)⟩
theorem Touch.mono {S S' : Nat → Prop} {w w' : World} (h : Touch S w w') (hs : ∀ k, k < w.heap.size → S k → S' k) : Touch S' w w' :=
  ⟨h.os, h.tape, h.output, h.size, fun k hk hn => h.block k hk (fun hS => hn (hs k hk hS))⟩
theorem Touch.of_below {S : Nat → Prop} {w w' : World} (h : Below w.heap.size w w') : Touch S w w' :=
  ⟨h.os, h.tape, h.output, h.size, fun k hk _ => h.block k hk⟩
theorem Touch.below {S : Nat → Prop} {w w' : World} {B : Nat} (h : Touch S w w') (hs : ∀ k, S k → B ≤ k) (hB : B ≤ w.heap.size) : Below B w w' :=
  ⟨h.os, h.tape, h.output, h.size, fun k hk => h.block k (by omega) (fun hS => by have := hs k hS; omega)⟩
theorem Touch.set {S : Nat → Prop} {w w' : World} (h : Touch S w w') {p : Addr} (hp : S p.block ∨ w.heap.size ≤ p.block) (u : Value) : Touch S w (w'.setCell p u) :=
  ⟨h.os, h.tape, h.output, by simpa [World.setCell] using h.size, fun k hk hn => by
    rw [Below.heap_setCell _ _ _ _ (fun e => by rcases hp with hp | hp; exact hn (e ▸ hp); omega)]
    exact h.block k hk hn⟩
theorem Touch.grown {S : Nat → Prop} {w w' w'' : World} {row : Option Nat} (h : Touch S w w') (hg : w'.grownBy w'' row) (hr : ∀ k, row = some k → S k ∨ w.heap.size ≤ k) : Touch S w w'' :=
  ⟨hg.os.trans h.os, hg.tape.trans h.tape, hg.output.trans h.output, Nat.le_trans h.size hg.size, fun k hk hn => by
    rw [hg.block k (Nat.lt_of_lt_of_le hk h.size) (fun e => by rcases hr k e.symm with h1 | h1; exact hn h1; omega)]
    exact h.block k hk hn⟩
theorem Touch.alloc {S : Nat → Prop} {w w' : World} (h : Touch S w w') (o : Obj) : Touch S w (w'.alloc o) :=
  ⟨h.os, h.tape, h.output, by have := h.size; simp; omega, fun k hk hn => by
    rw [Below.heap_alloc _ _ _ (Nat.lt_of_lt_of_le hk h.size)]
    exact h.block k hk hn⟩
theorem Touch.drew {S : Nat → Prop} {w w' : World} (h : Touch S w w') : Touch S w w'.drew := ⟨h.os, h.tape, h.output, h.size, h.block⟩

/-- A list's elements, one cell each, can be read. -/
def Seen (w : World) (v : Value) (xs : List Value) : Prop :=
  (v = .slice none 0 0 ∧ xs = []) ∨ ∃ g cap, v = .slice (some ⟨g, 0, none⟩) xs.length cap ∧ ∀ j u, xs[j]? = some u → w.cell? ⟨g, j, none⟩ = some u
theorem Seen.form {w : World} {v : Value} {xs : List Value} (h : Seen w v xs) : ∃ ao cap, v = .slice ao xs.length cap := by
  rcases h with ⟨rfl, rfl⟩ | ⟨g, cap, rfl, _⟩
  · exact ⟨none, 0, rfl⟩
  · exact ⟨_, _, rfl⟩
theorem Seen.full {w : World} {v : Value} {xs : List Value} (h : Seen w v xs) (hx : 0 < xs.length) : ∃ g cap, v = .slice (some ⟨g, 0, none⟩) xs.length cap ∧ ∀ j u, xs[j]? = some u → w.cell? ⟨g, j, none⟩ = some u := by
  rcases h with ⟨rfl, rfl⟩ | h
  · exact absurd hx (by simp)
  · exact h
theorem Seen.touch {S : Nat → Prop} {w w' : World} {v : Value} {xs : List Value} (h : Seen w v xs) (ht : Touch S w w') (hn : ∀ k, v.ownBlock = some k → ¬ S k) : Seen w' v xs := by
  rcases h with h | ⟨g, cap, rfl, hc⟩
  · exact Or.inl h
  · refine Or.inr ⟨g, cap, rfl, fun j u hj => ?_⟩
    have hcell := hc j u hj
    have hlt : g < w.heap.size := World.block_lt_of_cell? w ⟨g, j, none⟩ hcell
    rw [World.cell?_of_block (a := ⟨g, j, none⟩) (ht.block g hlt (hn g rfl))]
    exact hcell
theorem Seen.below {w w' : World} {v : Value} {xs : List Value} (h : Seen w v xs) (hb : Below w.heap.size w w') : Seen w' v xs := h.touch (Touch.of_below (S := fun _ => False) hb) (fun _ _ h => h)
theorem own_seen {w : World} {base : Nat} {e : TypeId} {v : Value} {n : Nat} {xs : List Value} (h : w.ownsRow base e 1 v n xs) : Seen w v xs := by
  have hl : xs.length = n := by have := h.1; omega
  rcases h.2 with ⟨rfl, h0⟩ | ⟨g, cap, cur, rfl, hb, hg, hnc, hcm, hcs, htake⟩
  · exact Or.inl ⟨rfl, List.eq_nil_of_length_eq_zero (by omega)⟩
  · refine Or.inr ⟨g, cap, by rw [hl], fun j u hj => ?_⟩
    have := h.cells (g := g) rfl j u hj
    rwa [show (⟨g, 0, none⟩ : Addr).add j = ⟨g, j, none⟩ from by simp [Addr.add]; exact fun h => h.symm] at this
theorem own_touch {S : Nat → Prop} {w w' : World} {base : Nat} {e : TypeId} {v : Value} {n : Nat} {xs : List Value} (h : w.ownsRow base e 1 v n xs) (ht : Touch S w w') (hn : ∀ k, v.ownBlock = some k → ¬ S k) : w'.ownsRow base e 1 v n xs := by
  refine ⟨h.1, ?_⟩
  rcases h.2 with h2 | ⟨g, cap, cur, rfl, hb, hg, r⟩
  · exact Or.inl h2
  · exact Or.inr ⟨g, cap, cur, rfl, hb, by rw [ht.block g (Array.getElem?_eq_some_iff.1 hg).1 (hn g rfl)]; exact hg, r⟩

section
variable {P : Program} (w : World)
/-- Appended to one of several: the new list lies in the old one's row, or in a new one, and then nothing that was there is turned. -/
theorem run_append_two (base : Nat) (t ty e : TypeId) (i : TypeInfo) (z : Value) (size bytes : Nat) (ht : P.underlying t = some (.slice e)) (hi : P.info? e = some i) (hz : i.zero = some z)
    (hsize : i.size = size) (hby : i.bytes = bytes) (hzs : z.cells.size = size) (hsz : 0 < size)
    (v : Value) (n : Nat) (xs : List Value) (hown : w.ownsRow base e size v n xs)
    (a : Addr) (m c : Nat) (news : List Value) (hl : news.length = m * size) (hnews : ∀ j u, news[j]? = some u → w.cell? (a.add j) = some u) (h1 : ∀ u ∈ news, u.oneCell' = true)
    (h63 : n + m ≤ maxLen) (hbytes : (n + m) * bytes ≤ 140737488355328) (hbase : base ≤ w.heap.size) :
    ∃ v' w', (Builtin.append_ #[t, t] ty #[v, .slice (some a) m c]).run P w = .ok v' w' ∧ w'.ownsRow base e size v' (n + m) (xs ++ news) ∧ w.grownBy w' v.ownBlock ∧
      (v'.ownBlock = v.ownBlock ∨ v'.ownBlock = some w.heap.size ∧ w.grownBy w' none) := by
  obtain ⟨v', w', hr, ho, hg, hnil, hat⟩ := run_append_own_at (P := P) w base t ty e i z size bytes ht hi hz hsize hby hzs hsz v n xs hown a m c news hl hnews h1 h63 hbytes hbase
  refine ⟨v', w', hr, ho, hg, ?_⟩
  have hsmall : n + m ≤ 9223372036854775807 := by simp only [maxLen] at h63; omega
  rcases hown.2 with ⟨rfl, rfl⟩ | ⟨g, cap, cur, rfl, hbg, hgg, hnc, hcm, hcs, htake⟩
  · rcases hat with hat | hat
    · exact Or.inl hat
    · exact Or.inr ⟨hat, hg⟩
  · subst hsize hby
    by_cases hroom : n + m ≤ cap
    · have hfit : n * i.size + news.length ≤ cur.size := by rw [hl, hcs, ← Nat.add_mul]; exact Nat.mul_le_mul_right _ hroom
      have hr2 := run_append_room (P := P) w t ty e i ht hi g n cap cur hgg a m c news hl hnews h1 hroom hfit
      rw [hr] at hr2
      injection hr2 with e1 e2
      left
      rw [e1]; rfl
    · have holds : ∀ j u, xs[j]? = some u → w.cell? ((⟨g, 0, none⟩ : Addr).add j) = some u := hown.cells (g := g) rfl
      have hr2 := run_append_grow (P := P) w t ty e i z ht hi hz ⟨g, 0, none⟩ n cap xs hown.1 holds a m c news hl hnews (by omega) (by omega) (growslice_fits (by omega) hbytes)
      rw [hr] at hr2
      injection hr2 with e1 e2
      right
      rw [e1, e2]
      exact ⟨rfl, rfl, rfl, rfl, by simp, fun k hk _ => Below.heap_alloc w.drew _ k hk⟩
theorem wp_append_two {o : Oper} {a : Act} {K : Act → World → Prop} {Q : Exit → Act → World → Prop} (s x : Operand) (t : TypeId)
    (ho : o.op = .call { callee := .builtin .append, args := #[s, x], argTypes := #[t, t] })
    (base : Nat) (e : TypeId) (i : TypeInfo) (z : Value) (size bytes : Nat) (ht : P.underlying t = some (.slice e)) (hi : P.info? e = some i) (hz : i.zero = some z)
    (hsize : i.size = size) (hby : i.bytes = bytes) (hzs : z.cells.size = size) (hsz : 0 < size)
    (v : Value) (n : Nat) (xs : List Value) (hs : a.eval s = v) (hown : w.ownsRow base e size v n xs)
    (ad : Addr) (m c : Nat) (news : List Value) (hx : a.eval x = .slice (some ad) m c) (hl : news.length = m * size) (hnews : ∀ j u, news[j]? = some u → w.cell? (ad.add j) = some u) (h1 : ∀ u ∈ news, u.oneCell' = true)
    (h63 : n + m ≤ maxLen) (hbytes : (n + m) * bytes ≤ 140737488355328) (hbase : base ≤ w.heap.size)
    (h : ∀ v' w', w'.ownsRow base e size v' (n + m) (xs ++ news) → w.grownBy w' v.ownBlock → (v'.ownBlock = v.ownBlock ∨ v'.ownBlock = some w.heap.size ∧ w.grownBy w' none) → K (a.put o.dst v') w') :
    Oper.wp P o a w K Q := by
  obtain ⟨v', w', hr, h2, h3, h4⟩ := run_append_two (P := P) w base t o.type e i z size bytes ht hi hz hsize hby hzs hsz v n xs hown ad m c news hl hnews h1 h63 hbytes hbase
  unfold Oper.wp execOp
  simp only [ho, resolve, invoke, builtin, Sem.run_bind, Sem.run_pure, Result.andThen_ok, List.map_toArray, List.map_cons, List.map_nil, hs, hx, hr]
  exact h v' w' h2 h3 h4
theorem wpList_append_two {ops : Array Oper} {rest : List Oper} {o : Oper} {a : Act} {Q : Exit → Act → World → Prop} (hgd : o.guard = none) (s x : Operand) (t : TypeId)
    (ho : o.op = .call { callee := .builtin .append, args := #[s, x], argTypes := #[t, t] })
    (base : Nat) (e : TypeId) (i : TypeInfo) (z : Value) (size bytes : Nat) (ht : P.underlying t = some (.slice e)) (hi : P.info? e = some i) (hz : i.zero = some z)
    (hsize : i.size = size) (hby : i.bytes = bytes) (hzs : z.cells.size = size) (hsz : 0 < size)
    (v : Value) (n : Nat) (xs : List Value) (hs : a.eval s = v) (hown : w.ownsRow base e size v n xs)
    (ad : Addr) (m c : Nat) (news : List Value) (hx : a.eval x = .slice (some ad) m c) (hl : news.length = m * size) (hnews : ∀ j u, news[j]? = some u → w.cell? (ad.add j) = some u) (h1 : ∀ u ∈ news, u.oneCell' = true)
    (h63 : n + m ≤ maxLen) (hbytes : (n + m) * bytes ≤ 140737488355328) (hbase : base ≤ w.heap.size)
    (h : ∀ v' w', w'.ownsRow base e size v' (n + m) (xs ++ news) → w.grownBy w' v.ownBlock → (v'.ownBlock = v.ownBlock ∨ v'.ownBlock = some w.heap.size ∧ w.grownBy w' none) → wpList P ops Q rest (a.put o.dst v') w') :
    wpList P ops Q (o :: rest) a w :=
  wpList_plain hgd fun K hK => wp_append_two w s x t ho base e i z size bytes ht hi hz hsize hby hzs hsz v n xs hs hown ad m c news hx hl hnews h1 h63 hbytes hbase fun v' w' h2 h3 h4 => hK _ _ (h v' w' h2 h3 h4)
/-- The same in a region that draws its order. -/
theorem step_append_two {ops : Array Oper} {o : Oper} {a : Act} {K : Act → World → Prop} {Q : Exit → Act → World → Prop} {E : Prop} (hgd : o.guard = none) (s x : Operand) (t : TypeId)
    (ho : o.op = .call { callee := .builtin .append, args := #[s, x], argTypes := #[t, t] })
    (base : Nat) (e : TypeId) (i : TypeInfo) (z : Value) (size bytes : Nat) (ht : P.underlying t = some (.slice e)) (hi : P.info? e = some i) (hz : i.zero = some z)
    (hsize : i.size = size) (hby : i.bytes = bytes) (hzs : z.cells.size = size) (hsz : 0 < size)
    (v : Value) (n : Nat) (xs : List Value) (hs : a.eval s = v) (hown : w.ownsRow base e size v n xs)
    (ad : Addr) (m c : Nat) (news : List Value) (hx : a.eval x = .slice (some ad) m c) (hl : news.length = m * size) (hnews : ∀ j u, news[j]? = some u → w.cell? (ad.add j) = some u) (h1 : ∀ u ∈ news, u.oneCell' = true)
    (h63 : n + m ≤ maxLen) (hbytes : (n + m) * bytes ≤ 140737488355328) (hbase : base ≤ w.heap.size)
    (h : ∀ v' w', w'.ownsRow base e size v' (n + m) (xs ++ news) → w.grownBy w' v.ownBlock → (v'.ownBlock = v.ownBlock ∨ v'.ownBlock = some w.heap.size ∧ w.grownBy w' none) → K (a.put o.dst v') w') :
    if Region.wanted o (yielded ops a.tmps) = true then Oper.wp P o a w K Q else E := by
  have hw : Region.wanted o (yielded ops a.tmps) = true := by simp [Region.wanted, hgd]
  rw [if_pos hw]
  exact wp_append_two w s x t ho base e i z size bytes ht hi hz hsize hby hzs hsz v n xs hs hown ad m c news hx hl hnews h1 h63 hbytes hbase h
end

/-- What was read stays so behind an append to it. -/
theorem seen_append {w w' : World} {base : Nat} {e : TypeId} {v v' : Value} {n m : Nat} {xs news : List Value} (h : Seen w v xs) (ho : w'.ownsRow base e 1 v' (n + m) (xs ++ news)) (hg : w.grownBy w' v.ownBlock) (hat : v'.ownBlock = v.ownBlock ∨ v'.ownBlock = some w.heap.size ∧ w.grownBy w' none) : Seen w' v xs := by
  rcases hat with hat | ⟨_, hn⟩
  · rcases h with h | ⟨g, cap, rfl, hc⟩
    · exact Or.inl h
    · refine Or.inr ⟨g, cap, rfl, fun j u hj => ?_⟩
      rcases own_seen ho with ⟨rfl, _⟩ | ⟨g', cap', rfl, hc'⟩
      · simp [Value.ownBlock] at hat
      · simp [Value.ownBlock] at hat
        subst hat
        exact hc' j u (by rw [List.getElem?_append_left (List.getElem?_eq_some_iff.1 hj).1]; exact hj)
  · exact h.touch (S := fun _ => False) ⟨hn.os, hn.tape, hn.output, hn.size, fun k hk _ => hn.block k hk (by simp)⟩ (fun _ _ h => h)

/-- The blocks of some lists. -/
def Blocks (vs : List Value) (k : Nat) : Prop := ∃ v ∈ vs, v.ownBlock = some k
/-- No two of some lists lie in one block. -/
def Parted (vs : List Value) : Prop := ∀ (i j : Nat) (v v' : Value), i ≠ j → vs[i]? = some v → vs[j]? = some v' → ∀ k, v.ownBlock = some k → v'.ownBlock ≠ some k
/-- A shorter list that begins where a longer one does. -/
theorem Seen.front {w : World} {v v' : Value} {xs ys : List Value} (h : Seen w v' (xs ++ ys)) (hv : v.ownBlock = v'.ownBlock) (hs : v = .slice none 0 0 ∧ xs = [] ∨ ∃ g cap, v = .slice (some ⟨g, 0, none⟩) xs.length cap) : Seen w v xs := by
  rcases hs with hs | ⟨g, cap, rfl⟩
  · exact Or.inl hs
  · refine Or.inr ⟨g, cap, rfl, fun j u hj => ?_⟩
    rcases h with ⟨rfl, he⟩ | ⟨g', cap', rfl, hc⟩
    · simp [Value.ownBlock] at hv
    · simp [Value.ownBlock] at hv
      subst hv
      exact hc j u (by rw [List.getElem?_append_left (List.getElem?_eq_some_iff.1 hj).1]; exact hj)
theorem Seen.shape {w : World} {v : Value} {xs : List Value} (h : Seen w v xs) : v = .slice none 0 0 ∧ xs = [] ∨ ∃ g cap, v = .slice (some ⟨g, 0, none⟩) xs.length cap := by
  rcases h with h | ⟨g, cap, hv, _⟩
  · exact Or.inl h
  · exact Or.inr ⟨g, cap, hv⟩
theorem seen_cell {w : World} {v : Value} {vs : List Value} (h : Seen w v vs) (hp : 0 < vs.length) : ∃ g cap, v = .slice (some ⟨g, 0, none⟩) vs.length cap ∧ ∀ i u, vs[i]? = some u → w.cell? ⟨g, i, none⟩ = some u := h.full hp
theorem touch_cell {S : Nat → Prop} {w w' : World} (ht : Touch S w w') {g j : Nat} {u : Value} (hc : w.cell? ⟨g, j, none⟩ = some u) (hn : ¬ S g) : w'.cell? ⟨g, j, none⟩ = some u := by
  rw [World.cell?_of_block (a := ⟨g, j, none⟩) (ht.block g (World.block_lt_of_cell? w ⟨g, j, none⟩ hc) hn)]
  exact hc
theorem cell_belowB {w w' : World} (hb : Below w.heap.size w w') {g j : Nat} {u : Value} (hc : w.cell? ⟨g, j, none⟩ = some u) : w'.cell? ⟨g, j, none⟩ = some u :=
  (hb.cell (p := ⟨g, j, none⟩) (World.block_lt_of_cell? w ⟨g, j, none⟩ hc)).trans hc
theorem bel_chain8 {w w1 w2 : World} (h1 : Below w.heap.size w w1) (h2 : Below w1.heap.size w1 w2) : Below w.heap.size w w2 := h1.trans (h2.mono h1.size)
theorem touch_grown {w w' : World} {row : Option Nat} (h : w.grownBy w' row) : Touch (fun k => row = some k) w w' :=
  ⟨h.os, h.tape, h.output, h.size, fun k hk hn => h.block k hk (fun e => hn e.symm)⟩
/-- One more append to a list that began as v. -/
theorem grow_step {wo wq w2 w3 : World} {base m : Nat} {e : TypeId} {v u v' : Value} {xs zs : List Value} (hbel : Below wq.heap.size wq w2) (hsv : Seen wq v xs)
    (hu : u.ownBlock = v.ownBlock ∨ ∃ b, u.ownBlock = some b ∧ wo.heap.size ≤ b) (hvlt : ∀ b, v.ownBlock = some b → b < wo.heap.size) (ht : Touch (fun b => v.ownBlock = some b) wo wq)
    (ho : w3.ownsRow base e 1 v' m (xs ++ zs)) (hg : w2.grownBy w3 u.ownBlock) (hat : v'.ownBlock = u.ownBlock ∨ v'.ownBlock = some w2.heap.size ∧ w2.grownBy w3 none) :
    Seen w3 v xs ∧ (v'.ownBlock = v.ownBlock ∨ ∃ b, v'.ownBlock = some b ∧ wo.heap.size ≤ b) ∧ Touch (fun b => v.ownBlock = some b) wo w3 := by
  have s2 := hsv.below hbel
  have hz : wo.heap.size ≤ w2.heap.size := Nat.le_trans ht.size hbel.size
  refine ⟨?_, ?_, ?_⟩
  · rcases hat with hat | ⟨_, hn⟩
    · rcases hu with hu | ⟨b, hb, hle⟩
      · exact (own_seen ho).front (by rw [hat, hu]) s2.shape
      · refine s2.touch (touch_grown hg) (fun k hk hS => ?_)
        have h1 := hvlt k hk
        rw [hb] at hS
        have h2 := Option.some.inj hS
        omega
    · exact s2.touch (touch_grown hn) (fun k hk hS => by cases hS)
  · rcases hat with hat | ⟨hat, _⟩
    · rw [hat]; exact hu
    · exact Or.inr ⟨_, hat, hz⟩
  · refine (ht.trans (Touch.of_below hbel)).grown hg (fun k hk => ?_)
    rcases hu with hu | ⟨b, hb, hle⟩
    · exact Or.inl (hu ▸ hk)
    · rw [hk] at hb
      have := Option.some.inj hb
      exact Or.inr (by omega)
/-- Two lists do not lie in one block. -/
def Apart2 (v v' : Value) : Prop := ∀ k, v.ownBlock = some k → v'.ownBlock ≠ some k
theorem Apart2.symm {v v' : Value} (h : Apart2 v v') : Apart2 v' v := fun k h1 h2 => h k h2 h1
theorem parted_of {vs : List Value} (h : vs.Pairwise Apart2) : Parted vs := by
  intro i j v v' hij hv hv' k hk
  obtain ⟨hi, rfl⟩ := List.getElem?_eq_some_iff.1 hv
  obtain ⟨hj, rfl⟩ := List.getElem?_eq_some_iff.1 hv'
  rcases Nat.lt_or_ge i j with hlt | hge
  · exact List.pairwise_iff_getElem.1 h i j hi hj hlt k hk
  · exact (List.pairwise_iff_getElem.1 h j i hj hi (by omega)).symm k hk
/-- What a list may not share. -/
def Free (w : World) (p : Nat) (us : List Value) (v : Value) : Prop := ∀ k, v.ownBlock = some k → k < w.heap.size ∧ k ≠ p ∧ ∀ u ∈ us, u.ownBlock ≠ some k
/-- A load under another name: a region's walk leaves it where it stands, and takes it in the world at hand. -/
def opLd (t : TypeId) (x : Operand) : Op := Op.load t x
theorem opLd_is (t : TypeId) (x : Operand) : Op.load t x = opLd t x := rfl
theorem opLd_back (t : TypeId) (x : Operand) : opLd t x = Op.load t x := rfl
theorem row_kept {w w' : World} {p : Nat} {t : TypeId} {l : List Value} {ob : Obj} {row : Option Nat} (h : RowIs w p t l) (hg : (w.alloc ob).grownBy w' row) (hr : row ≠ some p) : RowIs w' p t l := by
  have hl := h.lt
  show w'.heap[p]? = _
  rw [hg.block p (by simp; omega) (fun e => hr e.symm), Below.heap_alloc _ _ _ hl]
  exact h
theorem cell_alloc9 {w : World} {g j : Nat} {u : Value} (h : w.cell? ⟨g, j, none⟩ = some u) (ob : Obj) : (w.alloc ob).cell? ⟨g, j, none⟩ = some u := by
  rw [World.cell?_of_block (a := ⟨g, j, none⟩) (Below.heap_alloc w ob g (World.block_lt_of_cell? w ⟨g, j, none⟩ h))]
  exact h
theorem own_form {w : World} {base m : Nat} {e : TypeId} {v : Value} {xs : List Value} (h : w.ownsRow base e 1 v m xs) : ∃ a c, v = .slice a m c := by
  have hl : xs.length = m := by have := h.1; omega
  have := (own_seen h).form
  rwa [hl] at this

/-- The two outer rows lie where they lay, or in new memory; the new copy lies in new memory. -/
def Olds (w : World) (vo wo vo' wo' u : Value) : Prop := ∀ k, k < w.heap.size → (vo'.ownBlock = some k → vo.ownBlock = some k) ∧ (wo'.ownBlock = some k → wo.ownBlock = some k) ∧ u.ownBlock ≠ some k

end Go.Proofs.YtjemklgfenciaaaGreat
