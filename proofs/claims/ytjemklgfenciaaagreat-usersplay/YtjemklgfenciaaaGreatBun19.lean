/-
  Parts of this proof, one behind the other: UsrK0.
-/
import Derived.Test.YtjemklgfenciaaaGreatBun15
import Derived.Maps.OwnSet
import Derived.Sort.KeysCollected

/-
  The landed package users: what lies in memory.
-/
namespace Go.Proofs.YtjemklgfenciaaaGreat
open Go.RowKit
set_option linter.unusedVariables false
set_option maxRecDepth 100000
set_option linter.unusedSimpArgs false

def keyB (n : ByteArray) : Lit := .string n.data.toList
theorem keyB_inj {a b : ByteArray} (h : keyB a = keyB b) : a = b := by
  unfold keyB at h
  injection h with h
  exact ByteArray.ext (Array.toList_inj.1 h)
theorem keyB_ne {a b : ByteArray} (h : a ≠ b) : keyB a ≠ keyB b := fun e => h (keyB_inj e)
theorem keyB_lit (a : ByteArray) : WideAt.IsKeyLit (keyB a) := trivial
theorem keyB_of {n : ByteArray} (h : n.size ≤ maxLen) : keyOf Tryz.prog 9 (.string n) = some (keyB n) := by
  have hk : Tryz.prog.underlying 9 = some .string := Tryz.underlying9
  simp [keyOf, hk, mapKey, h, keyB]
/-- What an account's block holds. -/
def accRow (u : Usr) : List Value := [.string u.secret, .int .i64 (u.fails : Int), .int .u32 (if u.locked then 1 else 0), .int .i64 u.till]
/-- How a pointer to an account reads: by its block. -/
def RefB : Value → Option (DataW Unit × List MemPlace)
  | .pointer none => some (.nil, [])
  | .pointer (some a) => some (.lit (.int .i64 (a.block : Int)), [])
  | _ => none
/-- .. of those that begin their block. -/
def RefB0 (v : Value) : Option (DataW Unit × List MemPlace) :=
  match v with
  | .pointer none => some (.nil, [])
  | .pointer (some ⟨b, 0, none⟩) => some (.lit (.int .i64 (b : Int)), [])
  | _ => none
theorem refB_nil {v : Value} {ps : List MemPlace} (h : RefB0 v = some (.nil, ps)) : v = .pointer none := by
  unfold RefB0 at h
  split at h
  · rfl
  · injection h with h; injection h with h; cases h
  · cases h
theorem refB_at {v : Value} {ps : List MemPlace} {b : Nat} (h : RefB0 v = some (.lit (.int .i64 (b : Int)), ps)) : v = .pointer (some ⟨b, 0, none⟩) := by
  unfold RefB0 at h
  split at h
  · injection h with h; injection h with h; cases h
  · injection h with h; injection h with h _; injection h with h; injection h with _ h
    rw [Int.natCast_inj.1 h]
  · cases h
theorem refB_mk (b : Nat) : RefB0 (.pointer (some ⟨b, 0, none⟩)) = some (.lit (.int .i64 (b : Int)), []) := rfl

/-- A Users at p, its map in m, the i-th user's account in blk i. -/
structure StU (w : World) (p m nn : Nat) (D : DataW Unit) (blk : Nat → Nat) (B : List Usr) : Prop where
  hd : RowIs w p 64 [.map (some m)]
  mp : w.ownsMap Tryz.prog 9 RefB0 m nn D
  nn : nn ≤ 20
  no : ∀ n, hasU B n = false → Maps.has D (keyB n) = false
  yes : ∀ n, hasU B n = true → ∀ z, D.atKey (keyB n) z = .lit (.int .i64 (blk (idxU B n) : Int))
  rows : ∀ i u, B[i]? = some u → RowIs w (blk i) 76 (accRow u)
  pm : p ≠ m
  ap : ∀ i, i < B.length → blk i ≠ p ∧ blk i ≠ m
  apart : ∀ i j, i < B.length → j < B.length → i ≠ j → blk i ≠ blk j
  ok : UsersOk B
/-- The blocks that it lies in. -/
def blocksU (p m : Nat) (blk : Nat → Nat) (B : List Usr) (k : Nat) : Prop := k = p ∨ k = m ∨ ∃ i, i < B.length ∧ k = blk i
section
variable {w w' : World} {p m nn : Nat} {D : DataW Unit} {blk : Nat → Nat} {B : List Usr}
theorem StU.lt (h : StU w p m nn D blk B) (k : Nat) (hk : blocksU p m blk B k) : k < w.heap.size := by
  rcases hk with rfl | rfl | ⟨i, hi, rfl⟩
  · exact h.hd.lt
  · exact h.mp.lt
  · exact (h.rows i B[i] (by simp [hi])).lt
theorem StU.keep {S : Nat → Prop} (h : StU w p m nn D blk B) (ht : Touch S w w') (hn : ∀ k, blocksU p m blk B k → ¬ S k) : StU w' p m nn D blk B := by
  have hb : ∀ k, blocksU p m blk B k → w'.heap[k]? = w.heap[k]? := fun k hk => ht.block k (h.lt k hk) (hn k hk)
  refine ⟨?_, ?_, h.nn, h.no, h.yes, fun i u hi => ?_, h.pm, h.ap, h.apart, h.ok⟩
  · unfold RowIs; rw [hb p (Or.inl rfl)]; exact h.hd
  · obtain ⟨es, clock, hbl, r⟩ := h.mp
    exact ⟨es, clock, (hb m (Or.inr (Or.inl rfl))).trans hbl, r⟩
  · have hl : i < B.length := (List.getElem?_eq_some_iff.1 hi).1
    unfold RowIs; rw [hb (blk i) (Or.inr (Or.inr ⟨i, hl, rfl⟩))]; exact h.rows i u hi
theorem StU.below (h : StU w p m nn D blk B) (hb : Below w.heap.size w w') : StU w' p m nn D blk B := h.keep (Touch.of_below (S := fun _ => False) hb) (fun _ _ x => x)
/-- One account is turned. -/
theorem StU.put (h : StU w p m nn D blk B) {n : ByteArray} {u : Usr} (hh : hasU B n = true) (hu : u.name = n) (hs : u.secret = (atU B n).secret) (hf : u.fails < 3) (ht : Touch (fun k => k = blk (idxU B n)) w w')
    (hr : RowIs w' (blk (idxU B n)) 76 (accRow u)) : StU w' p m nn D blk (putU B n u) := by
  have hi := idxU_lt hh
  have hlen : (putU B n u).length = B.length := by unfold putU; rw [List.length_set]
  have hnm := names_put hh hu
  obtain ⟨a1, a2⟩ := h.ap _ hi
  have hb : ∀ k, k < w.heap.size → k ≠ blk (idxU B n) → w'.heap[k]? = w.heap[k]? := fun k hk hne => ht.block k hk hne
  refine ⟨?_, ?_, h.nn, fun x hx => h.no x (by rw [← (has_of_names hnm x).1]; exact hx), fun x hx z => ?_, fun i v hi2 => ?_, h.pm, fun i hi2 => h.ap i (by rw [← hlen]; exact hi2), fun i j hi2 hj2 => h.apart i j (by rw [← hlen]; exact hi2) (by rw [← hlen]; exact hj2), h.ok.put hh hu hs hf⟩
  · unfold RowIs; rw [hb p h.hd.lt a1.symm]; exact h.hd
  · have hl := h.mp.lt
    obtain ⟨es, clock, hbl, r⟩ := h.mp
    exact ⟨es, clock, (hb m hl a2.symm).trans hbl, r⟩
  · rw [(has_of_names hnm x).2]
    exact h.yes x (by rw [← (has_of_names hnm x).1]; exact hx) z
  · unfold putU at hi2
    by_cases e : idxU B n = i
    · subst e
      rw [List.getElem?_set_self hi] at hi2
      injection hi2 with hi2
      subst hi2
      exact hr
    · rw [List.getElem?_set_ne e] at hi2
      have hl : i < B.length := (List.getElem?_eq_some_iff.1 hi2).1
      have := h.rows i v hi2
      unfold RowIs
      rw [hb _ this.lt (fun e2 => h.apart _ _ hi hl e e2.symm)]
      exact this
theorem StU.row (h : StU w p m nn D blk B) {n : ByteArray} (hh : hasU B n = true) : RowIs w (blk (idxU B n)) 76 (accRow (atU B n)) := h.rows _ _ (atU_get hh)
theorem StU.touch (h : StU w p m nn D blk B) {n : ByteArray} (hh : hasU B n = true) (ht : Touch (fun k => k = blk (idxU B n)) w w') : Touch (blocksU p m blk B) w w' :=
  ht.mono (fun k _ hk => Or.inr (Or.inr ⟨_, idxU_lt hh, hk⟩))
theorem StU.fewer (h : StU w p m nn D blk B) {n : ByteArray} (hh : hasU B n = true) : (atU B n).fails < 3 := (h.ok.each _ (List.mem_of_getElem? (atU_get hh))).2
end

theorem usersOk_prefix {A C : List (ByteArray × ByteArray)} (h : usersOk (A ++ C) = true) : usersOk A = true := by
  unfold usersOk at *
  simp only [Bool.and_eq_true, decide_eq_true_eq, List.length_append, List.all_append, List.map_append, nodupL_iff] at *
  obtain ⟨⟨h1, h2, _⟩, h3⟩ := h
  exact ⟨⟨by omega, h2⟩, (List.nodup_append.1 h3).1⟩
theorem usersOk_snoc {A : List (ByteArray × ByteArray)} {x : (ByteArray × ByteArray)} (h : usersOk A = true) (hl : A.length < 20) : usersOk (A ++ [x]) = (userOkU x.1 x.2 && !hasU (freshU A) x.1) := by
  have hn : namesU (freshU A) = A.map Prod.fst := by unfold namesU freshU; rw [List.map_map]; rfl
  have hh : hasU (freshU A) x.1 = hasL (A.map Prod.fst) x.1 := by unfold hasU; rw [hn]
  rw [hh]
  rw [Bool.eq_iff_iff]
  unfold usersOk at *
  simp only [Bool.and_eq_true, decide_eq_true_eq, List.length_append, List.length_singleton, List.all_append, List.map_append, nodupL_iff, List.all_cons, List.all_nil, List.map_cons, List.map_nil, Bool.not_eq_true'] at *
  obtain ⟨⟨h1, h2⟩, h3⟩ := h
  have hf : hasL (A.map Prod.fst) x.1 = false ↔ x.1 ∉ A.map Prod.fst := by rw [← hasL_iff]; cases hasL (A.map Prod.fst) x.1 <;> simp
  rw [hf]
  constructor
  · rintro ⟨⟨_, _, h4, _⟩, h5⟩
    refine ⟨h4, fun hm => ?_⟩
    exact (List.nodup_append.1 h5).2.2 _ hm _ (by simp) rfl
  · rintro ⟨h4, h5⟩
    exact ⟨⟨by omega, h2, h4, trivial⟩, List.nodup_append.2 ⟨h3, by simp, fun a ha b hb => by simp at hb; subst hb; exact fun e => h5 (e ▸ ha)⟩⟩
/-- One user more. -/
theorem has_snoc (B : List Usr) (u : Usr) (n : ByteArray) : hasU (B ++ [u]) n = (hasU B n || decide (u.name = n)) := by
  rw [Bool.eq_iff_iff]
  unfold hasU namesU
  rw [hasL_iff, Bool.or_eq_true, hasL_iff, decide_eq_true_eq, List.map_append, List.mem_append]
  simp [eq_comm]
theorem idxL_append : ∀ (l r : List ByteArray) (n : ByteArray), hasL l n = true → idxL (l ++ r) n = idxL l n
  | [], _, _, h => by simp [hasL] at h
  | x :: l, r, n, h => by
    unfold hasL at h
    show (if x = n then 0 else idxL (l ++ r) n + 1) = (if x = n then 0 else idxL l n + 1)
    by_cases e : x = n
    · rw [if_pos e, if_pos e]
    · rw [if_neg e] at h ⊢
      rw [if_neg e, idxL_append l r n h]
theorem idxL_new : ∀ (l : List ByteArray) (n : ByteArray), hasL l n = false → idxL (l ++ [n]) n = l.length
  | [], n, _ => by simp [idxL]
  | x :: l, n, h => by
    unfold hasL at h
    show (if x = n then 0 else idxL (l ++ [n]) n + 1) = l.length + 1
    by_cases e : x = n
    · rw [if_pos e] at h; cases h
    · rw [if_neg e] at h ⊢
      rw [idxL_new l n h]
theorem idx_snoc {B : List Usr} {u : Usr} {n : ByteArray} (h : hasU B n = true) : idxU (B ++ [u]) n = idxU B n := by
  unfold idxU namesU
  rw [List.map_append]
  exact idxL_append _ _ _ h
theorem idx_new {B : List Usr} {u : Usr} (h : hasU B u.name = false) : idxU (B ++ [u]) u.name = B.length := by
  unfold idxU namesU
  rw [List.map_append]
  have := idxL_new (B.map Usr.name) u.name h
  rw [List.length_map] at this
  exact this
theorem freshU_snoc (A : List (ByteArray × ByteArray)) (x : (ByteArray × ByteArray)) : freshU (A ++ [x]) = freshU A ++ [⟨x.1, x.2, 0, false, 0⟩] := by unfold freshU; rw [List.map_append]; rfl
theorem listU_succ (X : Nat → (ByteArray × ByteArray)) (k : Nat) : listU X (k + 1) = listU X k ++ [X k] := by unfold listU; rw [List.range_succ, List.map_append]; rfl
theorem listU_lenK (X : Nat → (ByteArray × ByteArray)) (k : Nat) : (listU X k).length = k := by unfold listU; simp
theorem listU_take (X : Nat → (ByteArray × ByteArray)) {k n : Nat} (h : k ≤ n) : ∃ C, listU X n = listU X k ++ C := by
  refine ⟨(listU X n).drop k, ?_⟩
  have : listU X k = (listU X n).take k := by unfold listU; rw [← List.map_take, List.take_range, Nat.min_eq_left h]
  rw [this, List.take_append_drop]
/-- A user is put into the map. -/
theorem StU.snoc {w w' w2 : World} {p m nn : Nat} {D : DataW Unit} {blk : Nat → Nat} {B : List Usr} {u : Usr} {q : Nat} (h : StU w p m nn D blk B) (hnn : nn < 20) (hnew : hasU B u.name = false) (hok : UsersOk (B ++ [u])) (hq : w.heap.size ≤ q)
    (hb : Below w.heap.size w w') (hr : RowIs w' q 76 (accRow u)) (hm : w2.ownsMap Tryz.prog 9 RefB0 m (nn + 1) (D.put (keyB u.name) (.lit (.int .i64 (q : Int))))) (hg : w'.grownBy w2 (some m)) :
    StU w2 p m (nn + 1) (D.put (keyB u.name) (.lit (.int .i64 (q : Int)))) (fun i => if i < B.length then blk i else q) (B ++ [u]) := by
  have hisD : Maps.IsMap D := h.mp.isMap
  have hml := h.mp.lt
  have hlt := h.lt
  have hblk : ∀ k, k < w'.heap.size → k ≠ m → w2.heap[k]? = w'.heap[k]? := fun k hk hne => hg.block k hk (fun e => hne (Option.some.inj e))
  have h' := h.below hb
  refine ⟨?_, hm, by omega, fun n hn => ?_, fun n hn z => ?_, fun i v hi => ?_, h.pm, fun i hi => ?_, fun i j hi hj hij => ?_, hok⟩
  · unfold RowIs; rw [hblk p h'.hd.lt h.pm]; exact h'.hd
  · rw [has_snoc, Bool.or_eq_false_iff] at hn
    have hne : n ≠ u.name := fun e => by have := hn.2; rw [e] at this; simp at this
    rw [Maps.has_put_other (keyB_ne hne)]
    exact h.no n hn.1
  · by_cases e : n = u.name
    · subst e
      rw [Maps.atKey_put_same hisD (keyB_lit _), idx_new hnew, if_neg (Nat.lt_irrefl _)]
    · have hn1 : hasU B n = true := by
        rw [has_snoc, Bool.or_eq_true] at hn
        rcases hn with hn | hn
        · exact hn
        · exact absurd (of_decide_eq_true hn).symm e
      rw [Maps.atKey_put_other (keyB_ne e), idx_snoc hn1, if_pos (idxU_lt hn1)]
      exact h.yes n hn1 z
  · have hil : i < (B ++ [u]).length := (List.getElem?_eq_some_iff.1 hi).1
    rw [List.length_append, List.length_singleton] at hil
    by_cases e : i < B.length
    · rw [List.getElem?_append_left e] at hi
      have h1 := h'.rows i v hi
      show RowIs w2 (if i < B.length then blk i else q) _ _
      rw [if_pos e]
      unfold RowIs
      rw [hblk _ h1.lt (h.ap i e).2]
      exact h1
    · have e2 : i = B.length := by omega
      subst e2
      rw [List.getElem?_append_right (Nat.le_refl _), Nat.sub_self] at hi
      injection hi with hi
      subst hi
      show RowIs w2 (if B.length < B.length then blk B.length else q) _ _
      rw [if_neg (Nat.lt_irrefl _)]
      unfold RowIs
      rw [hblk _ hr.lt (by omega)]
      exact hr
  · rw [List.length_append, List.length_singleton] at hi
    show (if i < B.length then blk i else q) ≠ p ∧ (if i < B.length then blk i else q) ≠ m
    by_cases e : i < B.length
    · rw [if_pos e]; exact h.ap i e
    · rw [if_neg e]
      have := h.hd.lt
      exact ⟨by omega, by omega⟩
  · rw [List.length_append, List.length_singleton] at hi hj
    show (if i < B.length then blk i else q) ≠ (if j < B.length then blk j else q)
    by_cases ei : i < B.length
    · rw [if_pos ei]
      by_cases ej : j < B.length
      · rw [if_pos ej]; exact h.apart i j ei ej hij
      · rw [if_neg ej]
        have := hlt (blk i) (Or.inr (Or.inr ⟨i, ei, rfl⟩))
        omega
    · rw [if_neg ei]
      by_cases ej : j < B.length
      · rw [if_pos ej]
        have := hlt (blk j) (Or.inr (Or.inr ⟨j, ej, rfl⟩))
        omega
      · omega

end Go.Proofs.YtjemklgfenciaaaGreat
