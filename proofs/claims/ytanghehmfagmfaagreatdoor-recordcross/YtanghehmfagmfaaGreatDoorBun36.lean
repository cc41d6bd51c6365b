/-
  Parts of this proof, one behind the other: Rec13.
-/
import Derived.Test.YtanghehmfagmfaaGreatDoorBun33
import Derived.Test.YtanghehmfagmfaaGreatDoorBun35
import Derived.Test.YtanghehmfagmfaaGreatDoorBun26
import Derived.Test.YtanghehmfagmfaaGreatDoorBun4

/-
  The reference's In in memory, and where a number waits in it.
-/
namespace Go.Proofs.YtanghehmfagmfaaGreatDoor
open Go.RowKit
set_option linter.unusedVariables false
set_option maxRecDepth 100000
set_option linter.unusedSimpArgs false

def refRow (s : InS) (vs vt : Value) : List Value := [.string s.key, .int .i64 (s.next : Int), vs, vt]
def seqsOf (W : Wait) : List Int := W.map fun p => (p.1 : Int)
def txtsOf (W : Wait) : List ByteArray := W.map Prod.snd
theorem seqsOf_len (W : Wait) : (seqsOf W).length = W.length := by simp [seqsOf]
theorem txtsOf_len (W : Wait) : (txtsOf W).length = W.length := by simp [txtsOf]
theorem seqsOf_at (W : Wait) (j : Nat) (h : j < W.length) : (seqsOf W).getD j 0 = (((W.getD j (0, ⟨#[]⟩)).1 : Nat) : Int) := by
  unfold seqsOf
  rw [List.getD_eq_getElem?_getD, List.getD_eq_getElem?_getD, List.getElem?_map, List.getElem?_eq_getElem h]
  rfl
theorem txtsOf_at (W : Wait) (j : Nat) (h : j < W.length) : (txtsOf W).getD j ⟨#[]⟩ = (W.getD j (0, ⟨#[]⟩)).2 := by
  unfold txtsOf
  rw [List.getD_eq_getElem?_getD, List.getD_eq_getElem?_getD, List.getElem?_map, List.getElem?_eq_getElem h]
  rfl
/-- At r lies the reference's In, its two lists apart from it. -/
structure RefIs (w : World) (r : Nat) (s : InS) (vs vt : Value) : Prop where
  row : RowIs w r 33 (refRow s vs vt)
  seqs : OwnI w 0 vs (seqsOf s.W)
  txts : OwnT w 0 vt (txtsOf s.W)
  offS : vs.ownBlock ≠ some r
  offT : vt.ownBlock ≠ some r
theorem RefIs.keep {S : Nat → Prop} {w w' : World} {r : Nat} {s : InS} {vs vt : Value} (h : RefIs w r s vs vt) (ht : Touch S w w') (hn : ∀ k, (k = r ∨ vs.ownBlock = some k ∨ vt.ownBlock = some k) → ¬ S k) : RefIs w' r s vs vt := by
  refine ⟨?_, own_touch h.seqs ht (fun k hk => hn k (Or.inr (Or.inl hk))), own_touch h.txts ht (fun k hk => hn k (Or.inr (Or.inr hk))), h.offS, h.offT⟩
  show w'.heap[r]? = _
  rw [ht.block r h.row.lt (hn r (Or.inl rfl))]
  exact h.row
theorem RefIs.below {w w' : World} {r : Nat} {s : InS} {vs vt : Value} (h : RefIs w r s vs vt) (hb : Below w.heap.size w w') : RefIs w' r s vs vt := h.keep (Touch.of_below (S := fun _ => False) hb) (fun _ _ x => x)
theorem at_found {W : Wait} {n k : Nat} (hk : k < W.length) (h1 : ∀ j, j < k → (W.getD j (0, ⟨#[]⟩)).1 ≠ n) (h2 : (W.getD k (0, ⟨#[]⟩)).1 = n) : hasW W n = true ∧ atW W n = k := by
  have hm : W.getD k (0, ⟨#[]⟩) ∈ W := by
    rw [List.getD_eq_getElem?_getD, List.getElem?_eq_getElem hk]
    exact List.getElem_mem _
  have hh : hasW W n = true := (hasW_iff W n).2 ⟨_, hm, h2⟩
  refine ⟨hh, ?_⟩
  have ha := atW_is hh
  rcases Nat.lt_trichotomy (atW W n) k with h | h | h
  · exact absurd ha (h1 _ h)
  · exact h
  · exfalso
    have h3 : k < (W.map Prod.fst).findIdx (· == n) := h
    have h4 := List.not_of_lt_findIdx h3
    rw [List.getElem_map] at h4
    rw [List.getD_eq_getElem?_getD, List.getElem?_eq_getElem hk] at h2
    have h5 : (W[k]'hk).1 = n := h2
    rw [h5] at h4
    simp at h4
theorem at_none {W : Wait} {n : Nat} (h1 : ∀ j, j < W.length → (W.getD j (0, ⟨#[]⟩)).1 ≠ n) : hasW W n = false := by
  cases hh : hasW W n with
  | false => rfl
  | true => exact absurd (atW_is hh) (h1 _ (atW_lt hh))
/-- Where a number waits; -1. -/
def idxW (W : Wait) (n : Nat) : Int := if hasW W n then (atW W n : Int) else -1

set_option maxHeartbeats 1000000 in
theorem ref_at (r n : Nat) (s : InS) (vs vt : Value) (w : World) (h : RefIs w r s vs vt) (hl : s.W.length ≤ 1000) :
    Calls Tryz.prog 49 #[.pointer (some ⟨r, 0, none⟩), .int .i64 (n : Int)] w fun e w' => e = .returned (.int .i64 (idxW s.W n)) ∧ w' = w := by
  have c2 : w.cell? ⟨r, 2, none⟩ = some vs := h.row.cellAt rfl
  obtain ⟨ao, cap, rfl⟩ := h.seqs.shape
  rw [seqsOf_len] at c2
  have HO : Hid (OwnI w 0 (.slice ao s.W.length cap) (seqsOf s.W)) := by
    have := h.seqs
    rw [seqsOf_len] at this
    exact this
  have HF : Hid (∀ k, k < s.W.length → (∀ j, j < k → (s.W.getD j (0, ⟨#[]⟩)).1 ≠ n) → (s.W.getD k (0, ⟨#[]⟩)).1 = n → idxW s.W n = (k : Int)) := fun k hk h1 h2 => by
    obtain ⟨a, b⟩ := at_found hk h1 h2
    unfold idxW
    rw [a, b]; rfl
  have HN : Hid ((∀ j, j < s.W.length → (s.W.getD j (0, ⟨#[]⟩)).1 ≠ n) → idxW s.W n = -1) := fun h1 => by
    unfold idxW
    rw [at_none h1]; rfl
  have HA : Hid _ := fun j hj => seqsOf_at s.W j hj
  have HLn : Hid _ := seqsOf_len s.W
  generalize idxW s.W n = I at *
  generalize s.W = W at *
  clear h
  obtain ⟨N, hN⟩ : ∃ N, W.length = N := ⟨_, rfl⟩
  rw [hN] at c2 HO HF HN HA hl HLn
  go_enter Tryz.func49, Tryz.ntmps49
  go_wp2_with fail
  go_loopw [5] (fun i wr => ∃ k : Nat, k ≤ N ∧ i = .int .i64 k ∧ Hid (∀ j, j < k → (W.getD j (0, ⟨#[]⟩)).1 ≠ n) ∧ wr = w) (fun i _ => N - (intOf i).toNat)
  case atStart => exact ⟨0, Nat.zero_le _, rfl, fun j hj => absurd hj (Nat.not_lt_zero _), rfl⟩
  case round =>
    obtain ⟨k, hk, rfl, hj, rfl⟩ := hrel
    by_cases hlt : k < N
    · have dlt : decide ((k : Int) < (N : Int)) = true := decide_eq_true (by omega)
      obtain ⟨g, cp, e7, _, _⟩ := HO.out.form (by rw [HLn.out]; omega)
      rw [HLn.out] at e7
      injection e7 with x1 x2 x3
      subst x1 x3
      have ck := HO.out.cell HLn.out.symm k (by rw [HLn.out]; omega)
      rw [HA.out k hlt] at ck
      have i0 : (0 : Int) ≤ (k : Int) := by omega
      have i1 : (k : Int) < (N : Int) := by omega
      by_cases he : (W.getD k (0, ⟨#[]⟩)).1 = n
      · have hI := HF.out k hlt hj.out he
        rw [he] at ck
        clear he hj HA HF HN x2
        subst hI
        go_wp2
        go_ret
        exact ⟨rfl, rfl⟩
      · have d1 : ((((W.getD k (0, ⟨#[]⟩)).1 : Nat) : Int) == (n : Int)) = false := beq_eq_false_iff_ne.2 (by omega)
        have hnext : Hid (∀ j, j < k + 1 → (W.getD j (0, ⟨#[]⟩)).1 ≠ n) := fun j hj2 => by
          by_cases e : j = k
          · subst e; exact he
          · exact hj.out j (by omega)
        clear he hj HA HF HN x2
        generalize (W.getD k (0, ⟨#[]⟩)).1 = q at *
        go_wp2
        go_roundw
        case rel => exact ⟨k + 1, by omega, by go_num, hnext, by first | rfl | trivial⟩
        case measure => simp [intOf]; omega
    · obtain rfl : k = N := by omega
      have dlt : decide ((k : Int) < (k : Int)) = false := by simp
      have hI := HN.out hj.out
      clear HF HN HA hj
      subst hI
      go_wp2
      go_ret
      exact ⟨rfl, rfl⟩

end Go.Proofs.YtanghehmfagmfaaGreatDoor
