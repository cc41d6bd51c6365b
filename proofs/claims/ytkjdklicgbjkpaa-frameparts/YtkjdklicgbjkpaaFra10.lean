/-
  The law FrameParts over contracts of package frame: the plain part, and what it calls.
-/
import Derived.Test.YtkjdklicgbjkpaaFra7
import Derived.Test.YtkjdklicgbjkpaaBokT6
import Derived.Test.YtkjdklicgbjkpaaInts0
import Derived.Deep.Upon
namespace Go.Proofs.Ytkjdklicgbjkpaa
open Go.RowKit
set_option linter.unusedVariables false
set_option maxRecDepth 100000
set_option linter.unusedSimpArgs false

/-- The frames of the first k texts, one behind the other. -/
def allF (L : Nat → List UInt8) : Nat → ByteArray
  | 0 => ⟨#[]⟩
  | k + 1 => allF L k ++ putFS (str (L k))
theorem fr_all (L : Nat → List UInt8) : ∀ k : Nat, (∀ i, i < k → 1 ≤ (str (L i)).size ∧ (str (L i)).size ≤ 500) → framesS (allF L k) = (List.range k).map (fun i => str (L i)) ∧ leftS (allF L k) = ⟨#[]⟩ ∧ deadS (allF L k) = false ∧ (allF L k).size ≤ 502 * k
  | 0, _ => ⟨rfl, rfl, rfl, by rw [Nat.mul_zero]; exact Nat.le_refl _⟩
  | k + 1, h => by
    obtain ⟨h1, h2, h3, h4⟩ := fr_all L k (fun i hi => h i (by omega))
    have hk := h k (by omega)
    have e := fr_app (allF L k) (putFS (str (L k))) h3
    have p := fr_put1 (str (L k)) (by omega) (by omega)
    have z := (putFS_yes (str (L k)) (by omega) (by omega)).2.2
    rw [h2, none_cat, p.1, p.2.1, p.2.2, h1] at e
    refine ⟨?_, e.2.1, e.2.2, ?_⟩
    · rw [allF, e.1, List.range_succ, List.map_append]; rfl
    · rw [allF, ByteArray.size_append, z]; omega
theorem extract_two (a : ByteArray) (n : Nat) (h : n ≤ a.size) : a.extract 0 n ++ a.extract n a.size = a := by
  have hl : a.data.toList.length = a.size := by simp
  rw [← str_back (a.extract 0 n ++ a.extract n a.size), cat_list]
  simp only [ByteArray.data_extract, Array.toList_extract, List.extract, List.drop_zero, Nat.sub_zero]
  rw [List.take_of_length_le (l := a.data.toList.drop n) (by rw [List.length_drop]; omega), List.take_append_drop, str_back]
theorem extract_end (a : ByteArray) : a.extract a.size a.size = ⟨#[]⟩ := by
  apply ByteArray.ext
  apply Array.toList_inj.1
  rw [ByteArray.data_extract, Array.toList_extract]
  simp [List.extract]
theorem cat_assoc (a b c : ByteArray) : a ++ b ++ c = a ++ (b ++ c) := by
  rw [← str_back (a ++ b ++ c), ← str_back (a ++ (b ++ c)), cat_list, cat_list, cat_list, cat_list, List.append_assoc]
/-- Where a part ends. -/
theorem cut_at (x : Int) (N : Nat) (h : N ≤ 100000) : ∃ q : Nat, q ≤ N ∧ wrap64 ((N : Int) + 1) = (N : Int) + 1 ∧ wrap64 (x.tmod ((N : Int) + 1) + (N : Int)) = x.tmod ((N : Int) + 1) + (N : Int) ∧ wrap64 (x.tmod ((N : Int) + 1) + (N : Int) + 1) = x.tmod ((N : Int) + 1) + (N : Int) + 1 ∧ (x.tmod ((N : Int) + 1) + (N : Int) + 1).tmod ((N : Int) + 1) = (q : Int) := by
  have h2 : -((N : Int) + 1) < x.tmod ((N : Int) + 1) ∧ x.tmod ((N : Int) + 1) < (N : Int) + 1 := ⟨Int.lt_tmod_of_pos x (by omega), Int.tmod_lt_of_pos x (by omega)⟩
  generalize x.tmod ((N : Int) + 1) = r at *
  have h3 : 0 ≤ (r + (N : Int) + 1).tmod ((N : Int) + 1) ∧ (r + (N : Int) + 1).tmod ((N : Int) + 1) < (N : Int) + 1 := ⟨Int.tmod_nonneg _ (by omega), Int.tmod_lt_of_pos _ (by omega)⟩
  obtain ⟨q, hq⟩ := Int.eq_ofNat_of_zero_le h3.1
  exact ⟨q, by omega, IntWalk.wrap64_in _ ⟨by omega, by omega⟩, IntWalk.wrap64_in _ ⟨by omega, by omega⟩, IntWalk.wrap64_in _ ⟨by omega, by omega⟩, hq⟩
set_option maxHeartbeats 1000000 in
/-- Two lists that hold the same are alike, wherever they lie. -/
theorem book_sameTextsA (n ca cb : Nat) (X : Nat → List UInt8) (oa ob : Option Addr) (w : World) (ha : StrsAt w oa n X) (hb : StrsAt w ob n X) (hn : n ≤ 1000000) :
    Calls Try.prog 15 #[.slice oa n ca, .slice ob n cb] w fun e w' => e = .returned (.bool true) ∧ Below w.heap.size w w' := by
  have A : Hid (StrsAt w oa n X) := ha
  have B : Hid (StrsAt w ob n X) := hb
  clear ha hb
  go_enter Try.func15, Try.ntmps15
  go_wp2_with fail
  go_loopw [5] (fun i wr => ∃ k : Nat, k ≤ n ∧ i = .int .i64 k ∧ Below w.heap.size w wr) (fun i _ => n - (intOf i).toNat)
  case atStart => exact ⟨0, Nat.zero_le _, rfl, Below.refl _ _⟩
  case round =>
    obtain ⟨k, hk, rfl, hbel⟩ := hrel
    by_cases hlt : k < n
    · obtain ⟨g, o, rfl, c1⟩ := A.out.later hbel k hlt
      obtain ⟨g', o', rfl, c2⟩ := B.out.later hbel k hlt
      have d1 : decide ((k : Int) < (n : Int)) = true := by simp; omega
      have d2 : (k : Int) < (n : Int) := by omega
      have hself := str_beq_self (str (X k))
      generalize str (X k) = S at *
      go_wp2_with fail
      go_region
      go_wp2
      go_roundw
      case rel => exact ⟨k + 1, by omega, by go_num, hbel.drew⟩
      case measure => simp [intOf]; omega
    · have d1 : decide ((k : Int) < (n : Int)) = false := by simp; omega
      go_wp2
      go_ret
      exact ⟨rfl, hbel⟩
/-- A row of one's own, read as a slice that came in is. -/
theorem OwnT.strs {w : World} {base : Nat} {v : Value} {n : Nat} {L : Nat → List UInt8} (h : OwnT w base v ((List.range n).map (fun i => str (L i)))) : ∃ oa cap, v = .slice oa n cap ∧ StrsAt w oa n L := by
  by_cases hn : 0 < n
  · obtain ⟨g, cap, rfl, _, _⟩ := h.form (by simpa using hn)
    refine ⟨_, cap, by rw [List.length_map, List.length_range], fun i hi => ⟨g, 0, rfl, ?_⟩⟩
    have := h.cell (n := ((List.range n).map (fun i => str (L i))).length) rfl i (by simpa using hi)
    rw [Nat.zero_add, this]
    simp [List.getD_eq_getElem?_getD, hi]
  · obtain ⟨ao, cap, rfl⟩ := h.shape
    exact ⟨ao, cap, by rw [List.length_map, List.length_range], fun i hi => by omega⟩
theorem succ_ne9 (n : Nat) : ¬ ((n : Int) + 1 = 0) := by omega
/-- Nothing appended. -/
theorem wpList_append_none {P : Program} {ops : Array Oper} {rest : List Oper} {o : Oper} {a : Act} {Q : Exit → Act → World → Prop} {w : World} (hgd : o.guard = none) (s x : Operand) (t : TypeId)
    (ho : o.op = .call { callee := .builtin .append, args := #[s, x], argTypes := #[t, t] }) (v y : Value) (hs : a.eval s = v) (hx : a.eval x = y)
    (hrun : ∀ ty, (Builtin.append_ #[t, t] ty #[v, y]).run P w = .ok v w) (h : wpList P ops Q rest (a.put o.dst v) w) : wpList P ops Q (o :: rest) a w :=
  wpList_plain hgd fun K hK => by
    unfold Oper.wp execOp
    simp only [ho, resolve, invoke, builtin, Sem.run_bind, Sem.run_pure, Result.andThen_ok, List.map_toArray, List.map_cons, List.map_nil, hs, hx, hrun o.type]
    exact hK _ _ h
/-- The Reader beside the list of what it told. -/
def Got (K : FrameKeeps) (B p : Nat) (v : Value) (P : ByteArray) (w : World) : Prop :=
  ∃ bl, K.Rd w bl p (leftS P) false ∧ OwnT w B v (framesS P) ∧ deadS P = false ∧ ∀ j, bl j → v.ownBlock ≠ some j

end Go.Proofs.Ytkjdklicgbjkpaa
