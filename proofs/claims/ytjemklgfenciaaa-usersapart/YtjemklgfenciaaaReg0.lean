/-
  A region that draws its order, whose operations lay memory of their own or only read: each operation has a fact that it leaves behind it, in whatever order they come up. No program is named here.
-/
import Derived.Test.YtjemklgfenciaaaTake0
namespace Go.Proofs.Ytjemklgfenciaaa
open Go.RowKit
set_option linter.unusedVariables false
set_option maxRecDepth 100000
set_option linter.unusedSimpArgs false

section
variable {P : Program} {ops : Array Oper} {Q : Exit → Act → World → Prop}

/-- What is in the place where an operation lays its value. -/
def laidAt (a : Act) (d : Option Tmp) : Value :=
  match d with
  | some t => a.eval (.tmp t)
  | none => undef
def dsts (ops : Array Oper) : List (Option Tmp) := ops.toList.map (·.dst)
def waitsL (ops : Array Oper) : List (List Nat) := (List.range ops.size).map fun i => (List.range ops.size).filter fun j => awaits .any ops i j
/-- No operation is guarded; each waits for earlier ones alone; no two lay their values in one place. -/
def regOk (ops : Array Oper) (m : Nat) : Bool :=
  (ops.all fun o => o.guard.isNone) && ((List.range ops.size).all fun i => (ops[i]?).all fun o => o.after.all fun e => !Region.binds .any e || decide (e.on < i)) &&
  ((List.range ops.size).all fun i => (List.range ops.size).all fun j => i == j || (ops[i]?).all fun x => (ops[j]?).all fun y => x.dst.isNone || x.dst != y.dst) && (ops.all fun o => o.dst.all fun d => decide (d < m))
def keepIf (d : Option Tmp) (v : Value) : Value :=
  match d with
  | some _ => v
  | none => undef

theorem ready_nil (hok : ((List.range ops.size).all fun i => (ops[i]?).all fun o => o.after.all fun e => !Region.binds .any e || decide (e.on < i)) = true) {listed : Array Bool} (hs : listed.size = ops.size) (h : Region.ready .any ops listed = []) :
    ∀ i, i < ops.size → listed.getD i false = true := by
  intro i
  induction i using Nat.strongRecOn with
  | _ i ih =>
    intro hi
    cases hl : listed.getD i false with
    | true => rfl
    | false =>
      exfalso
      have hmem : i ∈ Region.ready .any ops listed := by
        refine mem_ready.2 ⟨?_, ops[i], by simp [hi], ?_⟩
        · simp [hs, hi] at hl ⊢; exact hl
        · intro e he hb
          have h1 := List.all_eq_true.1 hok i (List.mem_range.2 hi)
          simp only [Array.getElem?_eq_getElem hi, Option.all_some, Array.all_eq_true'] at h1
          have h2 := h1 e he
          rw [hb] at h2
          simp only [Bool.not_true, Bool.false_or, decide_eq_true_eq] at h2
          exact ih e.on h2 (by omega)
      rw [h] at hmem
      cases hmem

theorem count_set {l : List Bool} {i : Nat} (h : l[i]? = some false) : (l.set i true).count false + 1 = l.count false := by
  induction l generalizing i with
  | nil => simp at h
  | cons x l ih =>
    cases i with
    | zero => simp at h; subst h; simp
    | succ i =>
      simp at h
      have := ih h
      simp only [List.set_cons_succ, List.count_cons]
      omega
theorem count_zero {l : List Bool} (h : l.count false = 0) (i : Nat) (hi : i < l.length) : l[i]? = some true := by
  rw [List.count_eq_zero] at h
  cases hb : l[i] with
  | true => simp [hb, hi]
  | false => exact absurd (hb ▸ List.getElem_mem hi) h

theorem wp_region_J {id m : Nat} {a0 : Act} {w0 : World} (R : World → Prop) (G : World → World → Prop) (J : Nat → Value → World → Prop) (hm : P.follows .mixedOrders = true) (hok : regOk ops m = true) (hsz : a0.tmps.size = m)
    (hR0 : R w0.drew) (hRG : ∀ w w', R w → G w w' → R w') (hJG : ∀ i v w w', G w w' → J i v w → J i v w')
    (hstep : ∀ i (o : Oper), ops[i]? = some o → ∀ a w, R w → (∀ t, some t ∉ dsts ops → a.eval (.tmp t) = a0.eval (.tmp t)) → (∀ j (oj : Oper), ops[j]? = some oj → awaits .any ops i j = true → J j (laidAt a oj.dst) w) →
      o.wp P a w (fun a' w' => ∃ v, a' = a.put o.dst v ∧ G w w' ∧ J i (keepIf o.dst v) w') Q)
    (hend : ∀ a w, R w → a.tmps.size = m → a.defers = a0.defers → (∀ t, some t ∉ dsts ops → a.eval (.tmp t) = a0.eval (.tmp t)) → (∀ j (oj : Oper), ops[j]? = some oj → J j (laidAt a oj.dst) w) → Q .normal a w) :
    (Code.region id ops true).wp P Q a0 w0 := by
  unfold regOk at hok
  simp only [Bool.and_eq_true] at hok
  obtain ⟨⟨⟨hg, ht⟩, hnd⟩, hlt⟩ := hok
  have hpl : ∀ i (o : Oper), ops[i]? = some o → o.guard = none := fun i o ho => by
    have := Array.all_eq_true'.1 hg o (Array.mem_of_getElem? ho)
    simpa using this
  have hlt' : ∀ i (o : Oper) d, ops[i]? = some o → o.dst = some d → d < m := fun i o d ho hd => by
    have := Array.all_eq_true'.1 hlt o (Array.mem_of_getElem? ho)
    rw [hd] at this
    simpa using this
  have hne : ∀ i j (oi oj : Oper) t, ops[i]? = some oi → ops[j]? = some oj → i ≠ j → oi.dst = some t → oj.dst ≠ some t := fun i j oi oj t hi hj hij hd he => by
    have h1 := List.all_eq_true.1 (List.all_eq_true.1 hnd i (List.mem_range.2 (Array.getElem?_eq_some_iff.1 hi).1)) j (List.mem_range.2 (Array.getElem?_eq_some_iff.1 hj).1)
    rw [hi, hj] at h1
    simp [hij, hd, he] at h1
  refine wp_region_any hm ?_
  have key : ∀ (fuel : Nat) (listed : Array Bool) (a : Act) (w : World), listed.size = ops.size → (listed.toList.count false = fuel) →
      R w → a.tmps.size = m → a.defers = a0.defers → (∀ t, some t ∉ dsts ops → a.eval (.tmp t) = a0.eval (.tmp t)) → (∀ j (oj : Oper), ops[j]? = some oj → listed.getD j false = true → J j (laidAt a oj.dst) w) →
      wpAny P .any ops Q fuel listed a w := by
    intro fuel
    induction fuel with
    | zero =>
      intro listed a w hs hc hR hsa hda hout hJ
      have hall : ∀ i, i < ops.size → listed.getD i false = true := fun i hi => by
        have := count_zero hc i (by simpa [hs] using hi)
        simp only [Array.getElem?_toList] at this
        simp [this]
      refine ⟨?_, hend a w hR hsa hda hout (fun j oj hj => hJ j oj hj (hall j (Array.getElem?_eq_some_iff.1 hj).1))⟩
      cases hr : Region.ready .any ops listed with
      | nil => rfl
      | cons i r =>
        have hi : i ∈ Region.ready .any ops listed := by rw [hr]; simp
        obtain ⟨h1, oi, hoi, _⟩ := mem_ready.1 hi
        have h2 := hall i (Array.getElem?_eq_some_iff.1 hoi).1
        have h3 : i < listed.size := by rw [hs]; exact (Array.getElem?_eq_some_iff.1 hoi).1
        simp [h3] at h1 h2
        rw [h1] at h2; cases h2
    | succ fuel ih =>
      intro listed a w hs hc hR hsa hda hout hJ
      refine ⟨fun hr => hend a w hR hsa hda hout (fun j oj hj => hJ j oj hj (ready_nil ht hs hr j (Array.getElem?_eq_some_iff.1 hj).1)), fun i hi => ?_⟩
      obtain ⟨h1, oi, hoi, hall⟩ := mem_ready.1 hi
      have hil : i < listed.size := by rw [hs]; exact (Array.getElem?_eq_some_iff.1 hoi).1
      have hf : listed.toList[i]? = some false := by
        simp [hil] at h1
        simp [hil, h1]
      unfold wpOp
      simp only [hoi, wanted_plain (hpl i oi hoi), if_true]
      refine Or.inl (Oper.wp_mono ?_ (hstep i oi hoi a w hR hout (fun j oj hj haw => hJ j oj hj ?_)))
      · rintro a' w' ⟨v, rfl, hG, hJi⟩
        refine ih (listed.setIfInBounds i true) (a.put oi.dst v) w' (by simp [hs]) ?_ (hRG w w' hR hG) (by rw [size_put, hsa]) (by rw [defers_put, hda]) ?_ ?_
        · have := count_set hf
          rw [Array.toList_setIfInBounds]
          omega
        · intro t hto
          rw [← hout t hto]
          cases hd : oi.dst with
          | none => rfl
          | some d => exact eval_put_ne (fun e => hto (by rw [← e, ← hd]; exact List.mem_map.2 ⟨oi, by simpa using Array.mem_of_getElem? hoi, rfl⟩))
        · intro j oj hj hlj
          by_cases hji : j = i
          · subst hji
            have e : oj = oi := by rw [hoi] at hj; exact (Option.some.inj hj).symm
            subst e
            cases hd : oj.dst with
            | none => rw [hd] at hJi; exact hJi
            | some d =>
              rw [hd] at hJi
              show J j ((a.put (some d) v).eval (.tmp d)) w'
              rw [eval_put, if_pos ⟨rfl, by rw [hsa]; exact hlt' j oj d hj hd⟩]
              exact hJi
          · have hlj' : listed.getD j false = true := by
              rw [getD_set_ne false (Ne.symm hji)] at hlj; exact hlj
            have h4 := hJG j _ w w' hG (hJ j oj hj hlj')
            have e : laidAt (a.put oi.dst v) oj.dst = laidAt a oj.dst := by
              cases hd : oj.dst with
              | none => rfl
              | some t =>
                cases hd2 : oi.dst with
                | none => rfl
                | some d => exact eval_put_ne (fun e => hne j i oj oi t hj hoi hji hd (by rw [hd2, e]))
            rw [e]
            exact h4
      · simp only [awaits, hoi] at haw
        obtain ⟨e, he, hb⟩ := Array.any_eq_true'.1 haw
        simp only [Bool.and_eq_true, beq_iff_eq] at hb
        have := hall e he hb.1
        rw [hb.2] at this
        exact this
  exact key _ _ _ _ (by simp) (by simp) hR0 hsz rfl (fun _ _ => rfl) (fun j oj hj hl => by
    have := (Array.getElem?_eq_some_iff.1 hj).1
    simp [this] at hl)
end
end Go.Proofs.Ytjemklgfenciaaa
