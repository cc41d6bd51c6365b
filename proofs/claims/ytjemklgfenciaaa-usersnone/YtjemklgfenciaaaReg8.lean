/-
  A region that draws its order, whose last operation waits for all others, and turns memory. No program is named here.
-/
import Derived.Test.YtjemklgfenciaaaReg4
namespace Go.Proofs.Ytjemklgfenciaaa
open Go.RowKit
set_option linter.unusedVariables false
set_option maxRecDepth 100000
set_option linter.unusedSimpArgs false

section
variable {P : Program} {ops : Array Oper} {Q : Exit → Act → World → Prop}

theorem wp_region_Q {id m n q : Nat} {a0 : Act} {w0 : World} (l : List (Option Tmp × Op)) (W : List (List Nat)) (F : List (Value → World → Prop)) (R : World → Prop) (hm : P.follows .mixedOrders = true) (hok : regOk ops m = true) (hk : kinds ops = l) (hL : waitsL ops = W) (hn : l.length = n) (hsz : a0.tmps.size = m)
    (hqn : q < n) (hqa : ∀ L : Nat → Bool, (∀ i, i < n → L i = true → ∀ j ∈ W.getD i [], L j = true) → (∀ j ∈ W.getD q [], L j = true) → ∀ j, j < n → j ≠ q → L j = true)
    (hR0 : R w0.drew) (hRG : ∀ w w', R w → Below w.heap.size w w' → R w') (hF : KeptAll F)
    (hstep : ∀ i, i < n → i ≠ q → StepP P Q l W F R a0 i)
    (hlast : ∀ (o : Oper), o.dst = (l.getD q noOp).1 → o.op = (l.getD q noOp).2 → ∀ a w, R w → a.tmps.size = m → a.defers = a0.defers → (∀ t, some t ∉ l.map (·.1) → a.eval (.tmp t) = a0.eval (.tmp t)) →
      (∀ j, j < n → j ≠ q → F.getD j (fun _ _ => True) (laidAt a (l.getD j noOp).1) w) → o.wp P a w (fun a' w' => Q .normal a' w') Q) :
    (Code.region id ops true).wp P Q a0 w0 := by
  have hsize : ops.size = n := by
    have := congrArg List.length hk
    simp only [kinds, List.length_map, Array.length_toList] at this
    omega
  have hat : ∀ i (o : Oper), ops[i]? = some o → l.getD i noOp = (o.dst, o.op) ∧ i < n := fun i o ho => by
    have h1 : l[i]? = some (o.dst, o.op) := by
      rw [← hk]
      simp [kinds, ho]
    refine ⟨by rw [List.getD_eq_getElem?_getD, h1]; rfl, ?_⟩
    rw [← hn]
    exact (List.getElem?_eq_some_iff.1 h1).1
  have hall : ∀ (i : Nat), i < n → ∃ o : Oper, ops[i]? = some o ∧ l.getD i noOp = (o.dst, o.op) := fun i hi => by
    have hi' : i < ops.size := by omega
    exact ⟨ops[i], by simp [hi'], (hat i ops[i] (by simp [hi'])).1⟩
  have hWa : ∀ i j, j ∈ W.getD i [] → i < n → awaits .any ops i j = true ∧ j < n := fun i j hj hi => by
    rw [← hL, waitsL, List.getD_eq_getElem?_getD] at hj
    have hi2 : i < ops.size := by omega
    simp only [List.getElem?_map, List.getElem?_range hi2, Option.map_some, Option.getD_some, List.mem_filter, List.mem_range] at hj
    exact ⟨hj.2, by omega⟩
  have hok2 := hok
  unfold regOk at hok2
  simp only [Bool.and_eq_true] at hok2
  obtain ⟨⟨⟨hg, ht⟩, hnd⟩, hlt⟩ := hok2
  have hne : ∀ i j (oi oj : Oper) t, ops[i]? = some oi → ops[j]? = some oj → i ≠ j → oi.dst = some t → oj.dst ≠ some t := fun i j oi oj t hi hj hij hd he => by
    have h1 := List.all_eq_true.1 (List.all_eq_true.1 hnd i (List.mem_range.2 (Array.getElem?_eq_some_iff.1 hi).1)) j (List.mem_range.2 (Array.getElem?_eq_some_iff.1 hj).1)
    rw [hi, hj] at h1
    simp [hij, hd, he] at h1
  have hlt' : ∀ i (o : Oper) d, ops[i]? = some o → o.dst = some d → d < m := fun i o d ho hd => by
    have := Array.all_eq_true'.1 hlt o (Array.mem_of_getElem? ho)
    rw [hd] at this
    simpa using this
  refine wp_region_I (fun L a w => (∀ i, i < n → L i = true → ∀ j ∈ W.getD i [], L j = true) ∧ ((L q = false ∧ R w ∧ a.tmps.size = m ∧ a.defers = a0.defers ∧ (∀ t, some t ∉ l.map (·.1) → a.eval (.tmp t) = a0.eval (.tmp t)) ∧ ∀ j, j < n → L j = true → F.getD j (fun _ _ => True) (laidAt a (l.getD j noOp).1) w) ∨
    ((∀ j, j < n → L j = true) ∧ Q .normal a w))) hm hok ⟨fun i _ h => (by cases h), Or.inl ⟨rfl, hR0, hsz, rfl, fun _ _ => rfl, fun _ _ h => (by cases h)⟩⟩ ?_ ?_
  · intro i o L a w ho hLi haw hI
    obtain ⟨e1, hi⟩ := hat i o ho
    obtain ⟨hcl, hI⟩ := hI
    have hWL : ∀ j ∈ W.getD i [], L j = true := fun j hj => haw j (hWa i j hj hi).1
    have hcl2 : ∀ k, k < n → (k == i || L k) = true → ∀ j ∈ W.getD k [], (j == i || L j) = true := fun k hk hk2 j hj => by
      by_cases e : k = i
      · subst e
        rw [hWL j hj, Bool.or_true]
      · have : L k = true := by simpa [e] using hk2
        rw [hcl k hk this j hj, Bool.or_true]
    rcases hI with ⟨hq, hR, hsa, hda, hout, hJ⟩ | ⟨hA, _⟩
    · by_cases e : i = q
      · subst e
        have hA : ∀ j, j < n → j ≠ i → L j = true := hqa L hcl hWL
        refine Oper.wp_mono (fun a' w' hQ => ⟨hcl2, Or.inr ⟨fun j hj => ?_, hQ⟩⟩) (hlast o (by rw [e1]) (by rw [e1]) a w hR hsa hda hout (fun j hj hne => hJ j hj (hA j hj hne)))
        by_cases e : j = i
        · simp [e]
        · show (j == i || L j) = true
          rw [hA j hj e, Bool.or_true]
      · refine Oper.wp_mono ?_ (hstep i hi e o (by rw [e1]) (by rw [e1]) a w hR hout (fun j hj => hJ j (hWa i j hj hi).2 (hWL j hj)))
        rintro a' w' ⟨v, rfl, hB, hFi⟩
        have hdl : ∀ t, o.dst = some t → t < a.tmps.size := fun t hd => by rw [hsa]; exact hlt' i o t ho hd
        refine ⟨hcl2, Or.inl ⟨by simp [hq, Ne.symm e], hRG w w' hR hB, by rw [size_put, hsa], by rw [defers_put, hda], fun t hto => ?_, fun j hj hj2 => ?_⟩⟩
        · rw [← hout t hto]
          cases hd : o.dst with
          | none => rfl
          | some d => exact eval_put_ne (fun e => hto (by
              rw [← e, ← hd, ← hk]
              exact List.mem_map.2 ⟨(o.dst, o.op), by
                unfold kinds
                exact List.mem_map.2 ⟨o, by simpa using Array.mem_of_getElem? ho, rfl⟩, rfl⟩))
        · by_cases ej : j = i
          · subst ej
            rw [e1]
            show F.getD j (fun _ _ => True) (laidAt (a.put o.dst v) o.dst) w'
            rw [laid_put a o.dst v hdl]
            exact hFi
          · have hLj : L j = true := by simpa [ej] using hj2
            obtain ⟨oj, hoj, ej1⟩ := hall j hj
            have h1 := hJ j hj hLj
            rw [ej1] at h1 ⊢
            show F.getD j (fun _ _ => True) (laidAt (a.put o.dst v) oj.dst) w'
            rw [laid_ne a o.dst oj.dst v (fun t ht hd => hne j i oj o t hoj ho ej ht hd)]
            exact hF.at j _ w w' hB h1
    · exact absurd (hA i hi) (by rw [hLi]; decide)
  · intro L a w hA hI
    rcases hI.2 with ⟨hq, _⟩ | ⟨_, hQ⟩
    · exact absurd (hA q (by omega)) (by rw [hq]; decide)
    · exact hQ
end

end Go.Proofs.Ytjemklgfenciaaa
