/-
  A region that draws its order, in which one operation turns memory (an append) and a later one stores what it gave: what is known ahead of the first, between the two, and behind the second. No program is named here.
-/
import Derived.Test.YtjemklgfenciaaaReg3
namespace Go.Proofs.Ytjemklgfenciaaa
open Go.RowKit
set_option linter.unusedVariables false
set_option maxRecDepth 100000
set_option linter.unusedSimpArgs false

section
variable {P : Program} {ops : Array Oper} {Q : Exit → Act → World → Prop}

theorem laid_put (a : Act) (d : Option Tmp) (v : Value) (h : ∀ t, d = some t → t < a.tmps.size) : laidAt (a.put d v) d = keepIf d v := by
  cases hd : d with
  | none => rfl
  | some t =>
    show (a.put (some t) v).eval (.tmp t) = v
    rw [eval_put, if_pos ⟨rfl, h t hd⟩]
theorem laid_ne (a : Act) (d e : Option Tmp) (v : Value) (h : ∀ t, e = some t → d ≠ some t) : laidAt (a.put d v) e = laidAt a e := by
  cases he : e with
  | none => rfl
  | some t =>
    cases hd : d with
    | none => rfl
    | some s => exact eval_put_ne (fun e' => h t he (by rw [hd, e']))
theorem ex_v {p : Prop} (h : ∃ _ : World, p) : p := h.elim fun _ e => e

/-- An operation that only computes: from the facts that those it waits for have left, its own, in whatever world. -/
def StepV (P : Program) (Q : Exit → Act → World → Prop) (l : List (Option Tmp × Op)) (W : List (List Nat)) (F : List (Value → World → Prop)) (a0 : Act) (p i : Nat) : Prop :=
  ∀ (o : Oper), o.dst = (l.getD i noOp).1 → o.op = (l.getD i noOp).2 → ∀ a w, (∀ t, some t ∉ l.map (·.1) → a.eval (.tmp t) = a0.eval (.tmp t)) →
    (∀ j ∈ W.getD i [], j ≠ p → ∃ w', F.getD j (fun _ _ => True) (laidAt a (l.getD j noOp).1) w') →
    o.wp P a w (fun a' w' => ∃ v, a' = a.put o.dst v ∧ w = w' ∧ ∃ w'', F.getD i (fun _ _ => True) (keepIf o.dst v) w'') Q
theorem st_w {o : Oper} {a : Act} {w : World} {d : Tmp} {v : Value} {f : Value → World → Prop} (hd : o.dst = some d) (h : (execOp a.eval o).run P w = .ok (.value v) w) (hf : ∃ w'', f v w'') :
    o.wp P a w (fun a' w' => ∃ v, a' = a.put o.dst v ∧ w = w' ∧ ∃ w'', f (keepIf o.dst v) w'') Q := by
  unfold Oper.wp
  rw [h, hd]
  exact ⟨v, by rw [← hd], rfl, hf⟩

theorem wp_region_K {id m n p q : Nat} {a0 : Act} {w0 : World} (l : List (Option Tmp × Op)) (W : List (List Nat)) (F : List (Value → World → Prop)) (R0 : World → Prop) (R1 R2 : Value → World → Prop) (mk : List Nat) (hm : P.follows .mixedOrders = true) (hok : regOk ops m = true) (hk : kinds ops = l) (hL : waitsL ops = W) (hn : l.length = n) (hsz : a0.tmps.size = m)
    (hpq : p ∈ W.getD q []) (hne : p ≠ q) (hqp : q < n) (hpn : p < n) (hmk : ∀ i ∈ mk, i ∈ W.getD p []) (hno : ∀ i, i < n → i ≠ p → i ≠ q → q ∉ W.getD i [])
    (hfree : ∀ i, i < n → i ∉ mk → ∀ v w w', F.getD i (fun _ _ => True) v w → F.getD i (fun _ _ => True) v w')
    (hR0 : R0 w0.drew) (hRG : ∀ w w', R0 w → Below w.heap.size w w' → R0 w') (hF : KeptAll F)
    (hstepV : ∀ i, i < n → i ≠ p → i ≠ q → i ∉ mk → StepV P Q l W F a0 p i)
    (hstepB : ∀ i, i ∈ mk → StepP P Q l W F R0 a0 i)
    (hstepP : ∀ (o : Oper), o.dst = (l.getD p noOp).1 → o.op = (l.getD p noOp).2 → ∀ a w, R0 w → (∀ t, some t ∉ l.map (·.1) → a.eval (.tmp t) = a0.eval (.tmp t)) →
      (∀ j ∈ W.getD p [], F.getD j (fun _ _ => True) (laidAt a (l.getD j noOp).1) w) → o.wp P a w (fun a' w' => ∃ v, a' = a.put o.dst v ∧ R1 (keepIf o.dst v) w') Q)
    (hstepQ : ∀ (o : Oper), o.dst = (l.getD q noOp).1 → o.op = (l.getD q noOp).2 → ∀ a w, R1 (laidAt a (l.getD p noOp).1) w → (∀ t, some t ∉ l.map (·.1) → a.eval (.tmp t) = a0.eval (.tmp t)) →
      (∀ j ∈ W.getD q [], j ≠ p → ∃ w', F.getD j (fun _ _ => True) (laidAt a (l.getD j noOp).1) w') → o.wp P a w (fun a' w' => ∃ v, a' = a.put o.dst v ∧ R2 (laidAt a (l.getD p noOp).1) w') Q)
    (hend : ∀ a w, a.tmps.size = m → a.defers = a0.defers → (∀ t, some t ∉ l.map (·.1) → a.eval (.tmp t) = a0.eval (.tmp t)) → R2 (laidAt a (l.getD p noOp).1) w → (∀ j, j < n → j ≠ p → j ≠ q → ∃ w', F.getD j (fun _ _ => True) (laidAt a (l.getD j noOp).1) w') → Q .normal a w) :
    (Code.region id ops true).wp P Q a0 w0 := by
  have hsize : ops.size = n := by
    have := congrArg List.length hk
    simp only [kinds, List.length_map, Array.length_toList] at this
    omega
  have hat : ∀ i (o : Oper), ops[i]? = some o → l.getD i noOp = (o.dst, o.op) ∧ i < n := fun i o ho => by
    have h1 : l[i]? = some (o.dst, o.op) := by
      rw [← hk]
      simp [kinds, ho]
    refine ⟨by rw [List.getD_eq_getElem?_getD, h1]; rfl, ?_⟩
    rw [← hn]
    exact (List.getElem?_eq_some_iff.1 h1).1
  have hall : ∀ (i : Nat), i < n → ∃ o : Oper, ops[i]? = some o ∧ l.getD i noOp = (o.dst, o.op) := fun i hi => by
    have hi' : i < ops.size := by omega
    exact ⟨ops[i], by simp [hi'], (hat i ops[i] (by simp [hi'])).1⟩
  have hWa : ∀ i j, j ∈ W.getD i [] → i < n → awaits .any ops i j = true ∧ j < n := fun i j hj hi => by
    rw [← hL, waitsL, List.getD_eq_getElem?_getD] at hj
    have hi2 : i < ops.size := by omega
    simp only [List.getElem?_map, List.getElem?_range hi2, Option.map_some, Option.getD_some, List.mem_filter, List.mem_range] at hj
    exact ⟨hj.2, by omega⟩
  have hds : ∀ (i : Nat) (o : Oper), ops[i]? = some o → o.dst ∈ l.map (·.1) := fun i o ho => by
    have h1 : l[i]? = some (o.dst, o.op) := by
      rw [← hk]
      simp [kinds, ho]
    exact List.mem_map.2 ⟨_, List.mem_of_getElem? h1, rfl⟩
  have hok' := hok
  unfold regOk at hok'
  simp only [Bool.and_eq_true] at hok'
  obtain ⟨⟨⟨hg, ht⟩, hnd⟩, hlt⟩ := hok'
  have hlt' : ∀ (i : Nat) (o : Oper) d, ops[i]? = some o → o.dst = some d → d < m := fun i o d ho hd => by
    have := Array.all_eq_true'.1 hlt o (Array.mem_of_getElem? ho)
    rw [hd] at this
    simpa using this
  have hdn : ∀ (i j : Nat) (oi oj : Oper), ops[i]? = some oi → ops[j]? = some oj → i ≠ j → ∀ t, oj.dst = some t → oi.dst ≠ some t := fun i j oi oj hi hj hij t hd he => by
    have h1 := List.all_eq_true.1 (List.all_eq_true.1 hnd i (List.mem_range.2 (Array.getElem?_eq_some_iff.1 hi).1)) j (List.mem_range.2 (Array.getElem?_eq_some_iff.1 hj).1)
    rw [hi, hj] at h1
    simp [hij, hd, he] at h1
  -- what laying a value leaves
  have hLN : ∀ (i j : Nat) (oi : Oper) (a : Act) v, ops[i]? = some oi → j < n → i ≠ j → laidAt (a.put oi.dst v) (l.getD j noOp).1 = laidAt a (l.getD j noOp).1 := fun i j oi a v hi hj hij => by
    obtain ⟨oj, hoj, ej⟩ := hall j hj
    rw [ej]
    exact laid_ne a _ _ v (fun t h => hdn i j oi oj hi hoj hij t h)
  have hLE : ∀ (i : Nat) (oi : Oper) (a : Act) v, ops[i]? = some oi → a.tmps.size = m → laidAt (a.put oi.dst v) (l.getD i noOp).1 = keepIf oi.dst v := fun i oi a v hi hs => by
    rw [(hat i oi hi).1]
    exact laid_put a _ v (fun t h => by rw [hs]; exact hlt' i oi t hi h)
  have hLO : ∀ (i : Nat) (oi : Oper) (a : Act) v, ops[i]? = some oi → (∀ t, some t ∉ l.map (·.1) → a.eval (.tmp t) = a0.eval (.tmp t)) → (∀ t, some t ∉ l.map (·.1) → (a.put oi.dst v).eval (.tmp t) = a0.eval (.tmp t)) := fun i oi a v hi hout t hto => by
    rw [← hout t hto]
    cases hd : oi.dst with
    | none => rfl
    | some d => exact eval_put_ne (fun e => hto (by rw [← e, ← hd]; exact hds i oi hi))
  refine wp_region_I (fun L a w => a.tmps.size = m ∧ a.defers = a0.defers ∧ (∀ t, some t ∉ l.map (·.1) → a.eval (.tmp t) = a0.eval (.tmp t)) ∧ (∀ i j, i < n → L i = true → j ∈ W.getD i [] → L j = true) ∧
    ((L p = false ∧ L q = false ∧ R0 w ∧ ∀ j, j < n → L j = true → F.getD j (fun _ _ => True) (laidAt a (l.getD j noOp).1) w) ∨
     (L p = true ∧ ((L q = false ∧ R1 (laidAt a (l.getD p noOp).1) w) ∨ (L q = true ∧ R2 (laidAt a (l.getD p noOp).1) w)) ∧ ∀ j, j < n → j ≠ p → j ≠ q → L j = true → ∃ w', F.getD j (fun _ _ => True) (laidAt a (l.getD j noOp).1) w'))) hm hok ?_ ?_ ?_
  · exact ⟨hsz, rfl, fun _ _ => rfl, fun _ _ _ h => absurd h (by simp), Or.inl ⟨rfl, rfl, hR0, fun _ _ h => absurd h (by simp)⟩⟩
  · rintro i o L a w ho hLi hawt ⟨hs, hd, hout, hcl, hph⟩
    obtain ⟨e1, hin⟩ := hat i o ho
    have e1d : o.dst = (l.getD i noOp).1 := by rw [e1]
    have e1o : o.op = (l.getD i noOp).2 := by rw [e1]
    have hcl' : ∀ i' j, i' < n → (i' == i || L i') = true → j ∈ W.getD i' [] → (j == i || L j) = true := fun i' j hi' h hj => by
      by_cases hii : i' = i
      · subst hii
        rw [hawt j (hWa i' j hj hi').1, Bool.or_true]
      · have h2 : L i' = true := by simpa [hii] using h
        rw [hcl i' j hi' h2 hj, Bool.or_true]
    have hpres : ∀ v j, j < n → j ≠ i → (j == i || L j) = true → L j = true ∧ laidAt (a.put o.dst v) (l.getD j noOp).1 = laidAt a (l.getD j noOp).1 := fun v j hj hji h =>
      ⟨by simpa [hji] using h, hLN i j o a v ho hj (Ne.symm hji)⟩
    rcases hph with ⟨hLp, hLq, hR, hFs⟩ | ⟨hLp, hph, hFs⟩
    · by_cases hip : i = p
      · subst hip
        refine Oper.wp_mono ?_ (hstepP o e1d e1o a w hR hout (fun j hj => hFs j (hWa i j hj hin).2 (hawt j (hWa i j hj hin).1)))
        rintro a' w' ⟨v, rfl, h1⟩
        refine ⟨by rw [size_put, hs], by rw [defers_put, hd], hLO i o a v ho hout, hcl', Or.inr ⟨by simp, Or.inl ⟨by simp [Ne.symm hne, hLq], by rw [hLE i o a v ho hs]; exact h1⟩, fun j hj h3 h4 h5 => ?_⟩⟩
        obtain ⟨h6, h7⟩ := hpres v j hj h3 h5
        rw [h7]
        exact ⟨w, hFs j hj h6⟩
      by_cases hiq : i = q
      · subst hiq
        have := hawt p (hWa i p hpq hin).1
        rw [hLp] at this; cases this
      by_cases him : i ∈ mk
      · refine Oper.wp_mono ?_ (hstepB i him o e1d e1o a w hR hout (fun j hj => hFs j (hWa i j hj hin).2 (hawt j (hWa i j hj hin).1)))
        rintro a' w' ⟨v, rfl, hb, h1⟩
        refine ⟨by rw [size_put, hs], by rw [defers_put, hd], hLO i o a v ho hout, hcl', Or.inl ⟨by simp [Ne.symm hip, hLp], by simp [Ne.symm hiq, hLq], hRG w w' hR hb, fun j hj h5 => ?_⟩⟩
        by_cases hji : j = i
        · subst hji
          rw [hLE j o a v ho hs]; exact h1
        · obtain ⟨h6, h7⟩ := hpres v j hj hji h5
          rw [h7]
          exact hF.at j _ w w' hb (hFs j hj h6)
      · refine Oper.wp_mono ?_ (hstepV i hin hip hiq him o e1d e1o a w hout (fun j hj _ => ⟨w, hFs j (hWa i j hj hin).2 (hawt j (hWa i j hj hin).1)⟩))
        rintro a' w' ⟨v, rfl, rfl, w'', h1⟩
        refine ⟨by rw [size_put, hs], by rw [defers_put, hd], hLO i o a v ho hout, hcl', Or.inl ⟨by simp [Ne.symm hip, hLp], by simp [Ne.symm hiq, hLq], hR, fun j hj h5 => ?_⟩⟩
        by_cases hji : j = i
        · subst hji
          rw [hLE j o a v ho hs]; exact hfree j hj him _ _ _ h1
        · obtain ⟨h6, h7⟩ := hpres v j hj hji h5
          rw [h7]
          exact hFs j hj h6
    · by_cases hip : i = p
      · subst hip
        rw [hLp] at hLi; cases hLi
      have him : i ∉ mk := fun h => by
        have := hcl p i hpn hLp (hmk i h)
        rw [hLi] at this; cases this
      by_cases hiq : i = q
      · subst hiq
        rcases hph with ⟨_, h1⟩ | ⟨h, _⟩
        case inr => rw [hLi] at h; cases h
        refine Oper.wp_mono ?_ (hstepQ o e1d e1o a w h1 hout (fun j hj hjp => hFs j (hWa i j hj hin).2 hjp (fun e => by
          have := hawt j (hWa i j hj hin).1
          rw [e, hLi] at this; cases this) (hawt j (hWa i j hj hin).1)))
        rintro a' w' ⟨v, rfl, h2⟩
        refine ⟨by rw [size_put, hs], by rw [defers_put, hd], hLO i o a v ho hout, hcl', Or.inr ⟨by simp [hLp], Or.inr ⟨by simp, by rw [hLN i p o a v ho hpn (Ne.symm hne)]; exact h2⟩, fun j hj h3 h4 h5 => ?_⟩⟩
        obtain ⟨h6, h7⟩ := hpres v j hj h4 h5
        rw [h7]
        exact hFs j hj h3 h4 h6
      · have hn2 := hno i hin hip hiq
        refine Oper.wp_mono ?_ (hstepV i hin hip hiq him o e1d e1o a w hout (fun j hj hjp => hFs j (hWa i j hj hin).2 hjp (fun e => hn2 (e ▸ hj)) (hawt j (hWa i j hj hin).1)))
        rintro a' w' ⟨v, rfl, rfl, w'', h1⟩
        have hpp := hLN i p o a v ho hpn hip
        refine ⟨by rw [size_put, hs], by rw [defers_put, hd], hLO i o a v ho hout, hcl', Or.inr ⟨by simp [hLp], ?_, fun j hj h3 h4 h5 => ?_⟩⟩
        · rw [hpp]
          rcases hph with ⟨g1, g2⟩ | ⟨g1, g2⟩
          · exact Or.inl ⟨by simp [Ne.symm hiq, g1], g2⟩
          · exact Or.inr ⟨by simp [g1], g2⟩
        · by_cases hji : j = i
          · subst hji
            rw [hLE j o a v ho hs]; exact ⟨w'', h1⟩
          · obtain ⟨h6, h7⟩ := hpres v j hj hji h5
            rw [h7]
            exact hFs j hj h3 h4 h6
  · rintro L a w hall' ⟨hs, hd, hout, hcl, hph⟩
    have hL' : ∀ i, i < n → L i = true := fun i hi => hall' i (by omega)
    rcases hph with ⟨h, _⟩ | ⟨hLp, hph, hFs⟩
    · rw [hL' p hpn] at h; cases h
    · rcases hph with ⟨h, _⟩ | ⟨_, h2⟩
      · rw [hL' q hqp] at h; cases h
      · exact hend a w hs hd hout h2 (fun j hj h3 h4 => hFs j hj h3 h4 (hL' j hj))
end
end Go.Proofs.Ytjemklgfenciaaa
