/-
  A region that draws its order, told by one invariant over what has come up; and 'a, b, d, e, f, g := c, c, c, c, c, c' of rows.
-/
import Derived.Test.YtjemklgfenciaaaReg1
namespace Go.Proofs.Ytjemklgfenciaaa
open Go.RowKit
set_option linter.unusedVariables false
set_option maxRecDepth 100000
set_option linter.unusedSimpArgs false

section
variable {P : Program} {ops : Array Oper} {Q : Exit → Act → World → Prop}
theorem wp_region_I {id m : Nat} {a0 : Act} {w0 : World} (I : (Nat → Bool) → Act → World → Prop) (hm : P.follows .mixedOrders = true) (hok : regOk ops m = true)
    (h0 : I (fun _ => false) a0 w0.drew)
    (hstep : ∀ i (o : Oper) (L : Nat → Bool) a w, ops[i]? = some o → L i = false → (∀ j, awaits .any ops i j = true → L j = true) → I L a w → o.wp P a w (fun a' w' => I (fun j => j == i || L j) a' w') Q)
    (hend : ∀ L a w, (∀ i, i < ops.size → L i = true) → I L a w → Q .normal a w) : (Code.region id ops true).wp P Q a0 w0 := by
  unfold regOk at hok
  simp only [Bool.and_eq_true] at hok
  obtain ⟨⟨⟨hg, ht⟩, hnd⟩, hlt⟩ := hok
  have hpl : ∀ i (o : Oper), ops[i]? = some o → o.guard = none := fun i o ho => by
    have := Array.all_eq_true'.1 hg o (Array.mem_of_getElem? ho)
    simpa using this
  refine wp_region_any hm ?_
  have key : ∀ (fuel : Nat) (listed : Array Bool) (a : Act) (w : World), listed.size = ops.size → (listed.toList.count false = fuel) → I (fun j => listed.getD j false) a w → wpAny P .any ops Q fuel listed a w := by
    intro fuel
    induction fuel with
    | zero =>
      intro listed a w hs hc hI
      have hall : ∀ i, i < ops.size → listed.getD i false = true := fun i hi => by
        have := count_zero hc i (by simpa [hs] using hi)
        simp only [Array.getElem?_toList] at this
        simp [this]
      refine ⟨?_, hend _ a w hall hI⟩
      cases hr : Region.ready .any ops listed with
      | nil => rfl
      | cons i r =>
        have hi : i ∈ Region.ready .any ops listed := by rw [hr]; simp
        obtain ⟨h1, oi, hoi, _⟩ := mem_ready.1 hi
        have h2 := hall i (Array.getElem?_eq_some_iff.1 hoi).1
        have h3 : i < listed.size := by rw [hs]; exact (Array.getElem?_eq_some_iff.1 hoi).1
        simp [h3] at h1 h2
        rw [h1] at h2; cases h2
    | succ fuel ih =>
      intro listed a w hs hc hI
      refine ⟨fun hr => hend _ a w (ready_nil ht hs hr) hI, fun i hi => ?_⟩
      obtain ⟨h1, oi, hoi, hall⟩ := mem_ready.1 hi
      have hil : i < listed.size := by rw [hs]; exact (Array.getElem?_eq_some_iff.1 hoi).1
      have hf : listed.toList[i]? = some false := by
        simp [hil] at h1
        simp [hil, h1]
      have hf' : listed.getD i false = false := by
        simp [hil] at h1
        simp [hil, h1]
      unfold wpOp
      simp only [hoi, wanted_plain (hpl i oi hoi), if_true]
      refine Or.inl (Oper.wp_mono ?_ (hstep i oi (fun j => listed.getD j false) a w hoi hf' (fun j haw => ?_) hI))
      · intro a' w' hI'
        refine ih (listed.setIfInBounds i true) a' w' (by simp [hs]) ?_ ?_
        · have := count_set hf
          rw [Array.toList_setIfInBounds]
          omega
        · have e : (fun j => (listed.setIfInBounds i true).getD j false) = fun j => j == i || listed.getD j false := by
            funext j
            by_cases hj : j = i
            · subst hj
              simp [hil]
            · rw [getD_set_ne false (Ne.symm hj)]
              simp [hj]
          rw [e]
          exact hI'
      · simp only [awaits, hoi] at haw
        obtain ⟨e, he, hb⟩ := Array.any_eq_true'.1 haw
        simp only [Bool.and_eq_true, beq_iff_eq] at hb
        have := hall e he hb.1
        rw [hb.2] at this
        exact this
  refine key _ _ _ _ (by simp) (by simp) ?_
  have e : (fun j => (Array.replicate ops.size false).getD j false) = fun _ => false := by
    funext j
    by_cases hj : j < ops.size <;> simp [hj]
  rw [e]
  exact h0

/-- The slots of six copies: what is loaded (31 ..), the new rows (5 ..). -/
def sixL (T : TypeId) : List (Option Tmp × Op) :=
  [(some 31, .load T (.tmp 3)), (some 32, .load T (.tmp 3)), (some 33, .load T (.tmp 3)), (some 34, .load T (.tmp 3)), (some 35, .load T (.tmp 3)), (some 36, .load T (.tmp 3)),
   (some 5, .alloc T), (some 6, .alloc T), (some 7, .alloc T), (some 8, .alloc T), (some 9, .alloc T), (some 10, .alloc T),
   (none, .store T (.tmp 5) (.tmp 31)), (none, .store T (.tmp 6) (.tmp 32)), (none, .store T (.tmp 7) (.tmp 33)), (none, .store T (.tmp 8) (.tmp 34)), (none, .store T (.tmp 9) (.tmp 35)), (none, .store T (.tmp 10) (.tmp 36))]
theorem sixL_load (T : TypeId) (k : Nat) (h : k < 6) : (sixL T)[k]? = some (some (31 + k), .load T (.tmp 3)) := by
  have hc : k = 0 ∨ k = 1 ∨ k = 2 ∨ k = 3 ∨ k = 4 ∨ k = 5 := by omega
  rcases hc with rfl | rfl | rfl | rfl | rfl | rfl <;> rfl
theorem sixL_alloc (T : TypeId) (k : Nat) (h : k < 6) : (sixL T)[6 + k]? = some (some (5 + k), .alloc T) := by
  have hc : k = 0 ∨ k = 1 ∨ k = 2 ∨ k = 3 ∨ k = 4 ∨ k = 5 := by omega
  rcases hc with rfl | rfl | rfl | rfl | rfl | rfl <;> rfl
theorem sixL_store (T : TypeId) (k : Nat) (h : k < 6) : (sixL T)[12 + k]? = some (none, .store T (.tmp (5 + k)) (.tmp (31 + k))) := by
  have hc : k = 0 ∨ k = 1 ∨ k = 2 ∨ k = 3 ∨ k = 4 ∨ k = 5 := by omega
  rcases hc with rfl | rfl | rfl | rfl | rfl | rfl <;> rfl

/-- Each store waits for its load and its new row. -/
def sixW (ops : Array Oper) : Bool := (List.range 6).all fun k => awaits .any ops (12 + k) k && awaits .any ops (12 + k) (6 + k)
structure SixI (T : TypeId) (cs zs : List Value) (m : Nat) (a0 : Act) (w0 : World) (L : Nat → Bool) (a : Act) (w : World) (G : Nat → Nat) : Prop where
  sz : a.tmps.size = m
  df : a.defers = a0.defers
  out : ∀ t : Nat, ¬ (31 ≤ t ∧ t < 37) → ¬ (5 ≤ t ∧ t < 11) → a.eval (.tmp t) = a0.eval (.tmp t)
  bel : Below w0.heap.size w0 w
  vals : ∀ k, k < 6 → L k = true → a.eval (.tmp (31 + k)) = .agg cs.toArray
  ptr : ∀ k, k < 6 → L (6 + k) = true → a.eval (.tmp (5 + k)) = .pointer (some ⟨G k, 0, none⟩) ∧ w0.heap.size ≤ G k ∧ RowIs w (G k) T (if L (12 + k) = true then cs else zs)
  apart : ∀ k l, k < 6 → l < 6 → k ≠ l → L (6 + k) = true → L (6 + l) = true → G k ≠ G l
  late : ∀ k, k < 6 → L (12 + k) = true → L (6 + k) = true

theorem six_region {id m : Nat} {a0 : Act} {w0 : World} {T : TypeId} {g : Nat} {cs zs : List Value} {d : TypeDesc} {i0 : TypeInfo} {z : Value} (hm : P.follows .mixedOrders = true) (hok : regOk ops m = true) (hk : kinds ops = sixL T) (hw : sixW ops = true) (hsz : a0.tmps.size = m) (hm37 : 37 ≤ m)
    (h3 : a0.eval (.tmp 3) = .pointer (some ⟨g, 0, none⟩)) (hr : RowIs w0 g T cs) (hu : P.underlying T = some d) (hd : d.isRow = true) (hi : P.info? T = some i0) (hz : i0.zero = some z) (hzc : z.cells = zs.toArray) (hs0 : i0.size = cs.length) (hl : cs.length = zs.length) (hone : ∀ v ∈ cs, v.oneCell' = true)
    (hend : ∀ a w (G : Nat → Nat), a.tmps.size = m → a.defers = a0.defers → (∀ t : Nat, ¬ (31 ≤ t ∧ t < 37) → ¬ (5 ≤ t ∧ t < 11) → a.eval (.tmp t) = a0.eval (.tmp t)) → Below w0.heap.size w0 w →
      (∀ k, k < 6 → a.eval (.tmp (31 + k)) = .agg cs.toArray ∧ a.eval (.tmp (5 + k)) = .pointer (some ⟨G k, 0, none⟩) ∧ w0.heap.size ≤ G k ∧ RowIs w (G k) T cs) → (∀ k l, k < 6 → l < 6 → k ≠ l → G k ≠ G l) → Q .normal a w) :
    (Code.region id ops true).wp P Q a0 w0 := by
  have hsize : ops.size = 18 := by
    have := congrArg List.length hk
    simpa [kinds, sixL] using this
  have hat : ∀ i (o : Oper), ops[i]? = some o → (sixL T)[i]? = some (o.dst, o.op) := fun i o ho => by
    rw [← hk, kinds, List.getElem?_map, Array.getElem?_toList, ho]
    rfl
  have hinfo : (P.info? T).map (·.size) = some cs.length := by rw [hi]; simp [hs0]
  have hg : g < w0.heap.size := hr.lt
  refine wp_region_I (fun L a w => ∃ G, SixI T cs zs m a0 w0 L a w G) hm hok ?_ ?_ ?_
  · exact ⟨fun _ => 0, hsz, rfl, fun _ _ _ => rfl, (Below.refl _ _).drew, fun _ _ h => absurd h (by decide), fun _ _ h => absurd h (by decide), fun _ _ _ _ _ h => absurd h (by decide), fun _ _ h => absurd h (by decide)⟩
  · rintro i o L a w ho hLi hawt ⟨G, hI⟩
    have hlk := hat i o ho
    have hi18 : i < 18 := by rw [← hsize]; exact (Array.getElem?_eq_some_iff.1 ho).1
    have hrow : RowIs w g T cs := RowIs.below hr hI.bel hg
    by_cases h6 : i < 6
    · rw [sixL_load T i h6] at hlk
      obtain ⟨e1, e2⟩ := Prod.mk.inj (Option.some.inj hlk)
      have hx : a.eval (.tmp 3) = .pointer (some ⟨g, 0, none⟩) := (hI.out 3 (by omega) (by omega)).trans h3
      refine wp_load_mid T (.tmp 3) e2.symm g 0 hx cs d (hrow.range (by rw [List.drop_zero, List.take_length])) hu hd hinfo ⟨G, ?_⟩
      rw [← e1]
      refine ⟨by rw [size_put, hI.sz], by rw [defers_put, hI.df], fun t h1 h2 => ?_, hI.bel, fun k hk6 hL => ?_, fun k hk6 hL => ?_, fun k l hk6 hl6 hkl h1 h2 => hI.apart k l hk6 hl6 hkl (by simpa [show ¬ 6 + k = i by omega] using h1) (by simpa [show ¬ 6 + l = i by omega] using h2), fun k hk6 hL => ?_⟩
      · rw [eval_put_ne (by omega)]; exact hI.out t h1 h2
      · by_cases hki : k = i
        · subst hki
          rw [eval_put, if_pos ⟨rfl, by rw [hI.sz]; omega⟩]
        · rw [eval_put_ne (by omega)]
          exact hI.vals k hk6 (by simpa [hki] using hL)
      · have h6k : L (6 + k) = true := by simpa [show ¬ 6 + k = i by omega] using hL
        have := hI.ptr k hk6 h6k
        refine ⟨by rw [eval_put_ne (by omega)]; exact this.1, this.2.1, ?_⟩
        simp only [show ¬ 12 + k = i by omega, beq_iff_eq, Bool.or_eq_true, false_or]
        exact this.2.2
      · have : L (12 + k) = true := by simpa [show ¬ 12 + k = i by omega] using hL
        simp [hI.late k hk6 this]
    by_cases h12 : i < 12
    · obtain ⟨q, rfl⟩ : ∃ q, i = 6 + q := ⟨i - 6, by omega⟩
      have hq : q < 6 := by omega
      rw [sixL_alloc T q hq] at hlk
      obtain ⟨e1, e2⟩ := Prod.mk.inj (Option.some.inj hlk)
      have hno : L (12 + q) = false := by
        cases h : L (12 + q) with
        | false => rfl
        | true => exact absurd (hI.late q hq h) (by rw [hLi]; decide)
      have hrun : (execOp a.eval o).run P w = .ok (.value (.pointer (some ⟨w.heap.size, 0, none⟩))) (w.alloc (.cells z.cells T)) := by
        unfold execOp
        simp only [← e2, Sem.run_bind, run_alloc_zero T i0 z hi hz]
        rfl
      unfold Oper.wp
      rw [hrun]
      refine ⟨fun k => if k = q then w.heap.size else G k, ?_⟩
      rw [← e1, hzc]
      refine ⟨by rw [size_put, hI.sz], by rw [defers_put, hI.df], fun t h1 h2 => ?_, hI.bel.alloc hI.bel.size _, fun k hk6 hL => ?_, fun k hk6 hL => ?_, fun k l hk6 hl6 hkl h1 h2 => ?_, fun k hk6 hL => ?_⟩
      · rw [eval_put_ne (by omega)]; exact hI.out t h1 h2
      · rw [eval_put_ne (by omega)]
        exact hI.vals k hk6 (by simpa [show ¬ k = 6 + q by omega] using hL)
      · by_cases hkq : k = q
        · subst hkq
          rw [if_pos rfl]
          refine ⟨by rw [eval_put, if_pos ⟨rfl, by rw [hI.sz]; omega⟩], hI.bel.size, ?_⟩
          simp only [show ¬ 12 + k = 6 + k by omega, beq_iff_eq, Bool.or_eq_true, false_or, hno, Bool.false_eq_true, if_false]
          exact RowIs.new w T zs
        · rw [if_neg hkq]
          have h6k : L (6 + k) = true := by simpa [show ¬ k = q from hkq] using hL
          have := hI.ptr k hk6 h6k
          refine ⟨by rw [eval_put_ne (by omega)]; exact this.1, this.2.1, ?_⟩
          simp only [show ¬ 12 + k = 6 + q by omega, beq_iff_eq, Bool.or_eq_true, false_or]
          exact RowIs.alloc this.2.2 _
      · by_cases hkq : k = q
        · subst hkq
          rw [if_pos rfl, if_neg (Ne.symm hkl)]
          have h6l : L (6 + l) = true := by simpa [show ¬ l = k from Ne.symm hkl] using h2
          have := (hI.ptr l hl6 h6l).2.2.lt
          omega
        · have h6k : L (6 + k) = true := by simpa [show ¬ k = q from hkq] using h1
          rw [if_neg hkq]
          by_cases hlq : l = q
          · rw [if_pos hlq]
            have := (hI.ptr k hk6 h6k).2.2.lt
            omega
          · rw [if_neg hlq]
            exact hI.apart k l hk6 hl6 hkl h6k (by simpa [show ¬ l = q from hlq] using h2)
      · have h12k : L (12 + k) = true := by simpa [show ¬ 12 + k = 6 + q by omega] using hL
        simp [hI.late k hk6 h12k]
    · obtain ⟨q, rfl⟩ : ∃ q, i = 12 + q := ⟨i - 12, by omega⟩
      have hq : q < 6 := by omega
      rw [sixL_store T q hq] at hlk
      obtain ⟨e1, e2⟩ := Prod.mk.inj (Option.some.inj hlk)
      have hww := List.all_eq_true.1 hw q (List.mem_range.2 hq)
      rw [Bool.and_eq_true] at hww
      have hLv := hawt q hww.1
      have hLp := hawt (6 + q) hww.2
      obtain ⟨hp1, hp2, hp3⟩ := hI.ptr q hq hLp
      rw [hLi] at hp3
      simp only [Bool.false_eq_true, if_false] at hp3
      refine wp_store_mid T (.tmp (5 + q)) (.tmp (31 + q)) e2.symm (G q) 0 cs.toArray hp1 (hI.vals q hq hLv) (hp3.there (by simp [hl])) (by rw [hinfo]; simp) (all_oneCell_toArray hone) ⟨G, ?_⟩
      rw [← e1]
      have hput : RowIs (w.setCells (G q) 0 cs.toArray.toList) (G q) T cs := by
        have h1 := RowIs.sets cs.toArray.toList 0 hp3 (by simp [hl])
        have e : putAt zs 0 cs.toArray.toList = cs := by
          unfold putAt
          simp
          exact Nat.le_of_eq hl.symm
        rwa [e] at h1
      refine ⟨hI.sz, hI.df, hI.out, bel_setCells hI.bel hp2 _ _, fun k hk6 hL => hI.vals k hk6 (by simpa [show ¬ k = 12 + q by omega] using hL), fun k hk6 hL => ?_, fun k l hk6 hl6 hkl h1 h2 => hI.apart k l hk6 hl6 hkl (by simpa [show ¬ 6 + k = 12 + q by omega] using h1) (by simpa [show ¬ 6 + l = 12 + q by omega] using h2), fun k hk6 hL => ?_⟩
      · have h6k : L (6 + k) = true := by simpa [show ¬ 6 + k = 12 + q by omega] using hL
        have := hI.ptr k hk6 h6k
        refine ⟨this.1, this.2.1, ?_⟩
        by_cases hkq : k = q
        · subst hkq
          simp only [beq_self_eq_true, Bool.true_or, if_true]
          exact hput
        · simp only [show ¬ 12 + k = 12 + q by omega, beq_iff_eq, Bool.or_eq_true, false_or]
          show (w.setCells (G q) 0 _).heap[G k]? = _
          rw [heap_setCells _ _ _ _ _ (hI.apart k q hk6 hq hkq h6k hLp)]
          exact this.2.2
      · by_cases hkq : k = q
        · subst hkq; simp [hLp]
        · have h12k : L (12 + k) = true := by simpa [show ¬ k = q from hkq] using hL
          simp [hI.late k hk6 h12k]
  · rintro L a w hall ⟨G, hI⟩
    refine hend a w G hI.sz hI.df hI.out hI.bel (fun k hk6 => ?_) (fun k l hk6 hl6 hkl => hI.apart k l hk6 hl6 hkl (hall _ (by omega)) (hall _ (by omega)))
    obtain ⟨h1, h2, h3'⟩ := hI.ptr k hk6 (hall _ (by omega))
    rw [if_pos (hall _ (by omega))] at h3'
    exact ⟨hI.vals k hk6 (hall _ (by omega)), h1, h2, h3'⟩
end
end Go.Proofs.Ytjemklgfenciaaa
