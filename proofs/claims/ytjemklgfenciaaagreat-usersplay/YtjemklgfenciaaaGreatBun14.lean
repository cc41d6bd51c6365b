/-
  Parts of this proof, one behind the other: Reg1, Reg3, Reg7, Reg4, Reg8.
-/
import Derived.Test.YtjemklgfenciaaaGreatBun5
import Derived.Test.YtjemklgfenciaaaGreatBun12
import Derived.Test.YtjemklgfenciaaaGreatBun4
import Derived.Test.YtjemklgfenciaaaGreatBun8

/-
  Operations in a region that draws its order, one by one.
-/
namespace Go.Proofs.YtjemklgfenciaaaGreat
open Go.RowKit
set_option linter.unusedVariables false
set_option maxRecDepth 100000
set_option linter.unusedSimpArgs false

section
variable {P : Program} {ops : Array Oper} {Q : Exit → Act → World → Prop}

def noOp : Option Tmp × Op := (none, .move (.tmp 0))
/-- What is to be shown of operation i: from the facts that those it waits for have left, its own. -/
def StepP (P : Program) (Q : Exit → Act → World → Prop) (l : List (Option Tmp × Op)) (L : List (List Nat)) (F : List (Value → World → Prop)) (R : World → Prop) (a0 : Act) (i : Nat) : Prop :=
  ∀ (o : Oper), o.dst = (l.getD i noOp).1 → o.op = (l.getD i noOp).2 → ∀ a w, R w → (∀ t, some t ∉ l.map (·.1) → a.eval (.tmp t) = a0.eval (.tmp t)) →
    (∀ j ∈ L.getD i [], F.getD j (fun _ _ => True) (laidAt a (l.getD j noOp).1) w) →
    o.wp P a w (fun a' w' => ∃ v, a' = a.put o.dst v ∧ Below w.heap.size w w' ∧ F.getD i (fun _ _ => True) (keepIf o.dst v) w') Q
def Kept (f : Value → World → Prop) : Prop := ∀ v w w', Below w.heap.size w w' → f v w → f v w'
def KeptAll : List (Value → World → Prop) → Prop
  | [] => True
  | f :: r => Kept f ∧ KeptAll r
theorem KeptAll.at : ∀ {F : List (Value → World → Prop)}, KeptAll F → ∀ i, Kept (F.getD i (fun _ _ => True))
  | [], _, _ => fun _ _ _ _ _ => True.intro
  | _ :: _, h, 0 => h.1
  | _ :: _, h, i + 1 => KeptAll.at h.2 i

theorem wp_region_F {id m n : Nat} {a0 : Act} {w0 : World} (l : List (Option Tmp × Op)) (L : List (List Nat)) (F : List (Value → World → Prop)) (R : World → Prop) (hm : P.follows .mixedOrders = true) (hok : regOk ops m = true) (hk : kinds ops = l) (hL : waitsL ops = L) (hn : l.length = n) (hsz : a0.tmps.size = m)
    (hR0 : R w0.drew) (hRG : ∀ w w', R w → Below w.heap.size w w' → R w') (hF : KeptAll F)
    (hstep : ∀ i, i < n → StepP P Q l L F R a0 i)
    (hend : ∀ a w, R w → a.tmps.size = m → a.defers = a0.defers → (∀ t, some t ∉ l.map (·.1) → a.eval (.tmp t) = a0.eval (.tmp t)) → (∀ j, j < n → F.getD j (fun _ _ => True) (laidAt a (l.getD j noOp).1) w) → Q .normal a w) :
    (Code.region id ops true).wp P Q a0 w0 := by
  have hds : dsts ops = l.map (·.1) := by
    rw [← hk]
    simp [dsts, kinds]
  have hat : ∀ i (o : Oper), ops[i]? = some o → l.getD i noOp = (o.dst, o.op) ∧ i < n := fun i o ho => by
    have h1 : l[i]? = some (o.dst, o.op) := by
      rw [← hk]
      simp [kinds, ho]
    refine ⟨by rw [List.getD_eq_getElem?_getD, h1]; rfl, ?_⟩
    rw [← hn]
    exact (List.getElem?_eq_some_iff.1 h1).1
  have hall : ∀ i, i < n → ∃ o : Oper, ops[i]? = some o ∧ l.getD i noOp = (o.dst, o.op) := fun i hi => by
    obtain ⟨o, ho, hd, hx⟩ := kinds_at hk (i := i) (d := (l.getD i noOp).1) (x := (l.getD i noOp).2) (by rw [List.getD_eq_getElem?_getD, List.getElem?_eq_getElem (by omega)]; rfl)
    exact ⟨o, ho, (hat i o ho).1⟩
  refine wp_region_J R (fun w w' => Below w.heap.size w w') (fun i v w => F.getD i (fun _ _ => True) v w) hm hok hsz hR0 hRG (fun i v w w' hG h => hF.at i v w w' hG h) ?_ ?_
  · intro i o ho a w hR hout hJ
    obtain ⟨e1, hi⟩ := hat i o ho
    refine hstep i hi o (by rw [e1]) (by rw [e1]) a w hR (by rw [← hds]; exact hout) ?_
    intro j hj
    have hjn : ∃ oj : Oper, ops[j]? = some oj ∧ awaits .any ops i j = true := by
      rw [← hL, waitsL, List.getD_eq_getElem?_getD] at hj
      have hi2 : i < ops.size := (Array.getElem?_eq_some_iff.1 ho).1
      simp only [List.getElem?_map, List.getElem?_range hi2, Option.map_some, Option.getD_some, List.mem_filter, List.mem_range] at hj
      exact ⟨ops[j], by simp [hj.1], hj.2⟩
    obtain ⟨oj, hoj, haw⟩ := hjn
    have := hJ j oj hoj haw
    rw [(hat j oj hoj).1]
    exact this
  · intro a w hR hs hd hout hJ
    refine hend a w hR hs hd (by rw [← hds]; exact hout) (fun j hj => ?_)
    obtain ⟨o, ho, e⟩ := hall j hj
    rw [e]
    exact hJ j o ho

theorem st_v {o : Oper} {a : Act} {w : World} {d : Tmp} {v : Value} {f : Value → World → Prop} (hd : o.dst = some d) (h : (execOp a.eval o).run P w = .ok (.value v) w) (hf : f v w) :
    o.wp P a w (fun a' w' => ∃ v, a' = a.put o.dst v ∧ Below w.heap.size w w' ∧ f (keepIf o.dst v) w') Q := by
  unfold Oper.wp
  rw [h, hd]
  exact ⟨v, by rw [← hd], Below.refl _ _, hf⟩
theorem st_m {o : Oper} {a : Act} {w w' : World} {d : Tmp} {v : Value} {f : Value → World → Prop} (hd : o.dst = some d) (h : (execOp a.eval o).run P w = .ok (.value v) w') (hb : Below w.heap.size w w') (hf : f v w') :
    o.wp P a w (fun a' w' => ∃ v, a' = a.put o.dst v ∧ Below w.heap.size w w' ∧ f (keepIf o.dst v) w') Q := by
  unfold Oper.wp
  rw [h, hd]
  exact ⟨v, by rw [← hd], hb, hf⟩
theorem st_c {o : Oper} {a : Act} {w : World} {d : Tmp} {f : Value → World → Prop} {fn : Nat} {args : Array Operand} {ts : Array TypeId} {vs : Array Value} (hd : o.dst = some d) (ho : o.op = .call { callee := .value (.func fn), args := args, argTypes := ts }) (hv : args.map a.eval = vs)
    (hcf : (callFunc fn vs).run P w = .ok (.enter fn vs) w) (hc : Calls P fn vs w fun e w' => ∃ v, e = .returned v ∧ Below w.heap.size w w' ∧ f v w') :
    o.wp P a w (fun a' w' => ∃ v, a' = a.put o.dst v ∧ Below w.heap.size w w' ∧ f (keepIf o.dst v) w') Q := by
  refine wp_callE ho hv hcf (hc.mono ?_)
  rintro e w' ⟨v, rfl, hb, hf⟩
  exact ⟨v, rfl, v, rfl, hb, by rw [hd]; exact hf⟩

theorem run_assign' {a : Act} {o : Oper} {x : Operand} {v : Value} (ho : o.op = .assign x) (hx : a.eval x = v) (w : World) : (execOp a.eval o).run P w = .ok (.value v) w := by
  subst hx
  unfold execOp
  simp [ho]
theorem run_field' {a : Act} {o : Oper} {x : Operand} {t : TypeId} {b i k n : Nat} {fs : Array Field} {f : Field} (ho : o.op = .fieldAddr t x i) (hx : a.eval x = .pointer (some ⟨b, k, none⟩)) (hu : P.underlying t = some (.struct fs)) (hf : fs[i]? = some f) (hz : (P.info? f.type).map (·.size) = some (n + 1)) (w : World) :
    (execOp a.eval o).run P w = .ok (.value (.pointer (some ⟨b, k + f.offset, none⟩))) w := by
  have hz' : ∀ w, (sizeOf f.type).run P w = .ok (n + 1) w := fun w => by
    cases hi : P.info? f.type with
    | none => simp [hi] at hz
    | some i => simp [hi] at hz; simp [sizeOf, typeInfo, hi, hz]
  revert hx
  generalize a.eval = ev
  intro hx
  unfold execOp
  simp [ho, hx, go_sem, run_underlying hu, hf, hz']
theorem run_loadS' {a : Act} {o : Oper} {x : Operand} {t : TypeId} {p : Addr} {v : Value} (ho : o.op = .load t x) (hx : a.eval x = .pointer (some p)) (hu : P.underlying t = some .string) (w : World) (hc : w.cell? p = some v) :
    (execOp a.eval o).run P w = .ok (.value v) w := by
  have hrun : (Instr.loadAt t (.pointer (some p))).run P w = .ok v w := by
    have hagg : (isAgg t).run P w = .ok false w := by
      unfold isAgg
      rw [Sem.run_bind, run_underlying hu w]
      rfl
    simp [go_sem, hagg, hc]
  unfold execOp
  simp only [ho, hx, Sem.run_bind, hrun]
  rfl
theorem run_convert' {a : Act} {o : Oper} {x : Operand} {s t : TypeId} {v r : Value} {w : World} (ho : o.op = .convert s t x) (hx : a.eval x = v) (h : (convert s t v).run P w = .ok r w) : (execOp a.eval o).run P w = .ok (.value r) w := by
  unfold execOp
  simp only [ho, hx, Sem.run_bind, h]
  rfl
theorem run_addI' {a : Act} {o : Oper} {x y : Operand} {t u : TypeId} {i j : Int} (ho : o.op = .binOp .add t x y u) (hx : a.eval x = .int .i64 i) (hy : a.eval y = .int .i64 j) (hu : P.underlying t = some (.int .i64)) (w : World) :
    (execOp a.eval o).run P w = .ok (.value (.int .i64 (IntKind.i64.wrap (i + j)))) w := by
  unfold execOp
  simp only [ho, hx, hy]
  simp [go_sem, hu]
theorem run_lenS' {a : Act} {o : Oper} {x : Operand} {t : TypeId} {ts : Array TypeId} {s : ByteArray} (ho : o.op = .call { callee := .builtin .len, args := #[x], argTypes := ts }) (hx : a.eval x = .string s) (ht : ts[0]? = some t) (hu : P.underlying t = some .string) (w : World) :
    (execOp a.eval o).run P w = .ok (.value (.int .i64 (s.size : Int))) w := by
  revert hx
  generalize a.eval = ev
  intro hx
  unfold execOp
  simp [ho, go_sem, hx, Builtin.len_, ht, run_underlying hu]
theorem run_build1' {a : Act} {o : Oper} {x : Operand} {t e : TypeId} {v z : Value} {inf : TypeInfo} (ho : o.op = .buildSlice t 1 #[(0, x)]) (hx : a.eval x = v) (hu : P.underlying t = some (.slice e)) (hi : P.info? e = some inf) (hz : inf.size = 1) (hzz : inf.zero = some z) (hv : ∀ cs, v ≠ .agg cs) (w : World) :
    (execOp a.eval o).run P w = .ok (.value (.slice (some ⟨w.heap.size, 0, none⟩) 1 1)) (w.alloc (.cells #[v] e)) := by
  have hz' : ∀ w, (sizeOf e).run P w = .ok 1 w := fun w => by simp [sizeOf, typeInfo, hi, hz]
  have hz2 : ∀ w, (zeroValue e).run P w = .ok z w := fun w => by simp [zeroValue, typeInfo, hi, hzz]
  revert hx
  generalize a.eval = ev
  intro hx
  unfold execOp
  cases v
  case agg cs => exact absurd rfl (hv cs)
  all_goals simp [ho, hx, go_sem, run_underlying hu, hz', hz2]
end
end Go.Proofs.YtjemklgfenciaaaGreat

/-
  A region that draws its order, told by one invariant over what has come up; and 'a, b, d, e, f, g := c, c, c, c, c, c' of rows.
-/
namespace Go.Proofs.YtjemklgfenciaaaGreat
open Go.RowKit
set_option linter.unusedVariables false
set_option maxRecDepth 100000
set_option linter.unusedSimpArgs false

section
variable {P : Program} {ops : Array Oper} {Q : Exit → Act → World → Prop}
theorem wp_region_I {id m : Nat} {a0 : Act} {w0 : World} (I : (Nat → Bool) → Act → World → Prop) (hm : P.follows .mixedOrders = true) (hok : regOk ops m = true)
    (h0 : I (fun _ => false) a0 w0.drew)
    (hstep : ∀ i (o : Oper) (L : Nat → Bool) a w, ops[i]? = some o → L i = false → (∀ j, awaits .any ops i j = true → L j = true) → I L a w → o.wp P a w (fun a' w' => I (fun j => j == i || L j) a' w') Q)
    (hend : ∀ L a w, (∀ i, i < ops.size → L i = true) → I L a w → Q .normal a w) : (Code.region id ops true).wp P Q a0 w0 := by
  unfold regOk at hok
  simp only [Bool.and_eq_true] at hok
  obtain ⟨⟨⟨hg, ht⟩, hnd⟩, hlt⟩ := hok
  have hpl : ∀ i (o : Oper), ops[i]? = some o → o.guard = none := fun i o ho => by
    have := Array.all_eq_true'.1 hg o (Array.mem_of_getElem? ho)
    simpa using this
  refine wp_region_any hm ?_
  have key : ∀ (fuel : Nat) (listed : Array Bool) (a : Act) (w : World), listed.size = ops.size → (listed.toList.count false = fuel) → I (fun j => listed.getD j false) a w → wpAny P .any ops Q fuel listed a w := by
    intro fuel
    induction fuel with
    | zero =>
      intro listed a w hs hc hI
      have hall : ∀ i, i < ops.size → listed.getD i false = true := fun i hi => by
        have := count_zero hc i (by simpa [hs] using hi)
        simp only [Array.getElem?_toList] at this
        simp [this]
      refine ⟨?_, hend _ a w hall hI⟩
      cases hr : Region.ready .any ops listed with
      | nil => rfl
      | cons i r =>
        have hi : i ∈ Region.ready .any ops listed := by rw [hr]; simp
        obtain ⟨h1, oi, hoi, _⟩ := mem_ready.1 hi
        have h2 := hall i (Array.getElem?_eq_some_iff.1 hoi).1
        have h3 : i < listed.size := by rw [hs]; exact (Array.getElem?_eq_some_iff.1 hoi).1
        simp [h3] at h1 h2
        rw [h1] at h2; cases h2
    | succ fuel ih =>
      intro listed a w hs hc hI
      refine ⟨fun hr => hend _ a w (ready_nil ht hs hr) hI, fun i hi => ?_⟩
      obtain ⟨h1, oi, hoi, hall⟩ := mem_ready.1 hi
      have hil : i < listed.size := by rw [hs]; exact (Array.getElem?_eq_some_iff.1 hoi).1
      have hf : listed.toList[i]? = some false := by
        simp [hil] at h1
        simp [hil, h1]
      have hf' : listed.getD i false = false := by
        simp [hil] at h1
        simp [hil, h1]
      unfold wpOp
      simp only [hoi, wanted_plain (hpl i oi hoi), if_true]
      refine Or.inl (Oper.wp_mono ?_ (hstep i oi (fun j => listed.getD j false) a w hoi hf' (fun j haw => ?_) hI))
      · intro a' w' hI'
        refine ih (listed.setIfInBounds i true) a' w' (by simp [hs]) ?_ ?_
        · have := count_set hf
          rw [Array.toList_setIfInBounds]
          omega
        · have e : (fun j => (listed.setIfInBounds i true).getD j false) = fun j => j == i || listed.getD j false := by
            funext j
            by_cases hj : j = i
            · subst hj
              simp [hil]
            · rw [getD_set_ne false (Ne.symm hj)]
              simp [hj]
          rw [e]
          exact hI'
      · simp only [awaits, hoi] at haw
        obtain ⟨e, he, hb⟩ := Array.any_eq_true'.1 haw
        simp only [Bool.and_eq_true, beq_iff_eq] at hb
        have := hall e he hb.1
        rw [hb.2] at this
        exact this
  refine key _ _ _ _ (by simp) (by simp) ?_
  have e : (fun j => (Array.replicate ops.size false).getD j false) = fun _ => false := by
    funext j
    by_cases hj : j < ops.size <;> simp [hj]
  rw [e]
  exact h0

/-- The slots of six copies: what is loaded (31 ..), the new rows (5 ..). -/
def sixL (T : TypeId) : List (Option Tmp × Op) :=
  [(some 31, .load T (.tmp 3)), (some 32, .load T (.tmp 3)), (some 33, .load T (.tmp 3)), (some 34, .load T (.tmp 3)), (some 35, .load T (.tmp 3)), (some 36, .load T (.tmp 3)),
   (some 5, .alloc T), (some 6, .alloc T), (some 7, .alloc T), (some 8, .alloc T), (some 9, .alloc T), (some 10, .alloc T),
   (none, .store T (.tmp 5) (.tmp 31)), (none, .store T (.tmp 6) (.tmp 32)), (none, .store T (.tmp 7) (.tmp 33)), (none, .store T (.tmp 8) (.tmp 34)), (none, .store T (.tmp 9) (.tmp 35)), (none, .store T (.tmp 10) (.tmp 36))]
theorem sixL_load (T : TypeId) (k : Nat) (h : k < 6) : (sixL T)[k]? = some (some (31 + k), .load T (.tmp 3)) := by
  have hc : k = 0 ∨ k = 1 ∨ k = 2 ∨ k = 3 ∨ k = 4 ∨ k = 5 := by omega
  rcases hc with rfl | rfl | rfl | rfl | rfl | rfl <;> rfl
theorem sixL_alloc (T : TypeId) (k : Nat) (h : k < 6) : (sixL T)[6 + k]? = some (some (5 + k), .alloc T) := by
  have hc : k = 0 ∨ k = 1 ∨ k = 2 ∨ k = 3 ∨ k = 4 ∨ k = 5 := by omega
  rcases hc with rfl | rfl | rfl | rfl | rfl | rfl <;> rfl
theorem sixL_store (T : TypeId) (k : Nat) (h : k < 6) : (sixL T)[12 + k]? = some (none, .store T (.tmp (5 + k)) (.tmp (31 + k))) := by
  have hc : k = 0 ∨ k = 1 ∨ k = 2 ∨ k = 3 ∨ k = 4 ∨ k = 5 := by omega
  rcases hc with rfl | rfl | rfl | rfl | rfl | rfl <;> rfl

/-- Each store waits for its load and its new row. -/
def sixW (ops : Array Oper) : Bool := (List.range 6).all fun k => awaits .any ops (12 + k) k && awaits .any ops (12 + k) (6 + k)
structure SixI (T : TypeId) (cs zs : List Value) (m : Nat) (a0 : Act) (w0 : World) (L : Nat → Bool) (a : Act) (w : World) (G : Nat → Nat) : Prop where
  sz : a.tmps.size = m
  df : a.defers = a0.defers
  out : ∀ t : Nat, ¬ (31 ≤ t ∧ t < 37) → ¬ (5 ≤ t ∧ t < 11) → a.eval (.tmp t) = a0.eval (.tmp t)
  bel : Below w0.heap.size w0 w
  vals : ∀ k, k < 6 → L k = true → a.eval (.tmp (31 + k)) = .agg cs.toArray
  ptr : ∀ k, k < 6 → L (6 + k) = true → a.eval (.tmp (5 + k)) = .pointer (some ⟨G k, 0, none⟩) ∧ w0.heap.size ≤ G k ∧ RowIs w (G k) T (if L (12 + k) = true then cs else zs)
  apart : ∀ k l, k < 6 → l < 6 → k ≠ l → L (6 + k) = true → L (6 + l) = true → G k ≠ G l
  late : ∀ k, k < 6 → L (12 + k) = true → L (6 + k) = true

theorem six_region {id m : Nat} {a0 : Act} {w0 : World} {T : TypeId} {g : Nat} {cs zs : List Value} {d : TypeDesc} {i0 : TypeInfo} {z : Value} (hm : P.follows .mixedOrders = true) (hok : regOk ops m = true) (hk : kinds ops = sixL T) (hw : sixW ops = true) (hsz : a0.tmps.size = m) (hm37 : 37 ≤ m)
    (h3 : a0.eval (.tmp 3) = .pointer (some ⟨g, 0, none⟩)) (hr : RowIs w0 g T cs) (hu : P.underlying T = some d) (hd : d.isRow = true) (hi : P.info? T = some i0) (hz : i0.zero = some z) (hzc : z.cells = zs.toArray) (hs0 : i0.size = cs.length) (hl : cs.length = zs.length) (hone : ∀ v ∈ cs, v.oneCell' = true)
    (hend : ∀ a w (G : Nat → Nat), a.tmps.size = m → a.defers = a0.defers → (∀ t : Nat, ¬ (31 ≤ t ∧ t < 37) → ¬ (5 ≤ t ∧ t < 11) → a.eval (.tmp t) = a0.eval (.tmp t)) → Below w0.heap.size w0 w →
      (∀ k, k < 6 → a.eval (.tmp (31 + k)) = .agg cs.toArray ∧ a.eval (.tmp (5 + k)) = .pointer (some ⟨G k, 0, none⟩) ∧ w0.heap.size ≤ G k ∧ RowIs w (G k) T cs) → (∀ k l, k < 6 → l < 6 → k ≠ l → G k ≠ G l) → Q .normal a w) :
    (Code.region id ops true).wp P Q a0 w0 := by
  have hsize : ops.size = 18 := by
    have := congrArg List.length hk
    simpa [kinds, sixL] using this
  have hat : ∀ i (o : Oper), ops[i]? = some o → (sixL T)[i]? = some (o.dst, o.op) := fun i o ho => by
    rw [← hk, kinds, List.getElem?_map, Array.getElem?_toList, ho]
    rfl
  have hinfo : (P.info? T).map (·.size) = some cs.length := by rw [hi]; simp [hs0]
  have hg : g < w0.heap.size := hr.lt
  refine wp_region_I (fun L a w => ∃ G, SixI T cs zs m a0 w0 L a w G) hm hok ?_ ?_ ?_
  · exact ⟨fun _ => 0, hsz, rfl, fun _ _ _ => rfl, (Below.refl _ _).drew, fun _ _ h => absurd h (by decide), fun _ _ h => absurd h (by decide), fun _ _ _ _ _ h => absurd h (by decide), fun _ _ h => absurd h (by decide)⟩
  · rintro i o L a w ho hLi hawt ⟨G, hI⟩
    have hlk := hat i o ho
    have hi18 : i < 18 := by rw [← hsize]; exact (Array.getElem?_eq_some_iff.1 ho).1
    have hrow : RowIs w g T cs := RowIs.below hr hI.bel hg
    by_cases h6 : i < 6
    · rw [sixL_load T i h6] at hlk
      obtain ⟨e1, e2⟩ := Prod.mk.inj (Option.some.inj hlk)
      have hx : a.eval (.tmp 3) = .pointer (some ⟨g, 0, none⟩) := (hI.out 3 (by omega) (by omega)).trans h3
      refine wp_load_mid T (.tmp 3) e2.symm g 0 hx cs d (hrow.range (by rw [List.drop_zero, List.take_length])) hu hd hinfo ⟨G, ?_⟩
      rw [← e1]
      refine ⟨by rw [size_put, hI.sz], by rw [defers_put, hI.df], fun t h1 h2 => ?_, hI.bel, fun k hk6 hL => ?_, fun k hk6 hL => ?_, fun k l hk6 hl6 hkl h1 h2 => hI.apart k l hk6 hl6 hkl (by simpa [show ¬ 6 + k = i by omega] using h1) (by simpa [show ¬ 6 + l = i by omega] using h2), fun k hk6 hL => ?_⟩
      · rw [eval_put_ne (by omega)]; exact hI.out t h1 h2
      · by_cases hki : k = i
        · subst hki
          rw [eval_put, if_pos ⟨rfl, by rw [hI.sz]; omega⟩]
        · rw [eval_put_ne (by omega)]
          exact hI.vals k hk6 (by simpa [hki] using hL)
      · have h6k : L (6 + k) = true := by simpa [show ¬ 6 + k = i by omega] using hL
        have := hI.ptr k hk6 h6k
        refine ⟨by rw [eval_put_ne (by omega)]; exact this.1, this.2.1, ?_⟩
        simp only [show ¬ 12 + k = i by omega, beq_iff_eq, Bool.or_eq_true, false_or]
        exact this.2.2
      · have : L (12 + k) = true := by simpa [show ¬ 12 + k = i by omega] using hL
        simp [hI.late k hk6 this]
    by_cases h12 : i < 12
    · obtain ⟨q, rfl⟩ : ∃ q, i = 6 + q := ⟨i - 6, by omega⟩
      have hq : q < 6 := by omega
      rw [sixL_alloc T q hq] at hlk
      obtain ⟨e1, e2⟩ := Prod.mk.inj (Option.some.inj hlk)
      have hno : L (12 + q) = false := by
        cases h : L (12 + q) with
        | false => rfl
        | true => exact absurd (hI.late q hq h) (by rw [hLi]; decide)
      have hrun : (execOp a.eval o).run P w = .ok (.value (.pointer (some ⟨w.heap.size, 0, none⟩))) (w.alloc (.cells z.cells T)) := by
        unfold execOp
        simp only [← e2, Sem.run_bind, run_alloc_zero T i0 z hi hz]
        rfl
      unfold Oper.wp
      rw [hrun]
      refine ⟨fun k => if k = q then w.heap.size else G k, ?_⟩
      rw [← e1, hzc]
      refine ⟨by rw [size_put, hI.sz], by rw [defers_put, hI.df], fun t h1 h2 => ?_, hI.bel.alloc hI.bel.size _, fun k hk6 hL => ?_, fun k hk6 hL => ?_, fun k l hk6 hl6 hkl h1 h2 => ?_, fun k hk6 hL => ?_⟩
      · rw [eval_put_ne (by omega)]; exact hI.out t h1 h2
      · rw [eval_put_ne (by omega)]
        exact hI.vals k hk6 (by simpa [show ¬ k = 6 + q by omega] using hL)
      · by_cases hkq : k = q
        · subst hkq
          rw [if_pos rfl]
          refine ⟨by rw [eval_put, if_pos ⟨rfl, by rw [hI.sz]; omega⟩], hI.bel.size, ?_⟩
          simp only [show ¬ 12 + k = 6 + k by omega, beq_iff_eq, Bool.or_eq_true, false_or, hno, Bool.false_eq_true, if_false]
          exact RowIs.new w T zs
        · rw [if_neg hkq]
          have h6k : L (6 + k) = true := by simpa [show ¬ k = q from hkq] using hL
          have := hI.ptr k hk6 h6k
          refine ⟨by rw [eval_put_ne (by omega)]; exact this.1, this.2.1, ?_⟩
          simp only [show ¬ 12 + k = 6 + q by omega, beq_iff_eq, Bool.or_eq_true, false_or]
          exact RowIs.alloc this.2.2 _
      · by_cases hkq : k = q
        · subst hkq
          rw [if_pos rfl, if_neg (Ne.symm hkl)]
          have h6l : L (6 + l) = true := by simpa [show ¬ l = k from Ne.symm hkl] using h2
          have := (hI.ptr l hl6 h6l).2.2.lt
          omega
        · have h6k : L (6 + k) = true := by simpa [show ¬ k = q from hkq] using h1
          rw [if_neg hkq]
          by_cases hlq : l = q
          · rw [if_pos hlq]
            have := (hI.ptr k hk6 h6k).2.2.lt
            omega
          · rw [if_neg hlq]
            exact hI.apart k l hk6 hl6 hkl h6k (by simpa [show ¬ l = q from hlq] using h2)
      · have h12k : L (12 + k) = true := by simpa [show ¬ 12 + k = 6 + q by omega] using hL
        simp [hI.late k hk6 h12k]
    · obtain ⟨q, rfl⟩ : ∃ q, i = 12 + q := ⟨i - 12, by omega⟩
      have hq : q < 6 := by omega
      rw [sixL_store T q hq] at hlk
      obtain ⟨e1, e2⟩ := Prod.mk.inj (Option.some.inj hlk)
      have hww := List.all_eq_true.1 hw q (List.mem_range.2 hq)
      rw [Bool.and_eq_true] at hww
      have hLv := hawt q hww.1
      have hLp := hawt (6 + q) hww.2
      obtain ⟨hp1, hp2, hp3⟩ := hI.ptr q hq hLp
      rw [hLi] at hp3
      simp only [Bool.false_eq_true, if_false] at hp3
      refine wp_store_mid T (.tmp (5 + q)) (.tmp (31 + q)) e2.symm (G q) 0 cs.toArray hp1 (hI.vals q hq hLv) (hp3.there (by simp [hl])) (by rw [hinfo]; simp) (all_oneCell_toArray hone) ⟨G, ?_⟩
      rw [← e1]
      have hput : RowIs (w.setCells (G q) 0 cs.toArray.toList) (G q) T cs := by
        have h1 := RowIs.sets cs.toArray.toList 0 hp3 (by simp [hl])
        have e : putAt zs 0 cs.toArray.toList = cs := by
          unfold putAt
          simp
          exact Nat.le_of_eq hl.symm
        rwa [e] at h1
      refine ⟨hI.sz, hI.df, hI.out, bel_setCells hI.bel hp2 _ _, fun k hk6 hL => hI.vals k hk6 (by simpa [show ¬ k = 12 + q by omega] using hL), fun k hk6 hL => ?_, fun k l hk6 hl6 hkl h1 h2 => hI.apart k l hk6 hl6 hkl (by simpa [show ¬ 6 + k = 12 + q by omega] using h1) (by simpa [show ¬ 6 + l = 12 + q by omega] using h2), fun k hk6 hL => ?_⟩
      · have h6k : L (6 + k) = true := by simpa [show ¬ 6 + k = 12 + q by omega] using hL
        have := hI.ptr k hk6 h6k
        refine ⟨this.1, this.2.1, ?_⟩
        by_cases hkq : k = q
        · subst hkq
          simp only [beq_self_eq_true, Bool.true_or, if_true]
          exact hput
        · simp only [show ¬ 12 + k = 12 + q by omega, beq_iff_eq, Bool.or_eq_true, false_or]
          show (w.setCells (G q) 0 _).heap[G k]? = _
          rw [heap_setCells _ _ _ _ _ (hI.apart k q hk6 hq hkq h6k hLp)]
          exact this.2.2
      · by_cases hkq : k = q
        · subst hkq; simp [hLp]
        · have h12k : L (12 + k) = true := by simpa [show ¬ k = q from hkq] using hL
          simp [hI.late k hk6 h12k]
  · rintro L a w hall ⟨G, hI⟩
    refine hend a w G hI.sz hI.df hI.out hI.bel (fun k hk6 => ?_) (fun k l hk6 hl6 hkl => hI.apart k l hk6 hl6 hkl (hall _ (by omega)) (hall _ (by omega)))
    obtain ⟨h1, h2, h3'⟩ := hI.ptr k hk6 (hall _ (by omega))
    rw [if_pos (hall _ (by omega))] at h3'
    exact ⟨hI.vals k hk6 (hall _ (by omega)), h1, h2, h3'⟩
end
end Go.Proofs.YtjemklgfenciaaaGreat

/-
  A region that draws its order and makes several things: each of a block of its own. No program is named here.
-/
namespace Go.Proofs.YtjemklgfenciaaaGreat
open Go.RowKit
set_option linter.unusedVariables false
set_option maxRecDepth 100000
set_option linter.unusedSimpArgs false

/-- The block that a value names first. -/
def blkOf : Value → Option Nat
  | .slice (some a) _ _ => some a.block
  | .pointer (some a) => some a.block
  | _ => none

section
variable {P : Program} {ops : Array Oper} {Q : Exit → Act → World → Prop}

/-- A step that makes something: of a block that was not there. -/
def StepM (P : Program) (Q : Exit → Act → World → Prop) (l : List (Option Tmp × Op)) (L : List (List Nat)) (F : List (Value → World → Prop)) (R : World → Prop) (a0 : Act) (i : Nat) : Prop :=
  ∀ (o : Oper), o.dst = (l.getD i noOp).1 → o.op = (l.getD i noOp).2 → ∀ a w, R w → (∀ t, some t ∉ l.map (·.1) → a.eval (.tmp t) = a0.eval (.tmp t)) →
    (∀ j ∈ L.getD i [], F.getD j (fun _ _ => True) (laidAt a (l.getD j noOp).1) w) →
    o.wp P a w (fun a' w' => ∃ v, a' = a.put o.dst v ∧ Below w.heap.size w w' ∧ F.getD i (fun _ _ => True) (keepIf o.dst v) w' ∧ ∀ k, blkOf (keepIf o.dst v) = some k → w.heap.size ≤ k ∧ k < w'.heap.size) Q

/-- A step that makes nothing: what it waits for is of blocks of its own each. -/
def StepN (P : Program) (Q : Exit → Act → World → Prop) (l : List (Option Tmp × Op)) (L : List (List Nat)) (F : List (Value → World → Prop)) (R : World → Prop) (mk : List Nat) (a0 : Act) (i : Nat) : Prop :=
  ∀ (o : Oper), o.dst = (l.getD i noOp).1 → o.op = (l.getD i noOp).2 → ∀ a w, R w → (∀ t, some t ∉ l.map (·.1) → a.eval (.tmp t) = a0.eval (.tmp t)) →
    (∀ j ∈ L.getD i [], F.getD j (fun _ _ => True) (laidAt a (l.getD j noOp).1) w) →
    (∀ p ∈ mk, ∀ q ∈ mk, p ∈ L.getD i [] → q ∈ L.getD i [] → p ≠ q → ∀ k, blkOf (laidAt a (l.getD p noOp).1) = some k → blkOf (laidAt a (l.getD q noOp).1) ≠ some k) →
    o.wp P a w (fun a' w' => ∃ v, a' = a.put o.dst v ∧ Below w.heap.size w w' ∧ F.getD i (fun _ _ => True) (keepIf o.dst v) w') Q

theorem wp_region_D {id m n : Nat} {a0 : Act} {w0 : World} (l : List (Option Tmp × Op)) (W : List (List Nat)) (F : List (Value → World → Prop)) (R : World → Prop) (mk : List Nat) (hm : P.follows .mixedOrders = true) (hok : regOk ops m = true) (hk : kinds ops = l) (hL : waitsL ops = W) (hn : l.length = n) (hsz : a0.tmps.size = m)
    (hR0 : R w0.drew) (hRG : ∀ w w', R w → Below w.heap.size w w' → R w') (hF : KeptAll F) (hmk : ∀ i ∈ mk, i < n)
    (hstep : ∀ i, i < n → i ∉ mk → StepN P Q l W F R mk a0 i)
    (hstepM : ∀ i, i ∈ mk → StepM P Q l W F R a0 i)
    (hend : ∀ a w, R w → a.tmps.size = m → a.defers = a0.defers → (∀ t, some t ∉ l.map (·.1) → a.eval (.tmp t) = a0.eval (.tmp t)) → (∀ j, j < n → F.getD j (fun _ _ => True) (laidAt a (l.getD j noOp).1) w) →
      (∀ i ∈ mk, ∀ j ∈ mk, i ≠ j → ∀ k, blkOf (laidAt a (l.getD i noOp).1) = some k → blkOf (laidAt a (l.getD j noOp).1) ≠ some k) → Q .normal a w) :
    (Code.region id ops true).wp P Q a0 w0 := by
  have hsize : ops.size = n := by
    have := congrArg List.length hk
    simp only [kinds, List.length_map, Array.length_toList] at this
    omega
  have hat : ∀ i (o : Oper), ops[i]? = some o → l.getD i noOp = (o.dst, o.op) ∧ i < n := fun i o ho => by
    have h1 : l[i]? = some (o.dst, o.op) := by
      rw [← hk]
      simp [kinds, ho]
    refine ⟨by rw [List.getD_eq_getElem?_getD, h1]; rfl, ?_⟩
    rw [← hn]
    exact (List.getElem?_eq_some_iff.1 h1).1
  have hall : ∀ (i : Nat), i < n → ∃ o : Oper, ops[i]? = some o ∧ l.getD i noOp = (o.dst, o.op) := fun i hi => by
    have hi' : i < ops.size := by omega
    exact ⟨ops[i], by simp [hi'], (hat i ops[i] (by simp [hi'])).1⟩
  have hWa : ∀ i j, j ∈ W.getD i [] → i < n → awaits .any ops i j = true ∧ j < n := fun i j hj hi => by
    rw [← hL, waitsL, List.getD_eq_getElem?_getD] at hj
    have hi2 : i < ops.size := by omega
    simp only [List.getElem?_map, List.getElem?_range hi2, Option.map_some, Option.getD_some, List.mem_filter, List.mem_range] at hj
    exact ⟨hj.2, by omega⟩
  have hds : ∀ (i : Nat) (o : Oper), ops[i]? = some o → o.dst ∈ l.map (·.1) := fun i o ho => by
    have h1 : l[i]? = some (o.dst, o.op) := by
      rw [← hk]
      simp [kinds, ho]
    exact List.mem_map.2 ⟨_, List.mem_of_getElem? h1, rfl⟩
  have hok' := hok
  unfold regOk at hok'
  simp only [Bool.and_eq_true] at hok'
  obtain ⟨⟨⟨hg, ht⟩, hnd⟩, hlt⟩ := hok'
  have hlt' : ∀ (i : Nat) (o : Oper) d, ops[i]? = some o → o.dst = some d → d < m := fun i o d ho hd => by
    have := Array.all_eq_true'.1 hlt o (Array.mem_of_getElem? ho)
    rw [hd] at this
    simpa using this
  have hdn : ∀ (i j : Nat) (oi oj : Oper), ops[i]? = some oi → ops[j]? = some oj → i ≠ j → ∀ t, oj.dst = some t → oi.dst ≠ some t := fun i j oi oj hi hj hij t hd he => by
    have h1 := List.all_eq_true.1 (List.all_eq_true.1 hnd i (List.mem_range.2 (Array.getElem?_eq_some_iff.1 hi).1)) j (List.mem_range.2 (Array.getElem?_eq_some_iff.1 hj).1)
    rw [hi, hj] at h1
    simp [hij, hd, he] at h1
  have hlaidPut : ∀ (a : Act) (d : Option Tmp) (v : Value), (∀ t, d = some t → t < a.tmps.size) → laidAt (a.put d v) d = keepIf d v := fun a d v h => by
    cases hd : d with
    | none => rfl
    | some t =>
      show (a.put (some t) v).eval (.tmp t) = v
      rw [eval_put, if_pos ⟨rfl, h t hd⟩]
  have hlaidNe : ∀ (a : Act) (d e : Option Tmp) (v : Value), (∀ t, e = some t → d ≠ some t) → laidAt (a.put d v) e = laidAt a e := fun a d e v h => by
    cases he : e with
    | none => rfl
    | some t =>
      cases hd : d with
      | none => rfl
      | some s => exact eval_put_ne (fun e' => h t he (by rw [hd, e']))
  have hLN : ∀ (i j : Nat) (oi : Oper) (a : Act) v, ops[i]? = some oi → j < n → i ≠ j → laidAt (a.put oi.dst v) (l.getD j noOp).1 = laidAt a (l.getD j noOp).1 := fun i j oi a v hi hj hij => by
    obtain ⟨oj, hoj, ej⟩ := hall j hj
    rw [ej]
    exact hlaidNe a _ _ v (fun t h => hdn i j oi oj hi hoj hij t h)
  have hLE : ∀ (i : Nat) (oi : Oper) (a : Act) v, ops[i]? = some oi → a.tmps.size = m → laidAt (a.put oi.dst v) (l.getD i noOp).1 = keepIf oi.dst v := fun i oi a v hi hs => by
    rw [(hat i oi hi).1]
    exact hlaidPut a _ v (fun t h => by rw [hs]; exact hlt' i oi t hi h)
  have hLO : ∀ (i : Nat) (oi : Oper) (a : Act) v, ops[i]? = some oi → (∀ t, some t ∉ l.map (·.1) → a.eval (.tmp t) = a0.eval (.tmp t)) → (∀ t, some t ∉ l.map (·.1) → (a.put oi.dst v).eval (.tmp t) = a0.eval (.tmp t)) := fun i oi a v hi hout t hto => by
    rw [← hout t hto]
    cases hd : oi.dst with
    | none => rfl
    | some d => exact eval_put_ne (fun e => hto (by rw [← e, ← hd]; exact hds i oi hi))
  refine wp_region_I (fun L a w => a.tmps.size = m ∧ a.defers = a0.defers ∧ (∀ t, some t ∉ l.map (·.1) → a.eval (.tmp t) = a0.eval (.tmp t)) ∧ R w ∧
    (∀ j, j < n → L j = true → F.getD j (fun _ _ => True) (laidAt a (l.getD j noOp).1) w) ∧
    (∀ j ∈ mk, L j = true → ∀ k, blkOf (laidAt a (l.getD j noOp).1) = some k → k < w.heap.size) ∧
    (∀ i ∈ mk, ∀ j ∈ mk, i ≠ j → L i = true → L j = true → ∀ k, blkOf (laidAt a (l.getD i noOp).1) = some k → blkOf (laidAt a (l.getD j noOp).1) ≠ some k)) hm hok ?_ ?_ ?_
  · exact ⟨hsz, rfl, fun _ _ => rfl, hR0, fun _ _ h => absurd h (by simp), fun _ _ h => absurd h (by simp), fun _ _ _ _ _ h => absurd h (by simp)⟩
  · rintro i o L a w ho hLi hawt ⟨hs, hd, hout, hR, hFs, hB, hA⟩
    obtain ⟨e1, hin⟩ := hat i o ho
    have e1d : o.dst = (l.getD i noOp).1 := by rw [e1]
    have e1o : o.op = (l.getD i noOp).2 := by rw [e1]
    have haw : ∀ j ∈ W.getD i [], F.getD j (fun _ _ => True) (laidAt a (l.getD j noOp).1) w := fun j hj => hFs j (hWa i j hj hin).2 (hawt j (hWa i j hj hin).1)
    have hpres : ∀ v j, j < n → j ≠ i → (j == i || L j) = true → L j = true ∧ laidAt (a.put o.dst v) (l.getD j noOp).1 = laidAt a (l.getD j noOp).1 := fun v j hj hji h =>
      ⟨by simpa [hji] using h, hLN i j o a v ho hj (Ne.symm hji)⟩
    by_cases him : i ∈ mk
    · refine Oper.wp_mono ?_ (hstepM i him o e1d e1o a w hR hout haw)
      rintro a' w' ⟨v, rfl, hb, h1, hfr⟩
      refine ⟨by rw [size_put, hs], by rw [defers_put, hd], hLO i o a v ho hout, hRG w w' hR hb, fun j hj h5 => ?_, fun j hj h5 k hk => ?_, fun j hj q hq hjq h5 h6 k hk => ?_⟩
      · by_cases hji : j = i
        · subst hji
          rw [hLE j o a v ho hs]; exact h1
        · obtain ⟨h6, h7⟩ := hpres v j hj hji h5
          rw [h7]
          exact hF.at j _ w w' hb (hFs j hj h6)
      · by_cases hji : j = i
        · subst hji
          rw [hLE j o a v ho hs] at hk
          exact (hfr k hk).2
        · obtain ⟨h6, h7⟩ := hpres v j (hmk j hj) hji h5
          rw [h7] at hk
          exact Nat.lt_of_lt_of_le (hB j hj h6 k hk) hb.size
      · by_cases hji : j = i
        · subst hji
          obtain ⟨h8, h9⟩ := hpres v q (hmk q hq) (Ne.symm hjq) h6
          rw [hLE j o a v ho hs] at hk
          rw [h9]
          intro h
          have h10 := hB q hq h8 k h
          have h11 := (hfr k hk).1
          omega
        · obtain ⟨h8, h9⟩ := hpres v j (hmk j hj) hji h5
          rw [h9] at hk
          have h10 := hB j hj h8 k hk
          by_cases hqi : q = i
          · subst hqi
            rw [hLE q o a v ho hs]
            intro h
            have h11 := (hfr k h).1
            omega
          · obtain ⟨h12, h13⟩ := hpres v q (hmk q hq) hqi h6
            rw [h13]
            exact hA j hj q hq hjq h8 h12 k hk
    · refine Oper.wp_mono ?_ (hstep i hin him o e1d e1o a w hR hout haw (fun p hp q hq h1 h2 h3 => hA p hp q hq h3 (hawt p (hWa i p h1 hin).1) (hawt q (hWa i q h2 hin).1)))
      rintro a' w' ⟨v, rfl, hb, h1⟩
      refine ⟨by rw [size_put, hs], by rw [defers_put, hd], hLO i o a v ho hout, hRG w w' hR hb, fun j hj h5 => ?_, fun j hj h5 k hk => ?_, fun j hj q hq hjq h5 h6 k hk => ?_⟩
      · by_cases hji : j = i
        · subst hji
          rw [hLE j o a v ho hs]; exact h1
        · obtain ⟨h6, h7⟩ := hpres v j hj hji h5
          rw [h7]
          exact hF.at j _ w w' hb (hFs j hj h6)
      · have hji : j ≠ i := fun e => him (e ▸ hj)
        obtain ⟨h6, h7⟩ := hpres v j (hmk j hj) hji h5
        rw [h7] at hk
        exact Nat.lt_of_lt_of_le (hB j hj h6 k hk) hb.size
      · have hji : j ≠ i := fun e => him (e ▸ hj)
        have hqi : q ≠ i := fun e => him (e ▸ hq)
        obtain ⟨h8, h9⟩ := hpres v j (hmk j hj) hji h5
        obtain ⟨h12, h13⟩ := hpres v q (hmk q hq) hqi h6
        rw [h9] at hk
        rw [h13]
        exact hA j hj q hq hjq h8 h12 k hk
  · rintro L a w hall' ⟨hs, hd, hout, hR, hFs, hB, hA⟩
    exact hend a w hR hs hd hout (fun j hj => hFs j hj (hall' j (by omega))) (fun i hi j hj hij => hA i hi j hj hij (hall' i (by have := hmk i hi; omega)) (hall' j (by have := hmk j hj; omega)))
end

end Go.Proofs.YtjemklgfenciaaaGreat

/-
  A region that draws its order, in which one operation turns memory (an append) and a later one stores what it gave: what is known ahead of the first, between the two, and behind the second. No program is named here.
-/
namespace Go.Proofs.YtjemklgfenciaaaGreat
open Go.RowKit
set_option linter.unusedVariables false
set_option maxRecDepth 100000
set_option linter.unusedSimpArgs false

section
variable {P : Program} {ops : Array Oper} {Q : Exit → Act → World → Prop}

theorem laid_put (a : Act) (d : Option Tmp) (v : Value) (h : ∀ t, d = some t → t < a.tmps.size) : laidAt (a.put d v) d = keepIf d v := by
  cases hd : d with
  | none => rfl
  | some t =>
    show (a.put (some t) v).eval (.tmp t) = v
    rw [eval_put, if_pos ⟨rfl, h t hd⟩]
theorem laid_ne (a : Act) (d e : Option Tmp) (v : Value) (h : ∀ t, e = some t → d ≠ some t) : laidAt (a.put d v) e = laidAt a e := by
  cases he : e with
  | none => rfl
  | some t =>
    cases hd : d with
    | none => rfl
    | some s => exact eval_put_ne (fun e' => h t he (by rw [hd, e']))
theorem ex_v {p : Prop} (h : ∃ _ : World, p) : p := h.elim fun _ e => e

/-- An operation that only computes: from the facts that those it waits for have left, its own, in whatever world. -/
def StepV (P : Program) (Q : Exit → Act → World → Prop) (l : List (Option Tmp × Op)) (W : List (List Nat)) (F : List (Value → World → Prop)) (a0 : Act) (p i : Nat) : Prop :=
  ∀ (o : Oper), o.dst = (l.getD i noOp).1 → o.op = (l.getD i noOp).2 → ∀ a w, (∀ t, some t ∉ l.map (·.1) → a.eval (.tmp t) = a0.eval (.tmp t)) →
    (∀ j ∈ W.getD i [], j ≠ p → ∃ w', F.getD j (fun _ _ => True) (laidAt a (l.getD j noOp).1) w') →
    o.wp P a w (fun a' w' => ∃ v, a' = a.put o.dst v ∧ w = w' ∧ ∃ w'', F.getD i (fun _ _ => True) (keepIf o.dst v) w'') Q
theorem st_w {o : Oper} {a : Act} {w : World} {d : Tmp} {v : Value} {f : Value → World → Prop} (hd : o.dst = some d) (h : (execOp a.eval o).run P w = .ok (.value v) w) (hf : ∃ w'', f v w'') :
    o.wp P a w (fun a' w' => ∃ v, a' = a.put o.dst v ∧ w = w' ∧ ∃ w'', f (keepIf o.dst v) w'') Q := by
  unfold Oper.wp
  rw [h, hd]
  exact ⟨v, by rw [← hd], rfl, hf⟩

theorem wp_region_K {id m n p q : Nat} {a0 : Act} {w0 : World} (l : List (Option Tmp × Op)) (W : List (List Nat)) (F : List (Value → World → Prop)) (R0 : World → Prop) (R1 R2 : Value → World → Prop) (mk : List Nat) (hm : P.follows .mixedOrders = true) (hok : regOk ops m = true) (hk : kinds ops = l) (hL : waitsL ops = W) (hn : l.length = n) (hsz : a0.tmps.size = m)
    (hpq : p ∈ W.getD q []) (hne : p ≠ q) (hqp : q < n) (hpn : p < n) (hmk : ∀ i ∈ mk, i ∈ W.getD p []) (hno : ∀ i, i < n → i ≠ p → i ≠ q → q ∉ W.getD i [])
    (hfree : ∀ i, i < n → i ∉ mk → ∀ v w w', F.getD i (fun _ _ => True) v w → F.getD i (fun _ _ => True) v w')
    (hR0 : R0 w0.drew) (hRG : ∀ w w', R0 w → Below w.heap.size w w' → R0 w') (hF : KeptAll F)
    (hstepV : ∀ i, i < n → i ≠ p → i ≠ q → i ∉ mk → StepV P Q l W F a0 p i)
    (hstepB : ∀ i, i ∈ mk → StepP P Q l W F R0 a0 i)
    (hstepP : ∀ (o : Oper), o.dst = (l.getD p noOp).1 → o.op = (l.getD p noOp).2 → ∀ a w, R0 w → (∀ t, some t ∉ l.map (·.1) → a.eval (.tmp t) = a0.eval (.tmp t)) →
      (∀ j ∈ W.getD p [], F.getD j (fun _ _ => True) (laidAt a (l.getD j noOp).1) w) → o.wp P a w (fun a' w' => ∃ v, a' = a.put o.dst v ∧ R1 (keepIf o.dst v) w') Q)
    (hstepQ : ∀ (o : Oper), o.dst = (l.getD q noOp).1 → o.op = (l.getD q noOp).2 → ∀ a w, R1 (laidAt a (l.getD p noOp).1) w → (∀ t, some t ∉ l.map (·.1) → a.eval (.tmp t) = a0.eval (.tmp t)) →
      (∀ j ∈ W.getD q [], j ≠ p → ∃ w', F.getD j (fun _ _ => True) (laidAt a (l.getD j noOp).1) w') → o.wp P a w (fun a' w' => ∃ v, a' = a.put o.dst v ∧ R2 (laidAt a (l.getD p noOp).1) w') Q)
    (hend : ∀ a w, a.tmps.size = m → a.defers = a0.defers → (∀ t, some t ∉ l.map (·.1) → a.eval (.tmp t) = a0.eval (.tmp t)) → R2 (laidAt a (l.getD p noOp).1) w → (∀ j, j < n → j ≠ p → j ≠ q → ∃ w', F.getD j (fun _ _ => True) (laidAt a (l.getD j noOp).1) w') → Q .normal a w) :
    (Code.region id ops true).wp P Q a0 w0 := by
  have hsize : ops.size = n := by
    have := congrArg List.length hk
    simp only [kinds, List.length_map, Array.length_toList] at this
    omega
  have hat : ∀ i (o : Oper), ops[i]? = some o → l.getD i noOp = (o.dst, o.op) ∧ i < n := fun i o ho => by
    have h1 : l[i]? = some (o.dst, o.op) := by
      rw [← hk]
      simp [kinds, ho]
    refine ⟨by rw [List.getD_eq_getElem?_getD, h1]; rfl, ?_⟩
    rw [← hn]
    exact (List.getElem?_eq_some_iff.1 h1).1
  have hall : ∀ (i : Nat), i < n → ∃ o : Oper, ops[i]? = some o ∧ l.getD i noOp = (o.dst, o.op) := fun i hi => by
    have hi' : i < ops.size := by omega
    exact ⟨ops[i], by simp [hi'], (hat i ops[i] (by simp [hi'])).1⟩
  have hWa : ∀ i j, j ∈ W.getD i [] → i < n → awaits .any ops i j = true ∧ j < n := fun i j hj hi => by
    rw [← hL, waitsL, List.getD_eq_getElem?_getD] at hj
    have hi2 : i < ops.size := by omega
    simp only [List.getElem?_map, List.getElem?_range hi2, Option.map_some, Option.getD_some, List.mem_filter, List.mem_range] at hj
    exact ⟨hj.2, by omega⟩
  have hds : ∀ (i : Nat) (o : Oper), ops[i]? = some o → o.dst ∈ l.map (·.1) := fun i o ho => by
    have h1 : l[i]? = some (o.dst, o.op) := by
      rw [← hk]
      simp [kinds, ho]
    exact List.mem_map.2 ⟨_, List.mem_of_getElem? h1, rfl⟩
  have hok' := hok
  unfold regOk at hok'
  simp only [Bool.and_eq_true] at hok'
  obtain ⟨⟨⟨hg, ht⟩, hnd⟩, hlt⟩ := hok'
  have hlt' : ∀ (i : Nat) (o : Oper) d, ops[i]? = some o → o.dst = some d → d < m := fun i o d ho hd => by
    have := Array.all_eq_true'.1 hlt o (Array.mem_of_getElem? ho)
    rw [hd] at this
    simpa using this
  have hdn : ∀ (i j : Nat) (oi oj : Oper), ops[i]? = some oi → ops[j]? = some oj → i ≠ j → ∀ t, oj.dst = some t → oi.dst ≠ some t := fun i j oi oj hi hj hij t hd he => by
    have h1 := List.all_eq_true.1 (List.all_eq_true.1 hnd i (List.mem_range.2 (Array.getElem?_eq_some_iff.1 hi).1)) j (List.mem_range.2 (Array.getElem?_eq_some_iff.1 hj).1)
    rw [hi, hj] at h1
    simp [hij, hd, he] at h1
  -- what laying a value leaves
  have hLN : ∀ (i j : Nat) (oi : Oper) (a : Act) v, ops[i]? = some oi → j < n → i ≠ j → laidAt (a.put oi.dst v) (l.getD j noOp).1 = laidAt a (l.getD j noOp).1 := fun i j oi a v hi hj hij => by
    obtain ⟨oj, hoj, ej⟩ := hall j hj
    rw [ej]
    exact laid_ne a _ _ v (fun t h => hdn i j oi oj hi hoj hij t h)
  have hLE : ∀ (i : Nat) (oi : Oper) (a : Act) v, ops[i]? = some oi → a.tmps.size = m → laidAt (a.put oi.dst v) (l.getD i noOp).1 = keepIf oi.dst v := fun i oi a v hi hs => by
    rw [(hat i oi hi).1]
    exact laid_put a _ v (fun t h => by rw [hs]; exact hlt' i oi t hi h)
  have hLO : ∀ (i : Nat) (oi : Oper) (a : Act) v, ops[i]? = some oi → (∀ t, some t ∉ l.map (·.1) → a.eval (.tmp t) = a0.eval (.tmp t)) → (∀ t, some t ∉ l.map (·.1) → (a.put oi.dst v).eval (.tmp t) = a0.eval (.tmp t)) := fun i oi a v hi hout t hto => by
    rw [← hout t hto]
    cases hd : oi.dst with
    | none => rfl
    | some d => exact eval_put_ne (fun e => hto (by rw [← e, ← hd]; exact hds i oi hi))
  refine wp_region_I (fun L a w => a.tmps.size = m ∧ a.defers = a0.defers ∧ (∀ t, some t ∉ l.map (·.1) → a.eval (.tmp t) = a0.eval (.tmp t)) ∧ (∀ i j, i < n → L i = true → j ∈ W.getD i [] → L j = true) ∧
    ((L p = false ∧ L q = false ∧ R0 w ∧ ∀ j, j < n → L j = true → F.getD j (fun _ _ => True) (laidAt a (l.getD j noOp).1) w) ∨
     (L p = true ∧ ((L q = false ∧ R1 (laidAt a (l.getD p noOp).1) w) ∨ (L q = true ∧ R2 (laidAt a (l.getD p noOp).1) w)) ∧ ∀ j, j < n → j ≠ p → j ≠ q → L j = true → ∃ w', F.getD j (fun _ _ => True) (laidAt a (l.getD j noOp).1) w'))) hm hok ?_ ?_ ?_
  · exact ⟨hsz, rfl, fun _ _ => rfl, fun _ _ _ h => absurd h (by simp), Or.inl ⟨rfl, rfl, hR0, fun _ _ h => absurd h (by simp)⟩⟩
  · rintro i o L a w ho hLi hawt ⟨hs, hd, hout, hcl, hph⟩
    obtain ⟨e1, hin⟩ := hat i o ho
    have e1d : o.dst = (l.getD i noOp).1 := by rw [e1]
    have e1o : o.op = (l.getD i noOp).2 := by rw [e1]
    have hcl' : ∀ i' j, i' < n → (i' == i || L i') = true → j ∈ W.getD i' [] → (j == i || L j) = true := fun i' j hi' h hj => by
      by_cases hii : i' = i
      · subst hii
        rw [hawt j (hWa i' j hj hi').1, Bool.or_true]
      · have h2 : L i' = true := by simpa [hii] using h
        rw [hcl i' j hi' h2 hj, Bool.or_true]
    have hpres : ∀ v j, j < n → j ≠ i → (j == i || L j) = true → L j = true ∧ laidAt (a.put o.dst v) (l.getD j noOp).1 = laidAt a (l.getD j noOp).1 := fun v j hj hji h =>
      ⟨by simpa [hji] using h, hLN i j o a v ho hj (Ne.symm hji)⟩
    rcases hph with ⟨hLp, hLq, hR, hFs⟩ | ⟨hLp, hph, hFs⟩
    · by_cases hip : i = p
      · subst hip
        refine Oper.wp_mono ?_ (hstepP o e1d e1o a w hR hout (fun j hj => hFs j (hWa i j hj hin).2 (hawt j (hWa i j hj hin).1)))
        rintro a' w' ⟨v, rfl, h1⟩
        refine ⟨by rw [size_put, hs], by rw [defers_put, hd], hLO i o a v ho hout, hcl', Or.inr ⟨by simp, Or.inl ⟨by simp [Ne.symm hne, hLq], by rw [hLE i o a v ho hs]; exact h1⟩, fun j hj h3 h4 h5 => ?_⟩⟩
        obtain ⟨h6, h7⟩ := hpres v j hj h3 h5
        rw [h7]
        exact ⟨w, hFs j hj h6⟩
      by_cases hiq : i = q
      · subst hiq
        have := hawt p (hWa i p hpq hin).1
        rw [hLp] at this; cases this
      by_cases him : i ∈ mk
      · refine Oper.wp_mono ?_ (hstepB i him o e1d e1o a w hR hout (fun j hj => hFs j (hWa i j hj hin).2 (hawt j (hWa i j hj hin).1)))
        rintro a' w' ⟨v, rfl, hb, h1⟩
        refine ⟨by rw [size_put, hs], by rw [defers_put, hd], hLO i o a v ho hout, hcl', Or.inl ⟨by simp [Ne.symm hip, hLp], by simp [Ne.symm hiq, hLq], hRG w w' hR hb, fun j hj h5 => ?_⟩⟩
        by_cases hji : j = i
        · subst hji
          rw [hLE j o a v ho hs]; exact h1
        · obtain ⟨h6, h7⟩ := hpres v j hj hji h5
          rw [h7]
          exact hF.at j _ w w' hb (hFs j hj h6)
      · refine Oper.wp_mono ?_ (hstepV i hin hip hiq him o e1d e1o a w hout (fun j hj _ => ⟨w, hFs j (hWa i j hj hin).2 (hawt j (hWa i j hj hin).1)⟩))
        rintro a' w' ⟨v, rfl, rfl, w'', h1⟩
        refine ⟨by rw [size_put, hs], by rw [defers_put, hd], hLO i o a v ho hout, hcl', Or.inl ⟨by simp [Ne.symm hip, hLp], by simp [Ne.symm hiq, hLq], hR, fun j hj h5 => ?_⟩⟩
        by_cases hji : j = i
        · subst hji
          rw [hLE j o a v ho hs]; exact hfree j hj him _ _ _ h1
        · obtain ⟨h6, h7⟩ := hpres v j hj hji h5
          rw [h7]
          exact hFs j hj h6
    · by_cases hip : i = p
      · subst hip
        rw [hLp] at hLi; cases hLi
      have him : i ∉ mk := fun h => by
        have := hcl p i hpn hLp (hmk i h)
        rw [hLi] at this; cases this
      by_cases hiq : i = q
      · subst hiq
        rcases hph with ⟨_, h1⟩ | ⟨h, _⟩
        case inr => rw [hLi] at h; cases h
        refine Oper.wp_mono ?_ (hstepQ o e1d e1o a w h1 hout (fun j hj hjp => hFs j (hWa i j hj hin).2 hjp (fun e => by
          have := hawt j (hWa i j hj hin).1
          rw [e, hLi] at this; cases this) (hawt j (hWa i j hj hin).1)))
        rintro a' w' ⟨v, rfl, h2⟩
        refine ⟨by rw [size_put, hs], by rw [defers_put, hd], hLO i o a v ho hout, hcl', Or.inr ⟨by simp [hLp], Or.inr ⟨by simp, by rw [hLN i p o a v ho hpn (Ne.symm hne)]; exact h2⟩, fun j hj h3 h4 h5 => ?_⟩⟩
        obtain ⟨h6, h7⟩ := hpres v j hj h4 h5
        rw [h7]
        exact hFs j hj h3 h4 h6
      · have hn2 := hno i hin hip hiq
        refine Oper.wp_mono ?_ (hstepV i hin hip hiq him o e1d e1o a w hout (fun j hj hjp => hFs j (hWa i j hj hin).2 hjp (fun e => hn2 (e ▸ hj)) (hawt j (hWa i j hj hin).1)))
        rintro a' w' ⟨v, rfl, rfl, w'', h1⟩
        have hpp := hLN i p o a v ho hpn hip
        refine ⟨by rw [size_put, hs], by rw [defers_put, hd], hLO i o a v ho hout, hcl', Or.inr ⟨by simp [hLp], ?_, fun j hj h3 h4 h5 => ?_⟩⟩
        · rw [hpp]
          rcases hph with ⟨g1, g2⟩ | ⟨g1, g2⟩
          · exact Or.inl ⟨by simp [Ne.symm hiq, g1], g2⟩
          · exact Or.inr ⟨by simp [g1], g2⟩
        · by_cases hji : j = i
          · subst hji
            rw [hLE j o a v ho hs]; exact ⟨w'', h1⟩
          · obtain ⟨h6, h7⟩ := hpres v j hj hji h5
            rw [h7]
            exact hFs j hj h3 h4 h6
  · rintro L a w hall' ⟨hs, hd, hout, hcl, hph⟩
    have hL' : ∀ i, i < n → L i = true := fun i hi => hall' i (by omega)
    rcases hph with ⟨h, _⟩ | ⟨hLp, hph, hFs⟩
    · rw [hL' p hpn] at h; cases h
    · rcases hph with ⟨h, _⟩ | ⟨_, h2⟩
      · rw [hL' q hqp] at h; cases h
      · exact hend a w hs hd hout h2 (fun j hj h3 h4 => hFs j hj h3 h4 (hL' j hj))
end
end Go.Proofs.YtjemklgfenciaaaGreat

/-
  A region that draws its order, whose last operation waits for all others, and turns memory. No program is named here.
-/
namespace Go.Proofs.YtjemklgfenciaaaGreat
open Go.RowKit
set_option linter.unusedVariables false
set_option maxRecDepth 100000
set_option linter.unusedSimpArgs false

section
variable {P : Program} {ops : Array Oper} {Q : Exit → Act → World → Prop}

theorem wp_region_Q {id m n q : Nat} {a0 : Act} {w0 : World} (l : List (Option Tmp × Op)) (W : List (List Nat)) (F : List (Value → World → Prop)) (R : World → Prop) (hm : P.follows .mixedOrders = true) (hok : regOk ops m = true) (hk : kinds ops = l) (hL : waitsL ops = W) (hn : l.length = n) (hsz : a0.tmps.size = m)
    (hqn : q < n) (hqa : ∀ L : Nat → Bool, (∀ i, i < n → L i = true → ∀ j ∈ W.getD i [], L j = true) → (∀ j ∈ W.getD q [], L j = true) → ∀ j, j < n → j ≠ q → L j = true)
    (hR0 : R w0.drew) (hRG : ∀ w w', R w → Below w.heap.size w w' → R w') (hF : KeptAll F)
    (hstep : ∀ i, i < n → i ≠ q → StepP P Q l W F R a0 i)
    (hlast : ∀ (o : Oper), o.dst = (l.getD q noOp).1 → o.op = (l.getD q noOp).2 → ∀ a w, R w → a.tmps.size = m → a.defers = a0.defers → (∀ t, some t ∉ l.map (·.1) → a.eval (.tmp t) = a0.eval (.tmp t)) →
      (∀ j, j < n → j ≠ q → F.getD j (fun _ _ => True) (laidAt a (l.getD j noOp).1) w) → o.wp P a w (fun a' w' => Q .normal a' w') Q) :
    (Code.region id ops true).wp P Q a0 w0 := by
  have hsize : ops.size = n := by
    have := congrArg List.length hk
    simp only [kinds, List.length_map, Array.length_toList] at this
    omega
  have hat : ∀ i (o : Oper), ops[i]? = some o → l.getD i noOp = (o.dst, o.op) ∧ i < n := fun i o ho => by
    have h1 : l[i]? = some (o.dst, o.op) := by
      rw [← hk]
      simp [kinds, ho]
    refine ⟨by rw [List.getD_eq_getElem?_getD, h1]; rfl, ?_⟩
    rw [← hn]
    exact (List.getElem?_eq_some_iff.1 h1).1
  have hall : ∀ (i : Nat), i < n → ∃ o : Oper, ops[i]? = some o ∧ l.getD i noOp = (o.dst, o.op) := fun i hi => by
    have hi' : i < ops.size := by omega
    exact ⟨ops[i], by simp [hi'], (hat i ops[i] (by simp [hi'])).1⟩
  have hWa : ∀ i j, j ∈ W.getD i [] → i < n → awaits .any ops i j = true ∧ j < n := fun i j hj hi => by
    rw [← hL, waitsL, List.getD_eq_getElem?_getD] at hj
    have hi2 : i < ops.size := by omega
    simp only [List.getElem?_map, List.getElem?_range hi2, Option.map_some, Option.getD_some, List.mem_filter, List.mem_range] at hj
    exact ⟨hj.2, by omega⟩
  have hok2 := hok
  unfold regOk at hok2
  simp only [Bool.and_eq_true] at hok2
  obtain ⟨⟨⟨hg, ht⟩, hnd⟩, hlt⟩ := hok2
  have hne : ∀ i j (oi oj : Oper) t, ops[i]? = some oi → ops[j]? = some oj → i ≠ j → oi.dst = some t → oj.dst ≠ some t := fun i j oi oj t hi hj hij hd he => by
    have h1 := List.all_eq_true.1 (List.all_eq_true.1 hnd i (List.mem_range.2 (Array.getElem?_eq_some_iff.1 hi).1)) j (List.mem_range.2 (Array.getElem?_eq_some_iff.1 hj).1)
    rw [hi, hj] at h1
    simp [hij, hd, he] at h1
  have hlt' : ∀ i (o : Oper) d, ops[i]? = some o → o.dst = some d → d < m := fun i o d ho hd => by
    have := Array.all_eq_true'.1 hlt o (Array.mem_of_getElem? ho)
    rw [hd] at this
    simpa using this
  refine wp_region_I (fun L a w => (∀ i, i < n → L i = true → ∀ j ∈ W.getD i [], L j = true) ∧ ((L q = false ∧ R w ∧ a.tmps.size = m ∧ a.defers = a0.defers ∧ (∀ t, some t ∉ l.map (·.1) → a.eval (.tmp t) = a0.eval (.tmp t)) ∧ ∀ j, j < n → L j = true → F.getD j (fun _ _ => True) (laidAt a (l.getD j noOp).1) w) ∨
    ((∀ j, j < n → L j = true) ∧ Q .normal a w))) hm hok ⟨fun i _ h => (by cases h), Or.inl ⟨rfl, hR0, hsz, rfl, fun _ _ => rfl, fun _ _ h => (by cases h)⟩⟩ ?_ ?_
  · intro i o L a w ho hLi haw hI
    obtain ⟨e1, hi⟩ := hat i o ho
    obtain ⟨hcl, hI⟩ := hI
    have hWL : ∀ j ∈ W.getD i [], L j = true := fun j hj => haw j (hWa i j hj hi).1
    have hcl2 : ∀ k, k < n → (k == i || L k) = true → ∀ j ∈ W.getD k [], (j == i || L j) = true := fun k hk hk2 j hj => by
      by_cases e : k = i
      · subst e
        rw [hWL j hj, Bool.or_true]
      · have : L k = true := by simpa [e] using hk2
        rw [hcl k hk this j hj, Bool.or_true]
    rcases hI with ⟨hq, hR, hsa, hda, hout, hJ⟩ | ⟨hA, _⟩
    · by_cases e : i = q
      · subst e
        have hA : ∀ j, j < n → j ≠ i → L j = true := hqa L hcl hWL
        refine Oper.wp_mono (fun a' w' hQ => ⟨hcl2, Or.inr ⟨fun j hj => ?_, hQ⟩⟩) (hlast o (by rw [e1]) (by rw [e1]) a w hR hsa hda hout (fun j hj hne => hJ j hj (hA j hj hne)))
        by_cases e : j = i
        · simp [e]
        · show (j == i || L j) = true
          rw [hA j hj e, Bool.or_true]
      · refine Oper.wp_mono ?_ (hstep i hi e o (by rw [e1]) (by rw [e1]) a w hR hout (fun j hj => hJ j (hWa i j hj hi).2 (hWL j hj)))
        rintro a' w' ⟨v, rfl, hB, hFi⟩
        have hdl : ∀ t, o.dst = some t → t < a.tmps.size := fun t hd => by rw [hsa]; exact hlt' i o t ho hd
        refine ⟨hcl2, Or.inl ⟨by simp [hq, Ne.symm e], hRG w w' hR hB, by rw [size_put, hsa], by rw [defers_put, hda], fun t hto => ?_, fun j hj hj2 => ?_⟩⟩
        · rw [← hout t hto]
          cases hd : o.dst with
          | none => rfl
          | some d => exact eval_put_ne (fun e => hto (by
              rw [← e, ← hd, ← hk]
              exact List.mem_map.2 ⟨(o.dst, o.op), by
                unfold kinds
                exact List.mem_map.2 ⟨o, by simpa using Array.mem_of_getElem? ho, rfl⟩, rfl⟩))
        · by_cases ej : j = i
          · subst ej
            rw [e1]
            show F.getD j (fun _ _ => True) (laidAt (a.put o.dst v) o.dst) w'
            rw [laid_put a o.dst v hdl]
            exact hFi
          · have hLj : L j = true := by simpa [ej] using hj2
            obtain ⟨oj, hoj, ej1⟩ := hall j hj
            have h1 := hJ j hj hLj
            rw [ej1] at h1 ⊢
            show F.getD j (fun _ _ => True) (laidAt (a.put o.dst v) oj.dst) w'
            rw [laid_ne a o.dst oj.dst v (fun t ht hd => hne j i oj o t hoj ho ej ht hd)]
            exact hF.at j _ w w' hB h1
    · exact absurd (hA i hi) (by rw [hLi]; decide)
  · intro L a w hA hI
    rcases hI.2 with ⟨hq, _⟩ | ⟨_, hQ⟩
    · exact absurd (hA q (by omega)) (by rw [hq]; decide)
    · exact hQ
end

end Go.Proofs.YtjemklgfenciaaaGreat
