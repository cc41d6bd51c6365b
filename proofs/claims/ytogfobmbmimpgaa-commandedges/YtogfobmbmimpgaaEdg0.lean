/-
  CommandEdges' two regions that draw their order: six copies of a command, and two texts of zeros made and put.
-/
import Derived.Test.YtogfobmbmimpgaaReg3
import Derived.Test.YtogfobmbmimpgaaOct12
import Derived.Test.YtogfobmbmimpgaaAlive10
namespace Go.Proofs.Ytogfobmbmimpgaa
open Go.RowKit
set_option linter.unusedVariables false
set_option maxRecDepth 100000
set_option linter.unusedSimpArgs false

theorem act_ext {a b : Act} (hs : a.tmps.size = b.tmps.size) (hd : a.defers = b.defers) (h : ∀ t : Nat, a.eval (.tmp t) = b.eval (.tmp t)) : a = b := by
  obtain ⟨ta, da⟩ := a
  obtain ⟨tb, db⟩ := b
  simp only at hd hs
  subst hd
  congr 1
  apply Array.ext hs
  intro i h1 h2
  have := h i
  simpa [Act.eval, h1, h2] using this
/-- The frame behind the six copies. -/
def sixPut (a0 : Act) (v : Value) (G : Nat → Nat) : Act :=
  ((((((((((((a0.put (some 31) v).put (some 32) v).put (some 33) v).put (some 34) v).put (some 35) v).put (some 36) v).put (some 5) (.pointer (some ⟨G 0, 0, none⟩))).put (some 6) (.pointer (some ⟨G 1, 0, none⟩))).put (some 7) (.pointer (some ⟨G 2, 0, none⟩))).put (some 8) (.pointer (some ⟨G 3, 0, none⟩))).put (some 9) (.pointer (some ⟨G 4, 0, none⟩))).put (some 10) (.pointer (some ⟨G 5, 0, none⟩)))
theorem six_put {P : Program} {ops : Array Oper} {Q : Exit → Act → World → Prop} {id m : Nat} {a0 : Act} {w0 : World} {T : TypeId} {g : Nat} {cs zs : List Value} {d : TypeDesc} {i0 : TypeInfo} {z : Value} (hm : P.follows .mixedOrders = true) (hok : regOk ops m = true) (hk : kinds ops = sixL T) (hw : sixW ops = true) (hsz : a0.tmps.size = m) (hm37 : 37 ≤ m)
    (h3 : a0.eval (.tmp 3) = .pointer (some ⟨g, 0, none⟩)) (hr : RowIs w0 g T cs) (hu : P.underlying T = some d) (hd : d.isRow = true) (hi : P.info? T = some i0) (hz : i0.zero = some z) (hzc : z.cells = zs.toArray) (hs0 : i0.size = cs.length) (hl : cs.length = zs.length) (hone : ∀ v ∈ cs, v.oneCell' = true)
    (hend : ∀ w (G : Nat → Nat), Below w0.heap.size w0 w → (∀ k, k < 6 → w0.heap.size ≤ G k ∧ RowIs w (G k) T cs) → (∀ k l, k < 6 → l < 6 → k ≠ l → G k ≠ G l) → Q .normal (sixPut a0 (.agg cs.toArray) G) w) :
    (Code.region id ops true).wp P Q a0 w0 := by
  refine six_region hm hok hk hw hsz hm37 h3 hr hu hd hi hz hzc hs0 hl hone ?_
  intro a w G hs hdf hout hb hv hap
  have e : a = sixPut a0 (.agg cs.toArray) G := by
    refine act_ext (by simp only [sixPut, size_put]; rw [hs, hsz]) (by simp only [sixPut, defers_put]; exact hdf) (fun t => ?_)
    unfold sixPut
    have v0 := hv 0 (by decide)
    have v1 := hv 1 (by decide)
    have v2 := hv 2 (by decide)
    have v3 := hv 3 (by decide)
    have v4 := hv 4 (by decide)
    have v5 := hv 5 (by decide)
    by_cases h1 : 31 ≤ t ∧ t < 37
    · have hc : t = 31 ∨ t = 32 ∨ t = 33 ∨ t = 34 ∨ t = 35 ∨ t = 36 := by omega
      rcases hc with rfl | rfl | rfl | rfl | rfl | rfl
      · exact v0.1.trans (by simp only [eval_put, size_put, hsz]; simp; omega)
      · exact v1.1.trans (by simp only [eval_put, size_put, hsz]; simp; omega)
      · exact v2.1.trans (by simp only [eval_put, size_put, hsz]; simp; omega)
      · exact v3.1.trans (by simp only [eval_put, size_put, hsz]; simp; omega)
      · exact v4.1.trans (by simp only [eval_put, size_put, hsz]; simp; omega)
      · exact v5.1.trans (by simp only [eval_put, size_put, hsz]; simp; omega)
    · by_cases h2 : 5 ≤ t ∧ t < 11
      · have hc : t = 5 ∨ t = 6 ∨ t = 7 ∨ t = 8 ∨ t = 9 ∨ t = 10 := by omega
        rcases hc with rfl | rfl | rfl | rfl | rfl | rfl
        · exact v0.2.1.trans (by simp only [eval_put, size_put, hsz]; simp; omega)
        · exact v1.2.1.trans (by simp only [eval_put, size_put, hsz]; simp; omega)
        · exact v2.2.1.trans (by simp only [eval_put, size_put, hsz]; simp; omega)
        · exact v3.2.1.trans (by simp only [eval_put, size_put, hsz]; simp; omega)
        · exact v4.2.1.trans (by simp only [eval_put, size_put, hsz]; simp; omega)
        · exact v5.2.1.trans (by simp only [eval_put, size_put, hsz]; simp; omega)
      · rw [eval_put_ne (by omega), eval_put_ne (by omega), eval_put_ne (by omega), eval_put_ne (by omega), eval_put_ne (by omega), eval_put_ne (by omega), eval_put_ne (by omega), eval_put_ne (by omega), eval_put_ne (by omega), eval_put_ne (by omega), eval_put_ne (by omega), eval_put_ne (by omega)]
        exact hout t h1 h2
  rw [e]
  exact hend w G hb (fun k hk6 => ⟨(hv k hk6).2.2.1, (hv k hk6).2.2.2⟩) hap

def twoL : List (Option Tmp × Op) :=
  [(some 41, .makeSlice 35 (.const (.int .i64 500)) (.const (.int .i64 500))), (some 42, .convert 35 9 (.tmp 41)),
   (some 43, .makeSlice 35 (.const (.int .i64 501)) (.const (.int .i64 501))), (some 44, .convert 35 9 (.tmp 43)),
   (some 45, .fieldAddr 23 (.tmp 9) 2), (none, .store 9 (.tmp 45) (.tmp 42)),
   (some 46, .fieldAddr 23 (.tmp 10) 2), (none, .store 9 (.tmp 46) (.tmp 44))]
def twoW (ops : Array Oper) : Bool := awaits .any ops 1 0 && awaits .any ops 3 2 && awaits .any ops 5 4 && awaits .any ops 5 1 && awaits .any ops 7 6 && awaits .any ops 7 3
def zv (b : Bool) (n : Nat) : Value := .string (if b then zeros n else ⟨#[]⟩)
abbrev cRow (op : Int) (k : ByteArray) (v : Value) (nu ve : Int) : List Value := [.int .i64 op, .string k, v, .int .i64 nu, .int .i64 ve]
structure TwoI (m : Nat) (a0 : Act) (w0 : World) (ge gg : Nat) (op : Int) (k : ByteArray) (L : Nat → Bool) (a : Act) (w : World) : Prop where
  sz : a.tmps.size = m
  df : a.defers = a0.defers
  out : ∀ t : Nat, ¬ (41 ≤ t ∧ t < 47) → a.eval (.tmp t) = a0.eval (.tmp t)
  touch : Touch (fun j => j = ge ∨ j = gg) w0 w
  m1 : L 0 = true → ∃ g, a.eval (.tmp 41) = .slice (some ⟨g, 0, none⟩) 500 500 ∧ w.heap[g]? = some (zeroRow 500) ∧ w0.heap.size ≤ g
  c1 : L 1 = true → a.eval (.tmp 42) = .string (zeros 500)
  m2 : L 2 = true → ∃ g, a.eval (.tmp 43) = .slice (some ⟨g, 0, none⟩) 501 501 ∧ w.heap[g]? = some (zeroRow 501) ∧ w0.heap.size ≤ g
  c2 : L 3 = true → a.eval (.tmp 44) = .string (zeros 501)
  f1 : L 4 = true → a.eval (.tmp 45) = .pointer (some ⟨ge, 2, none⟩)
  f2 : L 6 = true → a.eval (.tmp 46) = .pointer (some ⟨gg, 2, none⟩)
  re : RowIs w ge 23 (cRow op k (zv (L 5) 500) 0 0)
  rg : RowIs w gg 23 (cRow op k (zv (L 7) 501) 0 0)
theorem st_val {P : Program} {Q : Exit → Act → World → Prop} {o : Oper} {a : Act} {w w' : World} {d : Tmp} {v : Value} {K : Act → World → Prop} (hd : o.dst = some d) (h : (execOp a.eval o).run P w = .ok (.value v) w') (hk : K (a.put (some d) v) w') : o.wp P a w K Q := by
  unfold Oper.wp
  rw [h]
  show K (a.put o.dst v) w'
  rw [hd]
  exact hk
theorem wp_storeS' {P : Program} {Q : Exit → Act → World → Prop} {o : Oper} {a : Act} {w : World} {K : Act → World → Prop} {t : TypeId} {x y : Operand} {p : Addr} {s : ByteArray} {v : Value} (ho : o.op = .store t x y) (hd : o.dst = none) (hx : a.eval x = .pointer (some p)) (hy : a.eval y = .string s)
    (hz : (P.info? t).map (·.size) = some 1) (hc : w.cell? p = some v) (hf : w.frozen? p = false) (h : K a (w.setCell p (.string s))) : o.wp P a w K Q := by
  have hrun : (Instr.storeAt t (.pointer (some p)) (.string s)).run P w = .ok () (w.setCell p (.string s)) := by
    have hz' : (sizeOf t).run P w = .ok 1 w := by
      cases hi : P.info? t with
      | none => simp [hi] at hz
      | some i => simp [hi] at hz; simp [sizeOf, typeInfo, hi, hz]
    simp [go_sem, hz', hc, hf]
  unfold Oper.wp execOp
  simp only [ho, hx, hy, Sem.run_bind, hrun]
  simp only [Result.andThen_ok, Sem.run_pure, Oper.upon, hd, Act.put]
  exact h
theorem run_make' {P : Program} {a : Act} {o : Oper} {t : TypeId} {x y : Operand} {u v r : Value} {w w' : World} (ho : o.op = .makeSlice t x y) (hx : a.eval x = u) (hy : a.eval y = v) (h : (Instr.makeSlice t u v).run P w = .ok r w') : (execOp a.eval o).run P w = .ok (.value r) w' := by
  unfold execOp
  simp only [ho, hx, hy, Sem.run_bind, h]
  rfl

theorem two_region {ops : Array Oper} {Q : Exit → Act → World → Prop} {id m : Nat} {a0 : Act} {w0 : World} {ge gg : Nat} {op : Int} {k : ByteArray} (hok : regOk ops m = true) (hk : kinds ops = twoL) (hw : twoW ops = true) (hsz : a0.tmps.size = m) (hm47 : 47 ≤ m)
    (h9 : a0.eval (.tmp 9) = .pointer (some ⟨ge, 0, none⟩)) (h10 : a0.eval (.tmp 10) = .pointer (some ⟨gg, 0, none⟩)) (hne : ge ≠ gg) (re : RowIs w0 ge 23 (cRow op k (.string ⟨#[]⟩) 0 0)) (rg : RowIs w0 gg 23 (cRow op k (.string ⟨#[]⟩) 0 0))
    (hend : ∀ w v1 v2, Touch (fun j => j = ge ∨ j = gg) w0 w → RowIs w ge 23 (cRow op k (.string (zeros 500)) 0 0) → RowIs w gg 23 (cRow op k (.string (zeros 501)) 0 0) →
      Q .normal ((((((a0.put (some 41) v1).put (some 42) (.string (zeros 500))).put (some 43) v2).put (some 44) (.string (zeros 501))).put (some 45) (.pointer (some ⟨ge, 2, none⟩))).put (some 46) (.pointer (some ⟨gg, 2, none⟩))) w) :
    (Code.region id ops true).wp Try.prog Q a0 w0 := by
  have hsize : ops.size = 8 := by
    have := congrArg List.length hk
    simpa [kinds, twoL] using this
  have hat : ∀ i (o : Oper), ops[i]? = some o → twoL[i]? = some (o.dst, o.op) := fun i o ho => by
    rw [← hk, kinds, List.getElem?_map, Array.getElem?_toList, ho]
    rfl
  unfold twoW at hw
  simp only [Bool.and_eq_true] at hw
  obtain ⟨⟨⟨⟨⟨w10, w32⟩, w54⟩, w51⟩, w76⟩, w73⟩ := hw
  refine wp_region_I (fun L a w => TwoI m a0 w0 ge gg op k L a w) (by kernel_rfl) hok ?_ ?_ ?_
  · exact ⟨hsz, rfl, fun _ _ => rfl, (Touch.refl _ _).drew, fun h => absurd h (by decide), fun h => absurd h (by decide), fun h => absurd h (by decide), fun h => absurd h (by decide), fun h => absurd h (by decide), fun h => absurd h (by decide), re, rg⟩
  · intro i o L a w ho hLi hawt hI
    have hlk := hat i o ho
    have hi8 : i < 8 := by rw [← hsize]; exact (Array.getElem?_eq_some_iff.1 ho).1
    have hc : i = 0 ∨ i = 1 ∨ i = 2 ∨ i = 3 ∨ i = 4 ∨ i = 5 ∨ i = 6 ∨ i = 7 := by omega
    have hge := hI.re.lt
    have hgg := hI.rg.lt
    rcases hc with rfl | rfl | rfl | rfl | rfl | rfl | rfl | rfl
    all_goals obtain ⟨e1, e2⟩ := Prod.mk.inj (Option.some.inj hlk)
    · refine st_val e1.symm (run_make' e2.symm rfl rfl (make8 500 (by decide) w)) ⟨by rw [size_put, hI.sz], by rw [defers_put, hI.df], fun t ht => by rw [eval_put_ne (by omega)]; exact hI.out t ht, hI.touch.alloc _, fun _ => ⟨w.heap.size, by rw [eval_put, if_pos ⟨rfl, by rw [hI.sz]; omega⟩], heap_alloc_new w _, hI.touch.size⟩, fun h => ?_, fun h => ?_, fun h => ?_, fun h => ?_, fun h => ?_, RowIs.alloc hI.re _, RowIs.alloc hI.rg _⟩
      · rw [eval_put_ne (by decide)]; exact hI.c1 h
      · obtain ⟨g, h1, h2, h3⟩ := hI.m2 h
        exact ⟨g, by rw [eval_put_ne (by decide)]; exact h1, by rw [Below.heap_alloc _ _ _ (Array.getElem?_eq_some_iff.1 h2).1]; exact h2, h3⟩
      · rw [eval_put_ne (by decide)]; exact hI.c2 h
      · rw [eval_put_ne (by decide)]; exact hI.f1 h
      · rw [eval_put_ne (by decide)]; exact hI.f2 h
    · obtain ⟨g, h1, h2, h3⟩ := hI.m1 (hawt 0 w10)
      refine st_val e1.symm (run_convert' e2.symm h1 (conv8 500 g w (by decide) h2)) ⟨by rw [size_put, hI.sz], by rw [defers_put, hI.df], fun t ht => by rw [eval_put_ne (by omega)]; exact hI.out t ht, hI.touch, fun h => ?_, fun _ => by rw [eval_put, if_pos ⟨rfl, by rw [hI.sz]; omega⟩], fun h => ?_, fun h => ?_, fun h => ?_, fun h => ?_, hI.re, hI.rg⟩
      · exact ⟨g, by rw [eval_put_ne (by decide)]; exact h1, h2, h3⟩
      · obtain ⟨g, h1, h2, h3⟩ := hI.m2 h
        exact ⟨g, by rw [eval_put_ne (by decide)]; exact h1, h2, h3⟩
      · rw [eval_put_ne (by decide)]; exact hI.c2 h
      · rw [eval_put_ne (by decide)]; exact hI.f1 h
      · rw [eval_put_ne (by decide)]; exact hI.f2 h
    · refine st_val e1.symm (run_make' e2.symm rfl rfl (make8 501 (by decide) w)) ⟨by rw [size_put, hI.sz], by rw [defers_put, hI.df], fun t ht => by rw [eval_put_ne (by omega)]; exact hI.out t ht, hI.touch.alloc _, fun h => ?_, fun h => ?_, fun _ => ⟨w.heap.size, by rw [eval_put, if_pos ⟨rfl, by rw [hI.sz]; omega⟩], heap_alloc_new w _, hI.touch.size⟩, fun h => ?_, fun h => ?_, fun h => ?_, RowIs.alloc hI.re _, RowIs.alloc hI.rg _⟩
      · obtain ⟨g, h1, h2, h3⟩ := hI.m1 h
        exact ⟨g, by rw [eval_put_ne (by decide)]; exact h1, by rw [Below.heap_alloc _ _ _ (Array.getElem?_eq_some_iff.1 h2).1]; exact h2, h3⟩
      · rw [eval_put_ne (by decide)]; exact hI.c1 h
      · rw [eval_put_ne (by decide)]; exact hI.c2 h
      · rw [eval_put_ne (by decide)]; exact hI.f1 h
      · rw [eval_put_ne (by decide)]; exact hI.f2 h
    · obtain ⟨g, h1, h2, h3⟩ := hI.m2 (hawt 2 w32)
      refine st_val e1.symm (run_convert' e2.symm h1 (conv8 501 g w (by decide) h2)) ⟨by rw [size_put, hI.sz], by rw [defers_put, hI.df], fun t ht => by rw [eval_put_ne (by omega)]; exact hI.out t ht, hI.touch, fun h => ?_, fun h => ?_, fun h => ?_, fun _ => by rw [eval_put, if_pos ⟨rfl, by rw [hI.sz]; omega⟩], fun h => ?_, fun h => ?_, hI.re, hI.rg⟩
      · obtain ⟨g, h1, h2, h3⟩ := hI.m1 h
        exact ⟨g, by rw [eval_put_ne (by decide)]; exact h1, h2, h3⟩
      · rw [eval_put_ne (by decide)]; exact hI.c1 h
      · exact ⟨g, by rw [eval_put_ne (by decide)]; exact h1, h2, h3⟩
      · rw [eval_put_ne (by decide)]; exact hI.f1 h
      · rw [eval_put_ne (by decide)]; exact hI.f2 h
    · have hx : a.eval (.tmp 9) = .pointer (some ⟨ge, 0, none⟩) := (hI.out 9 (by decide)).trans h9
      refine st_val e1.symm (run_field' (n := 0) e2.symm hx Try.underlying23 rfl (by kernel_rfl) w) ⟨by rw [size_put, hI.sz], by rw [defers_put, hI.df], fun t ht => by rw [eval_put_ne (by omega)]; exact hI.out t ht, hI.touch, fun h => ?_, fun h => ?_, fun h => ?_, fun h => ?_, fun _ => (by rw [eval_put, if_pos ⟨rfl, by rw [hI.sz]; omega⟩]; rfl), fun h => ?_, hI.re, hI.rg⟩
      · obtain ⟨g, h1, h2, h3⟩ := hI.m1 h
        exact ⟨g, by rw [eval_put_ne (by decide)]; exact h1, h2, h3⟩
      · rw [eval_put_ne (by decide)]; exact hI.c1 h
      · obtain ⟨g, h1, h2, h3⟩ := hI.m2 h
        exact ⟨g, by rw [eval_put_ne (by decide)]; exact h1, h2, h3⟩
      · rw [eval_put_ne (by decide)]; exact hI.c2 h
      · rw [eval_put_ne (by decide)]; exact hI.f2 h
    · have hp := hI.f1 (hawt 4 w54)
      have hv := hI.c1 (hawt 1 w51)
      refine wp_storeS' e2.symm e1.symm hp hv (by kernel_rfl) (hI.re.cellAt (j := 2) rfl) (hI.re.frozen 2) ⟨hI.sz, hI.df, hI.out, hI.touch.set (Or.inl (Or.inl rfl)) _, fun h => ?_, hI.c1, fun h => ?_, hI.c2, hI.f1, hI.f2, ?_, RowIs.setOther (a := ⟨ge, 2, none⟩) hI.rg (show gg ≠ ge from fun e => hne e.symm) _⟩
      · obtain ⟨g, h1, h2, h3⟩ := hI.m1 h
        refine ⟨g, h1, ?_, h3⟩
        rw [Below.heap_setCell _ _ _ _ (fun e => ?_)]
        · exact h2
        · have e' : g = ge := e
          have := re.lt
          omega
      · obtain ⟨g, h1, h2, h3⟩ := hI.m2 h
        refine ⟨g, h1, ?_, h3⟩
        rw [Below.heap_setCell _ _ _ _ (fun e => ?_)]
        · exact h2
        · have e' : g = ge := e
          have := re.lt
          omega
      · exact RowIs.set hI.re 2 (.string (zeros 500))
    · have hx : a.eval (.tmp 10) = .pointer (some ⟨gg, 0, none⟩) := (hI.out 10 (by decide)).trans h10
      refine st_val e1.symm (run_field' (n := 0) e2.symm hx Try.underlying23 rfl (by kernel_rfl) w) ⟨by rw [size_put, hI.sz], by rw [defers_put, hI.df], fun t ht => by rw [eval_put_ne (by omega)]; exact hI.out t ht, hI.touch, fun h => ?_, fun h => ?_, fun h => ?_, fun h => ?_, fun h => ?_, fun _ => (by rw [eval_put, if_pos ⟨rfl, by rw [hI.sz]; omega⟩]; rfl), hI.re, hI.rg⟩
      · obtain ⟨g, h1, h2, h3⟩ := hI.m1 h
        exact ⟨g, by rw [eval_put_ne (by decide)]; exact h1, h2, h3⟩
      · rw [eval_put_ne (by decide)]; exact hI.c1 h
      · obtain ⟨g, h1, h2, h3⟩ := hI.m2 h
        exact ⟨g, by rw [eval_put_ne (by decide)]; exact h1, h2, h3⟩
      · rw [eval_put_ne (by decide)]; exact hI.c2 h
      · rw [eval_put_ne (by decide)]; exact hI.f1 h
    · have hp := hI.f2 (hawt 6 w76)
      have hv := hI.c2 (hawt 3 w73)
      refine wp_storeS' e2.symm e1.symm hp hv (by kernel_rfl) (hI.rg.cellAt (j := 2) rfl) (hI.rg.frozen 2) ⟨hI.sz, hI.df, hI.out, hI.touch.set (Or.inl (Or.inr rfl)) _, fun h => ?_, hI.c1, fun h => ?_, hI.c2, hI.f1, hI.f2, RowIs.setOther (a := ⟨gg, 2, none⟩) hI.re (show ge ≠ gg from hne) _, ?_⟩
      · obtain ⟨g, h1, h2, h3⟩ := hI.m1 h
        refine ⟨g, h1, ?_, h3⟩
        rw [Below.heap_setCell _ _ _ _ (fun e => ?_)]
        · exact h2
        · have e' : g = gg := e
          have := rg.lt
          omega
      · obtain ⟨g, h1, h2, h3⟩ := hI.m2 h
        refine ⟨g, h1, ?_, h3⟩
        rw [Below.heap_setCell _ _ _ _ (fun e => ?_)]
        · exact h2
        · have e' : g = gg := e
          have := rg.lt
          omega
      · exact RowIs.set hI.rg 2 (.string (zeros 501))
  · intro L a w hall hI
    have a0' := hall 0 (by omega)
    have a1' := hall 1 (by omega)
    have a2' := hall 2 (by omega)
    have a3' := hall 3 (by omega)
    have a4' := hall 4 (by omega)
    have a5' := hall 5 (by omega)
    have a6' := hall 6 (by omega)
    have a7' := hall 7 (by omega)
    have hre := hI.re
    have hrg := hI.rg
    rw [a5'] at hre
    rw [a7'] at hrg
    have e : a = ((((((a0.put (some 41) (a.eval (.tmp 41))).put (some 42) (.string (zeros 500))).put (some 43) (a.eval (.tmp 43))).put (some 44) (.string (zeros 501))).put (some 45) (.pointer (some ⟨ge, 2, none⟩))).put (some 46) (.pointer (some ⟨gg, 2, none⟩))) := by
      refine act_ext (by simp only [size_put]; rw [hI.sz, hsz]) (by simp only [defers_put]; exact hI.df) (fun t => ?_)
      by_cases h1 : 41 ≤ t ∧ t < 47
      · have hc : t = 41 ∨ t = 42 ∨ t = 43 ∨ t = 44 ∨ t = 45 ∨ t = 46 := by omega
        rcases hc with rfl | rfl | rfl | rfl | rfl | rfl
        · generalize a.eval (.tmp 41) = v1; simp only [eval_put, size_put, hsz]; simp; omega
        · exact (hI.c1 a1').trans (by simp only [eval_put, size_put, hsz]; simp; omega)
        · generalize a.eval (.tmp 43) = v1; simp only [eval_put, size_put, hsz]; simp; omega
        · exact (hI.c2 a3').trans (by simp only [eval_put, size_put, hsz]; simp; omega)
        · exact (hI.f1 a4').trans (by simp only [eval_put, size_put, hsz]; simp; omega)
        · exact (hI.f2 a6').trans (by simp only [eval_put, size_put, hsz]; simp; omega)
      · rw [eval_put_ne (by omega), eval_put_ne (by omega), eval_put_ne (by omega), eval_put_ne (by omega), eval_put_ne (by omega), eval_put_ne (by omega)]
        exact hI.out t h1
    rw [e]
    exact hend w _ _ hI.touch hre hrg

end Go.Proofs.Ytogfobmbmimpgaa
