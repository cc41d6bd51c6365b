/-
  Parts of this proof, one behind the other: Take0, Reg0.
-/
import Derived.WalkKit
import Derived.Deep.RegionHeld3

/-
  A region that draws its order: what a call waits for may be taken first, though what it reads is written behind that call. No program is named here.
-/
namespace Go.Proofs.YtjemklgfenciaaaGreat
open Go.RowKit

section
variable {P : Program} {ops : Array Oper} {Q : Exit → Act → World → Prop} {md : Region.Mode} {S T : World → Prop} {c : Nat}

/-- Whatever order is picked: S holds behind every operation; T behind every one till number c has come up. -/
def wpAnyT (P : Program) (md : Region.Mode) (ops : Array Oper) (Q : Exit → Act → World → Prop) (S T : World → Prop) (c : Nat) : Nat → Array Bool → Act → World → Prop
  | 0, listed, a, w => Region.ready md ops listed = [] ∧ Q .normal a w
  | fuel + 1, listed, a, w =>
    (Region.ready md ops listed = [] → Q .normal a w) ∧
    ∀ i ∈ Region.ready md ops listed, wpOp P ops Q i (fun a' w' => S w' ∧ (i = c → wpAnyH P md ops Q S fuel (listed.setIfInBounds i true) a' w') ∧ (i ≠ c → T w' ∧ wpAnyT P md ops Q S T c fuel (listed.setIfInBounds i true) a' w')) a w

theorem wpAnyH_of_T : ∀ (fuel : Nat) (listed : Array Bool) (a : Act) (w : World), wpAnyT P md ops Q S T c fuel listed a w → wpAnyH P md ops Q S fuel listed a w
  | 0, _, _, _, h => h
  | fuel + 1, _, _, _, h => ⟨h.1, fun i hi => wpOp_mono (fun a' w' h' => ⟨h'.1, by
      by_cases e : i = c
      · exact h'.2.1 e
      · exact wpAnyH_of_T fuel _ a' w' (h'.2.2 e).2⟩) (h.2 i hi)⟩

/-- Number c waits for number i. -/
def awaits (md : Region.Mode) (ops : Array Oper) (c i : Nat) : Bool :=
  match ops[c]? with
  | some oc => oc.after.any fun e => Region.binds md e && e.on == i
  | none => false
theorem awaits_spec {i : Nat} (h : awaits md ops c i = true) (listed : Array Bool) (hl : listed.getD i true = false) : c ∉ Region.ready md ops listed := by
  intro hc
  obtain ⟨_, oc, hoc, hall⟩ := mem_ready.1 hc
  simp only [awaits, hoc] at h
  obtain ⟨e, he, hb⟩ := Array.any_eq_true'.1 h
  simp only [Bool.and_eq_true, beq_iff_eq] at hb
  have h1 := hall e he hb.1
  rw [hb.2] at h1
  rcases Nat.lt_or_ge i listed.size with h' | h'
  · simp [h'] at hl h1; rw [hl] at h1; cases h1
  · simp [Array.getElem?_eq_none h'] at h1

theorem free_kept {i j : Nat} {oi : Oper} {listed : Array Bool} (hjun : listed.getD j true = false)
    (hfree : ∀ j oj, ops[j]? = some oj → j ≠ i → listed.getD j true = false → (∀ e ∈ oj.after, Region.binds md e = true → e.on ≠ i) → oi.apart ops oj = true) :
    ∀ k ok, ops[k]? = some ok → k ≠ i → (listed.setIfInBounds j true).getD k true = false → (∀ e ∈ ok.after, Region.binds md e = true → e.on ≠ i) → oi.apart ops ok = true := fun k ok hk hki hun hno => by
  refine hfree k ok hk hki ?_ hno
  by_cases hjk : j = k
  · subst hjk; exact hjun
  · rw [getD_set_ne true hjk] at hun; exact hun
theorem not_on {i : Nat} {oj : Oper} {listed : Array Bool} (hr : i ∈ Region.ready md ops listed) (hall : ∀ e ∈ oj.after, Region.binds md e = true → listed.getD e.on false = true) :
    ∀ e ∈ oj.after, Region.binds md e = true → e.on ≠ i := fun e he hb heq => by
  have h1 := hall e he hb
  have h0 := (mem_ready.1 hr).1
  rw [heq] at h1
  rcases Nat.lt_or_ge i listed.size with h' | h'
  · simp [h'] at h0 h1; rw [h0] at h1; cases h1
  · simp [Array.getElem?_eq_none h'] at h1

/-- An operation for which number c waits, and that yields wherever S and T hold. -/
theorem wpAnyT_firstT {i : Nat} {oi : Oper} {v : Value} (hi : ops[i]? = some oi) (hsel : ∀ (j : Nat) (o : Oper) cs b, ops[j]? = some o → o.op ≠ .select cs b)
    (hQ : ∀ c a w, Q (.panic c) (a.put oi.dst v) w → Q (.panic c) a w) (hc : awaits md ops c i = true) :
    ∀ (fuel : Nat) (listed : Array Bool) (a : Act) (w : World),
      (∀ j oj, ops[j]? = some oj → j ≠ i → listed.getD j true = false → (∀ e ∈ oj.after, Region.binds md e = true → e.on ≠ i) → oi.apart ops oj = true) →
      i ∈ Region.ready md ops listed → YieldsIf P ops (fun w => S w ∧ T w) oi v a → S w → T w →
      wpAnyT P md ops Q S T c fuel (listed.setIfInBounds i true) (a.put oi.dst v) w → wpAnyT P md ops Q S T c (fuel + 1) listed a w := by
  intro fuel
  induction fuel with
  | zero =>
    intro listed a w _ hr hy hS hT H
    have hn := awaits_spec hc listed (mem_ready.1 hr).1
    refine ⟨fun h => (by rw [h] at hr; cases hr), fun j hj => ?_⟩
    by_cases hji : j = i
    · subst hji
      exact hy.wpOp hi ⟨hS, hT⟩ ⟨hS, fun e => absurd (e ▸ hj) hn, fun _ => ⟨hT, H⟩⟩
    · have := ready_mono hj hji
      rw [H.1] at this
      cases this
  | succ fuel ih =>
    intro listed a w hfree hr hy hS hT H
    have hn := awaits_spec hc listed (mem_ready.1 hr).1
    refine ⟨fun h => (by rw [h] at hr; cases hr), fun j hj => ?_⟩
    have hjc : j ≠ c := fun e => hn (e ▸ hj)
    by_cases hji : j = i
    · subst hji
      exact hy.wpOp hi ⟨hS, hT⟩ ⟨hS, fun e => absurd e hjc, fun _ => ⟨hT, H⟩⟩
    · have h1 := H.2 j (ready_mono hj hji)
      obtain ⟨hjun, oj, hoj, hall⟩ := mem_ready.1 hj
      have h2 := wpOp_putIf hoj (hfree j oj hoj hji hjun (not_on hr hall)) (fun cs b => hsel i oi cs b hi) (fun cs b => hsel j oj cs b hoj) hQ hy h1
      refine wpOp_mono (fun a' w' h3 => ⟨h3.2.1, fun e => absurd e hjc, fun _ => ⟨(h3.2.2.2 hjc).1, ih (listed.setIfInBounds j true) a' w' (free_kept hjun hfree) (ready_mono hr (Ne.symm hji)) h3.1 h3.2.1 (h3.2.2.2 hjc).1 ?_⟩⟩) h2
      rw [Array.setIfInBounds_comm _ _ hji]
      exact (h3.2.2.2 hjc).2

/-- An operation that yields wherever S holds. -/
theorem wpAnyT_firstS {i : Nat} {oi : Oper} {v : Value} (hi : ops[i]? = some oi) (hsel : ∀ (j : Nat) (o : Oper) cs b, ops[j]? = some o → o.op ≠ .select cs b)
    (hQ : ∀ c a w, Q (.panic c) (a.put oi.dst v) w → Q (.panic c) a w) (hic : i ≠ c) :
    ∀ (fuel : Nat) (listed : Array Bool) (a : Act) (w : World),
      (∀ j oj, ops[j]? = some oj → j ≠ i → listed.getD j true = false → (∀ e ∈ oj.after, Region.binds md e = true → e.on ≠ i) → oi.apart ops oj = true) →
      i ∈ Region.ready md ops listed → YieldsIf P ops S oi v a → S w → T w →
      wpAnyT P md ops Q S T c fuel (listed.setIfInBounds i true) (a.put oi.dst v) w → wpAnyT P md ops Q S T c (fuel + 1) listed a w := by
  intro fuel
  induction fuel with
  | zero =>
    intro listed a w _ hr hy hS hT H
    refine ⟨fun h => (by rw [h] at hr; cases hr), fun j hj => ?_⟩
    by_cases hji : j = i
    · subst hji
      exact hy.wpOp hi hS ⟨hS, fun e => absurd e hic, fun _ => ⟨hT, H⟩⟩
    · have := ready_mono hj hji
      rw [H.1] at this
      cases this
  | succ fuel ih =>
    intro listed a w hfree hr hy hS hT H
    refine ⟨fun h => (by rw [h] at hr; cases hr), fun j hj => ?_⟩
    by_cases hji : j = i
    · subst hji
      exact hy.wpOp hi hS ⟨hS, fun e => absurd e hic, fun _ => ⟨hT, H⟩⟩
    · have h1 := H.2 j (ready_mono hj hji)
      obtain ⟨hjun, oj, hoj, hall⟩ := mem_ready.1 hj
      have h2 := wpOp_putIf hoj (hfree j oj hoj hji hjun (not_on hr hall)) (fun cs b => hsel i oi cs b hi) (fun cs b => hsel j oj cs b hoj) hQ hy h1
      have hf' := free_kept hjun hfree
      have hr' := ready_mono hr (Ne.symm hji)
      refine wpOp_mono (fun a' w' h3 => ⟨h3.2.1, fun e => ?_, fun hjc => ⟨(h3.2.2.2 hjc).1, ih (listed.setIfInBounds j true) a' w' hf' hr' h3.1 h3.2.1 (h3.2.2.2 hjc).1 ?_⟩⟩) h2
      · refine wpAnyH_first hi hsel hQ fuel _ a' w' hf' hr' h3.1 h3.2.1 ?_
        rw [Array.setIfInBounds_comm _ _ hji]
        exact h3.2.2.1 e
      · rw [Array.setIfInBounds_comm _ _ hji]
        exact (h3.2.2.2 hjc).2

theorem wanted_plain {o : Oper} (hg : o.guard = none) (y : Nat → Option Bool) : Region.wanted o y = true := by
  unfold Region.wanted
  rw [hg]

/-- Operations that are taken in a row, each with what it yields. -/
def listAll : List Nat → Array Bool → Array Bool
  | [], l => l
  | i :: r, l => listAll r (l.setIfInBounds i true)
def planOk (md : Region.Mode) (ops : Array Oper) : List Nat → Array Bool → Bool
  | [], _ => true
  | i :: r, l => Region.free md ops l i && (Region.ready md ops l).contains i && ((ops[i]?).any fun o => o.guard.isNone) && planOk md ops r (l.setIfInBounds i true)
/-- Each yields its value, in every world that meets S, one behind the other: from frame a to frame b. -/
def Chain (P : Program) (ops : Array Oper) (S : World → Prop) : List (Nat × Value) → Act → Act → Prop
  | [], a, b => b = a
  | (i, v) :: r, a, b => ∃ o, ops[i]? = some o ∧ (∀ w, S w → (execOp a.eval o).run P w = .ok (.value v) w) ∧ Chain P ops S r (a.put o.dst v) b

theorem wpAnyT_takesS (hs : Region.noSelect ops = true) (hQ : ∀ c a d v w, Q (.panic c) (a.put d v) w → Q (.panic c) a w) :
    ∀ (plan : List (Nat × Value)) (fuel : Nat) (listed : Array Bool) (a b : Act) (w : World), planOk md ops (plan.map (·.1)) listed = true → (plan.all fun p => p.1 != c) = true → Chain P ops S plan a b → S w → T w →
      wpAnyT P md ops Q S T c fuel (listAll (plan.map (·.1)) listed) b w → wpAnyT P md ops Q S T c (fuel + plan.length) listed a w
  | [], _, _, _, _, _, _, _, e, _, _, h => by cases e; exact h
  | (i, v) :: r, fuel, listed, a, b, w, hp, hc, hch, hS, hT, h => by
    simp only [List.map_cons, planOk, Bool.and_eq_true] at hp
    simp only [List.all_cons, Bool.and_eq_true, bne_iff_ne] at hc
    obtain ⟨⟨⟨hf, hrd⟩, hg⟩, hp⟩ := hp
    obtain ⟨oi, ho, hy, hch⟩ := hch
    simp only [ho, Option.any_some, Option.isNone_iff_eq_none] at hg
    have h2 := wpAnyT_takesS hs hQ r fuel _ _ b w hp hc.2 hch hS hT h
    exact wpAnyT_firstS ho (Region.noSelect_spec hs) (fun c a w => hQ c a _ _ w) hc.1 _ listed a w (Region.free_spec ho hf) (by simpa using hrd) (Or.inl ⟨wanted_plain hg _, hy⟩) hS hT h2

theorem wpAnyT_takesT (hs : Region.noSelect ops = true) (hQ : ∀ c a d v w, Q (.panic c) (a.put d v) w → Q (.panic c) a w) :
    ∀ (plan : List (Nat × Value)) (fuel : Nat) (listed : Array Bool) (a b : Act) (w : World), planOk md ops (plan.map (·.1)) listed = true → (plan.all fun p => awaits md ops c p.1) = true → Chain P ops (fun w => S w ∧ T w) plan a b → S w → T w →
      wpAnyT P md ops Q S T c fuel (listAll (plan.map (·.1)) listed) b w → wpAnyT P md ops Q S T c (fuel + plan.length) listed a w
  | [], _, _, _, _, _, _, _, e, _, _, h => by cases e; exact h
  | (i, v) :: r, fuel, listed, a, b, w, hp, hc, hch, hS, hT, h => by
    simp only [List.map_cons, planOk, Bool.and_eq_true] at hp
    simp only [List.all_cons, Bool.and_eq_true] at hc
    obtain ⟨⟨⟨hf, hrd⟩, hg⟩, hp⟩ := hp
    obtain ⟨oi, ho, hy, hch⟩ := hch
    simp only [ho, Option.any_some, Option.isNone_iff_eq_none] at hg
    have h2 := wpAnyT_takesT hs hQ r fuel _ _ b w hp hc.2 hch hS hT h
    exact wpAnyT_firstT ho (Region.noSelect_spec hs) (fun c a w => hQ c a _ _ w) hc.1 _ listed a w (Region.free_spec ho hf) (by simpa using hrd) (Or.inl ⟨wanted_plain hg _, hy⟩) hS hT h2

theorem wpAnyH_takes (hs : Region.noSelect ops = true) (hQ : ∀ c a d v w, Q (.panic c) (a.put d v) w → Q (.panic c) a w) :
    ∀ (plan : List (Nat × Value)) (fuel : Nat) (listed : Array Bool) (a b : Act) (w : World), planOk md ops (plan.map (·.1)) listed = true → Chain P ops S plan a b → S w →
      wpAnyH P md ops Q S fuel (listAll (plan.map (·.1)) listed) b w → wpAnyH P md ops Q S (fuel + plan.length) listed a w
  | [], _, _, _, _, _, _, e, _, h => by cases e; exact h
  | (i, v) :: r, fuel, listed, a, b, w, hp, hch, hS, h => by
    simp only [List.map_cons, planOk, Bool.and_eq_true] at hp
    obtain ⟨⟨⟨hf, hrd⟩, hg⟩, hp⟩ := hp
    obtain ⟨oi, ho, hy, hch⟩ := hch
    simp only [ho, Option.any_some, Option.isNone_iff_eq_none] at hg
    have h2 := wpAnyH_takes hs hQ r fuel _ _ b w hp hch hS h
    exact wpAnyH_first ho (Region.noSelect_spec hs) (fun c a w => hQ c a _ _ w) _ listed a w (Region.free_spec ho hf) (by simpa using hrd) (Or.inl ⟨wanted_plain hg _, hy⟩) hS h2

/-- What an operation does, and where it lays its value. -/
def kinds (ops : Array Oper) : List (Option Tmp × Op) := ops.toList.map fun o => (o.dst, o.op)
theorem kinds_at {l : List (Option Tmp × Op)} (h : kinds ops = l) {i : Nat} {d : Option Tmp} {x : Op} (hl : l[i]? = some (d, x)) : ∃ o, ops[i]? = some o ∧ o.dst = d ∧ o.op = x := by
  subst h
  simp only [kinds, List.getElem?_map, Array.getElem?_toList, Option.map_eq_some_iff, Prod.mk.injEq] at hl
  exact hl
theorem Chain.nil {a : Act} : Chain P ops S [] a a := rfl
theorem Chain.cons {l : List (Option Tmp × Op)} (h : kinds ops = l) {i : Nat} {d : Option Tmp} {x : Op} {v : Value} {r : List (Nat × Value)} {a b : Act} (hl : l[i]? = some (d, x))
    (hy : ∀ o : Oper, o.op = x → ∀ w, S w → (execOp a.eval o).run P w = .ok (.value v) w) (hr : Chain P ops S r (a.put d v) b) : Chain P ops S ((i, v) :: r) a b := by
  obtain ⟨o, ho, hd, hx⟩ := kinds_at h hl
  subst hd
  exact ⟨o, ho, hy o hx, hr⟩

/-- The same, what is known of the last frame told behind it. -/
theorem Chain.exNil {R : Act → Prop} {a : Act} (h : R a) : ∃ b, Chain P ops S [] a b ∧ R b := ⟨a, rfl, h⟩
theorem Chain.exCons {R : Act → Prop} {l : List (Option Tmp × Op)} (h : kinds ops = l) {i : Nat} {d : Option Tmp} {x : Op} {v : Value} {r : List (Nat × Value)} {a : Act} (hl : l[i]? = some (d, x))
    (hy : ∀ o : Oper, o.op = x → ∀ w, S w → (execOp a.eval o).run P w = .ok (.value v) w) (hr : ∃ b, Chain P ops S r (a.put d v) b ∧ R b) : ∃ b, Chain P ops S ((i, v) :: r) a b ∧ R b := by
  obtain ⟨b, hb, hR⟩ := hr
  exact ⟨b, Chain.cons h hl hy hb, hR⟩

theorem run_move' {a : Act} {o : Oper} {x : Operand} {v : Value} (ho : o.op = .move x) (hx : a.eval x = v) (w : World) : (execOp a.eval o).run P w = .ok (.value v) w := by
  subst hx
  unfold execOp
  simp [ho]
theorem run_nil' {a : Act} {o : Oper} {x : Operand} {p : Addr} (ho : o.op = .nilCheck x) (hx : a.eval x = .pointer (some p)) (w : World) : (execOp a.eval o).run P w = .ok (.value (.pointer (some p))) w := by
  unfold execOp
  simp [ho, hx]
theorem run_extract' {a : Act} {o : Oper} {x : Operand} {vs : Array Value} {i : Nat} {v : Value} (ho : o.op = .extract x i) (hx : a.eval x = .tuple vs) (hv : vs[i]? = some v) (w : World) : (execOp a.eval o).run P w = .ok (.value v) w := by
  unfold execOp
  simp [ho, hx, Instr.extract, hv]
theorem run_index' {a : Act} {o : Oper} {x ix : Operand} {t e : TypeId} {n b j k : Nat} (ho : o.op = .indexAddr t x ix) (hx : a.eval x = .pointer (some ⟨b, j, none⟩)) (hi : a.eval ix = .int .i64 (k : Int)) (hk : k < n)
    (hu : P.underlying t = some (.array n e)) (hz : (P.info? e).map (·.size) = some 1) (w : World) : (execOp a.eval o).run P w = .ok (.value (.pointer (some ⟨b, j + k, none⟩))) w := by
  have hz' : (sizeOf e).run P w = .ok 1 w := by
    cases hi : P.info? e with
    | none => simp [hi] at hz
    | some i => simp [hi] at hz; simp [sizeOf, typeInfo, hi, hz]
  have h0 : (0 : Int) ≤ (k : Int) := by omega
  have h1 : (k : Int) < (n : Int) := by omega
  have hrun : (Instr.indexAt t (.pointer (some ⟨b, j, none⟩)) (.int .i64 (k : Int))).run P w = .ok (.pointer (some ⟨b, j + k, none⟩)) w := by
    simp [go_sem, hu, hz', h0, h1]
  unfold execOp
  simp only [ho, hx, hi, Sem.run_bind, hrun]
  rfl
/-- A word is read. -/
theorem run_load' {a : Act} {o : Oper} {x : Operand} {t : TypeId} {p : Addr} {k : IntKind} {v : Value} (ho : o.op = .load t x) (hx : a.eval x = .pointer (some p)) (hu : P.underlying t = some (.int k)) (w : World) (hc : w.cell? p = some v) :
    (execOp a.eval o).run P w = .ok (.value v) w := by
  have hrun : (Instr.loadAt t (.pointer (some p))).run P w = .ok v w := by
    have hagg : (isAgg t).run P w = .ok false w := by
      unfold isAgg
      rw [Sem.run_bind, run_underlying hu w]
      rfl
    simp [go_sem, hagg, hc]
  unfold execOp
  simp only [ho, hx, Sem.run_bind, hrun]
  rfl
/-- A word is stored. -/
theorem wp_store' {o : Oper} {a : Act} {w : World} {K : Act → World → Prop} {t : TypeId} {x y : Operand} {p : Addr} {k : IntKind} {n : Int} {v : Value} (ho : o.op = .store t x y) (hd : o.dst = none) (hx : a.eval x = .pointer (some p)) (hy : a.eval y = .int k n)
    (hz : (P.info? t).map (·.size) = some 1) (hc : w.cell? p = some v) (hf : w.frozen? p = false) (h : K a (w.setCell p (.int k n))) : o.wp P a w K Q := by
  have hrun : (Instr.storeAt t (.pointer (some p)) (.int k n)).run P w = .ok () (w.setCell p (.int k n)) := by
    have hz' : (sizeOf t).run P w = .ok 1 w := by
      cases hi : P.info? t with
      | none => simp [hi] at hz
      | some i => simp [hi] at hz; simp [sizeOf, typeInfo, hi, hz]
    simp [go_sem, hz', hc, hf]
  unfold Oper.wp execOp
  simp only [ho, hx, hy, Sem.run_bind, hrun]
  simp only [Result.andThen_ok, Sem.run_pure, Oper.upon, hd, Act.put]
  exact h
/-- A Go function is called. -/
theorem wp_call' {o : Oper} {a : Act} {w : World} {K : Act → World → Prop} {f : Nat} {args : Array Operand} {ts : Array TypeId} {vs : Array Value} {v : Value} {w' : World} (ho : o.op = .call { callee := .value (.func f), args := args, argTypes := ts }) (hv : args.map a.eval = vs)
    (hcf : (callFunc f vs).run P w = .ok (.enter f vs) w) (hc : Calls P f vs w fun e w'' => e = .returned v ∧ w'' = w') (h : K (a.put o.dst v) w') : o.wp P a w K Q := by
  have hrun : (execOp a.eval o).run P w = .ok (.enter f vs) w := by
    unfold execOp
    simp [ho, go_sem, hv, hcf]
  unfold Oper.wp
  rw [hrun]
  refine hc.mono ?_
  rintro e w'' ⟨rfl, rfl⟩
  exact h

/-- The call itself, where nothing else may come up. -/
theorem wpAnyT_call {oc : Oper} {fuel : Nat} {listed : Array Bool} {a : Act} {w : World} (hr : Region.ready md ops listed = [c]) (ho : ops[c]? = some oc) (hg : oc.guard = none)
    (h : oc.wp P a w (fun a' w' => S w' ∧ wpAnyH P md ops Q S fuel (listed.setIfInBounds c true) a' w') Q) : wpAnyT P md ops Q S T c (fuel + 1) listed a w := by
  refine ⟨fun h0 => (by rw [hr] at h0; cases h0), fun i hi => ?_⟩
  rw [hr, List.mem_singleton] at hi
  subst hi
  unfold wpOp
  simp only [ho, wanted_plain hg, if_true]
  exact Or.inl (Oper.wp_mono (fun a' w' h' => ⟨h'.1, fun _ => h'.2, fun e => absurd rfl e⟩) h)
/-- One operation, where nothing else may come up. -/
theorem wpAnyH_step {i : Nat} {o : Oper} {fuel : Nat} {listed : Array Bool} {a : Act} {w : World} (hr : Region.ready md ops listed = [i]) (ho : ops[i]? = some o) (hg : o.guard = none)
    (h : o.wp P a w (fun a' w' => S w' ∧ wpAnyH P md ops Q S fuel (listed.setIfInBounds i true) a' w') Q) : wpAnyH P md ops Q S (fuel + 1) listed a w := by
  refine ⟨fun h0 => (by rw [hr] at h0; cases h0), fun j hj => ?_⟩
  rw [hr, List.mem_singleton] at hj
  subst hj
  unfold wpOp
  simp only [ho, wanted_plain hg, if_true]
  exact Or.inl h

/-- The beginning. -/
theorem wp_region_T {id : Nat} {a : Act} {w : World} {n : Nat} (S T : World → Prop) (c : Nat) (hm : P.follows .mixedOrders = true) (hn : ops.size = n)
    (h : wpAnyT P .any ops Q S T c n (Array.replicate n false) a w.drew) : (Code.region id ops true).wp P Q a w := by
  subst hn
  exact wp_region_any hm (wpAny_of_held _ _ _ _ (wpAnyH_of_T _ _ _ _ h))

theorem eval_put (a : Act) (j k : Nat) (v : Value) : (a.put (some j) v).eval (.tmp k) = if j = k ∧ k < a.tmps.size then v else a.eval (.tmp k) := by
  simp only [Act.put, Act.eval]
  by_cases h : j = k
  · subst h
    by_cases h' : j < a.tmps.size
    · simp [h']
    · simp [h']
  · simp [h]
theorem eval_put_ne {a : Act} {j k : Nat} {v : Value} (h : j ≠ k) : (a.put (some j) v).eval (.tmp k) = a.eval (.tmp k) := by
  rw [eval_put, if_neg (fun e => h e.1)]
theorem size_put (a : Act) (d : Option Tmp) (v : Value) : (a.put d v).tmps.size = a.tmps.size := by
  cases d <;> simp [Act.put]
theorem defers_put (a : Act) (d : Option Tmp) (v : Value) : (a.put d v).defers = a.defers := by
  cases d <;> rfl
theorem eval_const (a : Act) (v : Value) : a.eval (.const v) = v := rfl

end
end Go.Proofs.YtjemklgfenciaaaGreat

/-
  A region that draws its order, whose operations lay memory of their own or only read: each operation has a fact that it leaves behind it, in whatever order they come up. No program is named here.
-/
namespace Go.Proofs.YtjemklgfenciaaaGreat
open Go.RowKit
set_option linter.unusedVariables false
set_option maxRecDepth 100000
set_option linter.unusedSimpArgs false

section
variable {P : Program} {ops : Array Oper} {Q : Exit → Act → World → Prop}

/-- What is in the place where an operation lays its value. -/
def laidAt (a : Act) (d : Option Tmp) : Value :=
  match d with
  | some t => a.eval (.tmp t)
  | none => undef
def dsts (ops : Array Oper) : List (Option Tmp) := ops.toList.map (·.dst)
def waitsL (ops : Array Oper) : List (List Nat) := (List.range ops.size).map fun i => (List.range ops.size).filter fun j => awaits .any ops i j
/-- No operation is guarded; each waits for earlier ones alone; no two lay their values in one place. -/
def regOk (ops : Array Oper) (m : Nat) : Bool :=
  (ops.all fun o => o.guard.isNone) && ((List.range ops.size).all fun i => (ops[i]?).all fun o => o.after.all fun e => !Region.binds .any e || decide (e.on < i)) &&
  ((List.range ops.size).all fun i => (List.range ops.size).all fun j => i == j || (ops[i]?).all fun x => (ops[j]?).all fun y => x.dst.isNone || x.dst != y.dst) && (ops.all fun o => o.dst.all fun d => decide (d < m))
def keepIf (d : Option Tmp) (v : Value) : Value :=
  match d with
  | some _ => v
  | none => undef

theorem ready_nil (hok : ((List.range ops.size).all fun i => (ops[i]?).all fun o => o.after.all fun e => !Region.binds .any e || decide (e.on < i)) = true) {listed : Array Bool} (hs : listed.size = ops.size) (h : Region.ready .any ops listed = []) :
    ∀ i, i < ops.size → listed.getD i false = true := by
  intro i
  induction i using Nat.strongRecOn with
  | _ i ih =>
    intro hi
    cases hl : listed.getD i false with
    | true => rfl
    | false =>
      exfalso
      have hmem : i ∈ Region.ready .any ops listed := by
        refine mem_ready.2 ⟨?_, ops[i], by simp [hi], ?_⟩
        · simp [hs, hi] at hl ⊢; exact hl
        · intro e he hb
          have h1 := List.all_eq_true.1 hok i (List.mem_range.2 hi)
          simp only [Array.getElem?_eq_getElem hi, Option.all_some, Array.all_eq_true'] at h1
          have h2 := h1 e he
          rw [hb] at h2
          simp only [Bool.not_true, Bool.false_or, decide_eq_true_eq] at h2
          exact ih e.on h2 (by omega)
      rw [h] at hmem
      cases hmem

theorem count_set {l : List Bool} {i : Nat} (h : l[i]? = some false) : (l.set i true).count false + 1 = l.count false := by
  induction l generalizing i with
  | nil => simp at h
  | cons x l ih =>
    cases i with
    | zero => simp at h; subst h; simp
    | succ i =>
      simp at h
      have := ih h
      simp only [List.set_cons_succ, List.count_cons]
      omega
theorem count_zero {l : List Bool} (h : l.count false = 0) (i : Nat) (hi : i < l.length) : l[i]? = some true := by
  rw [List.count_eq_zero] at h
  cases hb : l[i] with
  | true => simp [hb, hi]
  | false => exact absurd (hb ▸ List.getElem_mem hi) h

theorem wp_region_J {id m : Nat} {a0 : Act} {w0 : World} (R : World → Prop) (G : World → World → Prop) (J : Nat → Value → World → Prop) (hm : P.follows .mixedOrders = true) (hok : regOk ops m = true) (hsz : a0.tmps.size = m)
    (hR0 : R w0.drew) (hRG : ∀ w w', R w → G w w' → R w') (hJG : ∀ i v w w', G w w' → J i v w → J i v w')
    (hstep : ∀ i (o : Oper), ops[i]? = some o → ∀ a w, R w → (∀ t, some t ∉ dsts ops → a.eval (.tmp t) = a0.eval (.tmp t)) → (∀ j (oj : Oper), ops[j]? = some oj → awaits .any ops i j = true → J j (laidAt a oj.dst) w) →
      o.wp P a w (fun a' w' => ∃ v, a' = a.put o.dst v ∧ G w w' ∧ J i (keepIf o.dst v) w') Q)
    (hend : ∀ a w, R w → a.tmps.size = m → a.defers = a0.defers → (∀ t, some t ∉ dsts ops → a.eval (.tmp t) = a0.eval (.tmp t)) → (∀ j (oj : Oper), ops[j]? = some oj → J j (laidAt a oj.dst) w) → Q .normal a w) :
    (Code.region id ops true).wp P Q a0 w0 := by
  unfold regOk at hok
  simp only [Bool.and_eq_true] at hok
  obtain ⟨⟨⟨hg, ht⟩, hnd⟩, hlt⟩ := hok
  have hpl : ∀ i (o : Oper), ops[i]? = some o → o.guard = none := fun i o ho => by
    have := Array.all_eq_true'.1 hg o (Array.mem_of_getElem? ho)
    simpa using this
  have hlt' : ∀ i (o : Oper) d, ops[i]? = some o → o.dst = some d → d < m := fun i o d ho hd => by
    have := Array.all_eq_true'.1 hlt o (Array.mem_of_getElem? ho)
    rw [hd] at this
    simpa using this
  have hne : ∀ i j (oi oj : Oper) t, ops[i]? = some oi → ops[j]? = some oj → i ≠ j → oi.dst = some t → oj.dst ≠ some t := fun i j oi oj t hi hj hij hd he => by
    have h1 := List.all_eq_true.1 (List.all_eq_true.1 hnd i (List.mem_range.2 (Array.getElem?_eq_some_iff.1 hi).1)) j (List.mem_range.2 (Array.getElem?_eq_some_iff.1 hj).1)
    rw [hi, hj] at h1
    simp [hij, hd, he] at h1
  refine wp_region_any hm ?_
  have key : ∀ (fuel : Nat) (listed : Array Bool) (a : Act) (w : World), listed.size = ops.size → (listed.toList.count false = fuel) →
      R w → a.tmps.size = m → a.defers = a0.defers → (∀ t, some t ∉ dsts ops → a.eval (.tmp t) = a0.eval (.tmp t)) → (∀ j (oj : Oper), ops[j]? = some oj → listed.getD j false = true → J j (laidAt a oj.dst) w) →
      wpAny P .any ops Q fuel listed a w := by
    intro fuel
    induction fuel with
    | zero =>
      intro listed a w hs hc hR hsa hda hout hJ
      have hall : ∀ i, i < ops.size → listed.getD i false = true := fun i hi => by
        have := count_zero hc i (by simpa [hs] using hi)
        simp only [Array.getElem?_toList] at this
        simp [this]
      refine ⟨?_, hend a w hR hsa hda hout (fun j oj hj => hJ j oj hj (hall j (Array.getElem?_eq_some_iff.1 hj).1))⟩
      cases hr : Region.ready .any ops listed with
      | nil => rfl
      | cons i r =>
        have hi : i ∈ Region.ready .any ops listed := by rw [hr]; simp
        obtain ⟨h1, oi, hoi, _⟩ := mem_ready.1 hi
        have h2 := hall i (Array.getElem?_eq_some_iff.1 hoi).1
        have h3 : i < listed.size := by rw [hs]; exact (Array.getElem?_eq_some_iff.1 hoi).1
        simp [h3] at h1 h2
        rw [h1] at h2; cases h2
    | succ fuel ih =>
      intro listed a w hs hc hR hsa hda hout hJ
      refine ⟨fun hr => hend a w hR hsa hda hout (fun j oj hj => hJ j oj hj (ready_nil ht hs hr j (Array.getElem?_eq_some_iff.1 hj).1)), fun i hi => ?_⟩
      obtain ⟨h1, oi, hoi, hall⟩ := mem_ready.1 hi
      have hil : i < listed.size := by rw [hs]; exact (Array.getElem?_eq_some_iff.1 hoi).1
      have hf : listed.toList[i]? = some false := by
        simp [hil] at h1
        simp [hil, h1]
      unfold wpOp
      simp only [hoi, wanted_plain (hpl i oi hoi), if_true]
      refine Or.inl (Oper.wp_mono ?_ (hstep i oi hoi a w hR hout (fun j oj hj haw => hJ j oj hj ?_)))
      · rintro a' w' ⟨v, rfl, hG, hJi⟩
        refine ih (listed.setIfInBounds i true) (a.put oi.dst v) w' (by simp [hs]) ?_ (hRG w w' hR hG) (by rw [size_put, hsa]) (by rw [defers_put, hda]) ?_ ?_
        · have := count_set hf
          rw [Array.toList_setIfInBounds]
          omega
        · intro t hto
          rw [← hout t hto]
          cases hd : oi.dst with
          | none => rfl
          | some d => exact eval_put_ne (fun e => hto (by rw [← e, ← hd]; exact List.mem_map.2 ⟨oi, by simpa using Array.mem_of_getElem? hoi, rfl⟩))
        · intro j oj hj hlj
          by_cases hji : j = i
          · subst hji
            have e : oj = oi := by rw [hoi] at hj; exact (Option.some.inj hj).symm
            subst e
            cases hd : oj.dst with
            | none => rw [hd] at hJi; exact hJi
            | some d =>
              rw [hd] at hJi
              show J j ((a.put (some d) v).eval (.tmp d)) w'
              rw [eval_put, if_pos ⟨rfl, by rw [hsa]; exact hlt' j oj d hj hd⟩]
              exact hJi
          · have hlj' : listed.getD j false = true := by
              rw [getD_set_ne false (Ne.symm hji)] at hlj; exact hlj
            have h4 := hJG j _ w w' hG (hJ j oj hj hlj')
            have e : laidAt (a.put oi.dst v) oj.dst = laidAt a oj.dst := by
              cases hd : oj.dst with
              | none => rfl
              | some t =>
                cases hd2 : oi.dst with
                | none => rfl
                | some d => exact eval_put_ne (fun e => hne j i oj oi t hj hoi hji hd (by rw [hd2, e]))
            rw [e]
            exact h4
      · simp only [awaits, hoi] at haw
        obtain ⟨e, he, hb⟩ := Array.any_eq_true'.1 haw
        simp only [Bool.and_eq_true, beq_iff_eq] at hb
        have := hall e he hb.1
        rw [hb.2] at this
        exact this
  exact key _ _ _ _ (by simp) (by simp) hR0 hsz rfl (fun _ _ => rfl) (fun j oj hj hl => by
    have := (Array.getElem?_eq_some_iff.1 hj).1
    simp [this] at hl)
end
end Go.Proofs.YtjemklgfenciaaaGreat
