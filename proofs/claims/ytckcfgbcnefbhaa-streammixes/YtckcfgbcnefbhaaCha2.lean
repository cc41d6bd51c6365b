/-
  The contract of package stream's doubleRound.
-/
import Derived.Test.YtckcfgbcnefbhaaCha1
import Derived.Test.YtckcfgbcnefbhaaTake0
namespace Go.Proofs.Ytckcfgbcnefbhaa
open Go.RowKit
set_option linter.unusedVariables false
set_option maxRecDepth 100000
set_option linter.unusedSimpArgs false

theorem RowIs.has {w : World} {g : Nat} {t : TypeId} {l : List Value} (h : RowIs w g t l) {j : Nat} (hj : j < l.length) : ∃ v, w.cell? ⟨g, j, none⟩ = some v := ⟨_, h.cellAt (List.getElem?_eq_getElem hj)⟩
theorem row_set4 {w : World} {g : Nat} {t : TypeId} {s : List Int} (h : RowIs w g t (cells32 s)) (i j k m : Nat) (a b c d : Int) :
    RowIs ((((w.setCell ⟨g, i, none⟩ (.int .u32 a)).setCell ⟨g, j, none⟩ (.int .u32 b)).setCell ⟨g, k, none⟩ (.int .u32 c)).setCell ⟨g, m, none⟩ (.int .u32 d)) g t (cells32 ((((s.set i a).set j b).set k c).set m d)) := by
  have := (((h.set i (.int .u32 a)).set j (.int .u32 b)).set k (.int .u32 c)).set m (.int .u32 d)
  simpa [cells32, List.map_set] using this

/-- The operations of 's[i], s[j], s[k], s[m] = Quarter(s[i], s[j], s[k], s[m])', the slots from B on. -/
def qList (B i j k m : Nat) : List (Option Tmp × Op) :=
  [(some (B + 3), .move (.tmp 0)), (some (B + 4), .move (.tmp 0)), (some (B + 5), .move (.tmp 0)), (some (B + 6), .move (.tmp 0)),
   (some (B + 7), .move (.tmp 0)), (some (B + 8), .nilCheck (.tmp (B + 7))), (some (B + 9), .indexAddr 41 (.tmp (B + 8)) (.const (.int .i64 (i : Int)))), (some (B + 10), .load 22 (.tmp (B + 9))),
   (some (B + 11), .move (.tmp 0)), (some (B + 12), .nilCheck (.tmp (B + 11))), (some (B + 13), .indexAddr 41 (.tmp (B + 12)) (.const (.int .i64 (j : Int)))), (some (B + 14), .load 22 (.tmp (B + 13))),
   (some (B + 15), .move (.tmp 0)), (some (B + 16), .nilCheck (.tmp (B + 15))), (some (B + 17), .indexAddr 41 (.tmp (B + 16)) (.const (.int .i64 (k : Int)))), (some (B + 18), .load 22 (.tmp (B + 17))),
   (some (B + 19), .move (.tmp 0)), (some (B + 20), .nilCheck (.tmp (B + 19))), (some (B + 21), .indexAddr 41 (.tmp (B + 20)) (.const (.int .i64 (m : Int)))), (some (B + 22), .load 22 (.tmp (B + 21))),
   (some (B + 23), .call { callee := .value (.func 10), args := #[.tmp (B + 10), .tmp (B + 14), .tmp (B + 18), .tmp (B + 22)], argTypes := #[22, 22, 22, 22] }),
   (some (B + 2), .move (.tmp (B + 23))), (some (B + 24), .extract (.tmp (B + 2)) 0), (some (B + 25), .extract (.tmp (B + 2)) 1), (some (B + 26), .extract (.tmp (B + 2)) 2), (some (B + 27), .extract (.tmp (B + 2)) 3),
   (some (B + 28), .nilCheck (.tmp (B + 3))), (some (B + 29), .indexAddr 41 (.tmp (B + 28)) (.const (.int .i64 (i : Int)))), (none, .store 22 (.tmp (B + 29)) (.tmp (B + 24))),
   (some (B + 30), .nilCheck (.tmp (B + 4))), (some (B + 31), .indexAddr 41 (.tmp (B + 30)) (.const (.int .i64 (j : Int)))), (none, .store 22 (.tmp (B + 31)) (.tmp (B + 25))),
   (some (B + 32), .nilCheck (.tmp (B + 5))), (some (B + 33), .indexAddr 41 (.tmp (B + 32)) (.const (.int .i64 (k : Int)))), (none, .store 22 (.tmp (B + 33)) (.tmp (B + 26))),
   (some (B + 34), .nilCheck (.tmp (B + 6))), (some (B + 35), .indexAddr 41 (.tmp (B + 34)) (.const (.int .i64 (m : Int)))), (none, .store 22 (.tmp (B + 35)) (.tmp (B + 27)))]
def qA0 : List Nat := [0, 1, 2, 3, 4, 5, 6, 8, 9, 10, 12, 13, 14, 16, 17, 18, 26, 29, 32, 35]
def qL0 : Array Bool := Array.replicate 38 false
def qL1 : Array Bool := listAll qA0 qL0
def qL2 : Array Bool := listAll [7, 11, 15, 19] qL1
def qL3 : Array Bool := qL2.setIfInBounds 20 true
def qL4 : Array Bool := listAll [21, 22, 23, 24, 25, 27] qL3
def qL5 : Array Bool := qL4.setIfInBounds 28 true
def qL6 : Array Bool := listAll [30] qL5
def qL7 : Array Bool := qL6.setIfInBounds 31 true
def qL8 : Array Bool := listAll [33] qL7
def qL9 : Array Bool := qL8.setIfInBounds 34 true
def qLa : Array Bool := listAll [36] qL9
def qLb : Array Bool := qLa.setIfInBounds 37 true
def plainAt (ops : Array Oper) (i : Nat) : Bool := (ops[i]?).any fun o => o.guard.isNone
theorem plainAt_spec {ops : Array Oper} {i : Nat} {o : Oper} (h : plainAt ops i = true) (ho : ops[i]? = some o) : o.guard = none := by
  simpa [plainAt, ho] using h
/-- What the kernel is asked of such a region: whoever may come up, and who waits for whom. -/
def qOk (ops : Array Oper) : Bool :=
  ops.size == 38 && Region.noSelect ops && planOk .any ops qA0 qL0 && planOk .any ops [7, 11, 15, 19] qL1 && ([7, 11, 15, 19].all fun i => awaits .any ops 20 i) && Region.ready .any ops qL2 == [20] && plainAt ops 20 &&
  planOk .any ops [21, 22, 23, 24, 25, 27] qL3 && Region.ready .any ops qL4 == [28] && plainAt ops 28 && planOk .any ops [30] qL5 && Region.ready .any ops qL6 == [31] && plainAt ops 31 && planOk .any ops [33] qL7 && Region.ready .any ops qL8 == [34] && plainAt ops 34 &&
  planOk .any ops [36] qL9 && Region.ready .any ops qLa == [37] && plainAt ops 37 && Region.ready .any ops qLb == []

theorem arr16 : Try.prog.underlying 41 = some (.array 16 22) := Try.underlying41

set_option maxRecDepth 100000 in
set_option maxHeartbeats 2000000 in
theorem quarter_region {ops : Array Oper} {id : Nat} {Q : Exit → Act → World → Prop} (B i j k m : Nat) (hi : i < 16) (hj : j < 16) (hk : k < 16) (hm : m < 16) (hops : kinds ops = qList B i j k m) (hok : qOk ops = true)
    (hQ : ∀ c a d v w, Q (.panic c) (a.put d v) w → Q (.panic c) a w) (g : Nat) (s : List Int) (w : World) (a : Act) (hl : s.length = 16) (hw : allW s) (hr : RowIs w g 41 (cells32 s))
    (hB : ∀ n, n < 36 → B + n < a.tmps.size) (h0 : a.eval (.tmp 0) = .pointer (some ⟨g, 0, none⟩))
    (K : ∀ b w', b.tmps.size = a.tmps.size → b.eval (.tmp 0) = .pointer (some ⟨g, 0, none⟩) → b.defers = a.defers → RowIs w' g 41 (cells32 (qAt s i j k m)) → Upon g w w' → Q .normal b w') :
    (Code.region id ops true).wp Try.prog Q a w := by
  simp only [qOk, Bool.and_eq_true, beq_iff_eq] at hok
  obtain ⟨⟨⟨⟨⟨⟨⟨⟨⟨⟨⟨⟨⟨⟨⟨⟨⟨⟨⟨o1, o2⟩, o3⟩, o4⟩, o5⟩, o6⟩, o7⟩, o8⟩, o9⟩, oa⟩, ob⟩, oc'⟩, od⟩, oe⟩, of⟩, og⟩, oh⟩, oi⟩, oj⟩, ok⟩ := hok
  have hlen : (cells32 s).length = 16 := by rw [cells32_len, hl]
  have hr0 := hr.drew
  have ci := hr0.cellAt (cells32_at s i (by omega))
  have cj := hr0.cellAt (cells32_at s j (by omega))
  have ck := hr0.cellAt (cells32_at s k (by omega))
  have cm := hr0.cellAt (cells32_at s m (by omega))
  have wi := getD_w' hw i
  have wj := getD_w' hw j
  have wk := getD_w' hw k
  have wm := getD_w' hw m
  have hu := hr0
  have K' : ∀ b w', b.tmps.size = a.tmps.size → b.eval (.tmp 0) = .pointer (some ⟨g, 0, none⟩) → b.defers = a.defers → RowIs w' g 41 (cells32 ((((s.set i (qA (s.getD i 0) (s.getD j 0) (s.getD k 0) (s.getD m 0))).set j (qB (s.getD i 0) (s.getD j 0) (s.getD k 0) (s.getD m 0))).set k (qC (s.getD i 0) (s.getD j 0) (s.getD k 0) (s.getD m 0))).set m (qD (s.getD i 0) (s.getD j 0) (s.getD k 0) (s.getD m 0)))) → Upon g w w' → Q .normal b w' := K
  clear K
  generalize s.getD i 0 = xi at *
  generalize s.getD j 0 = xj at *
  generalize s.getD k 0 = xk at *
  generalize s.getD m 0 = xm at *
  have u0 : Upon g w w.drew := (Upon.refl g w).drew
  generalize hw0 : w.drew = w0 at *
  have hq := stream_quarter xi xj xk xm w0 wi wj wk wm
  generalize qA xi xj xk xm = ya at *
  generalize qB xi xj xk xm = yb at *
  generalize qC xi xj xk xm = yc at *
  generalize qD xi xj xk xm = yd at *
  have HC : Hid (∀ w : World, (callFunc 10 #[.int .u32 xi, .int .u32 xj, .int .u32 xk, .int .u32 xm]).run Try.prog w = .ok (.enter 10 #[.int .u32 xi, .int .u32 xj, .int .u32 xk, .int .u32 xm]) w) := fun w => by simp [go_sem]
  have hB0 := hB
  obtain ⟨p, hp⟩ : ∃ p : Value, p = .pointer (some ⟨g, 0, none⟩) := ⟨_, rfl⟩
  have idx : ∀ (a : Act) (o : Oper) (x : Operand) (n : Nat), n < 16 → o.op = .indexAddr 41 x (.const (.int .i64 (n : Int))) → a.eval x = p → ∀ w, (execOp a.eval o).run Try.prog w = .ok (.value (.pointer (some ⟨g, n, none⟩))) w := by
    intro a o x n hn ho hx w
    have := run_index' ho (hx.trans hp) rfl hn arr16 cells30 w
    rwa [Nat.zero_add] at this
  have nil : ∀ (a : Act) (o : Oper) (x : Operand), o.op = .nilCheck x → a.eval x = p → ∀ w, (execOp a.eval o).run Try.prog w = .ok (.value p) w := by
    intro a o x ho hx w
    rw [hp]
    exact run_nil' ho (hx.trans hp) w
  have h0' : a.eval (.tmp 0) = p := h0.trans hp.symm
  have hA : ∃ b, Chain Try.prog ops (fun _ => True) [(0, p), (1, p), (2, p), (3, p), (4, p), (5, p), (6, .pointer (some ⟨g, i, none⟩)), (8, p), (9, p), (10, .pointer (some ⟨g, j, none⟩)), (12, p), (13, p), (14, .pointer (some ⟨g, k, none⟩)), (16, p), (17, p), (18, .pointer (some ⟨g, m, none⟩)), (26, p), (29, p), (32, p), (35, p)] a b ∧ b.tmps.size = a.tmps.size ∧ b.defers = a.defers ∧ b.eval (.tmp 0) = p ∧ b.eval (.tmp (B + 9)) = .pointer (some ⟨g, i, none⟩) ∧ b.eval (.tmp (B + 13)) = .pointer (some ⟨g, j, none⟩) ∧ b.eval (.tmp (B + 17)) = .pointer (some ⟨g, k, none⟩) ∧ b.eval (.tmp (B + 21)) = .pointer (some ⟨g, m, none⟩) ∧ b.eval (.tmp (B + 28)) = p ∧ b.eval (.tmp (B + 30)) = p ∧ b.eval (.tmp (B + 32)) = p ∧ b.eval (.tmp (B + 34)) = p := by
    refine Chain.exCons hops rfl (fun o ho w _ => run_move' ho h0' w) ?_
    refine Chain.exCons hops rfl (fun o ho w _ => run_move' ho (by simp [eval_put, size_put, hB, h0']) w) ?_
    refine Chain.exCons hops rfl (fun o ho w _ => run_move' ho (by simp [eval_put, size_put, hB, h0']) w) ?_
    refine Chain.exCons hops rfl (fun o ho w _ => run_move' ho (by simp [eval_put, size_put, hB, h0']) w) ?_
    refine Chain.exCons hops rfl (fun o ho w _ => run_move' ho (by simp [eval_put, size_put, hB, h0']) w) ?_
    refine Chain.exCons hops rfl (fun o ho w _ => nil _ o _ ho (by simp [eval_put, size_put, hB, h0']) w) ?_
    refine Chain.exCons hops rfl (fun o ho w _ => idx _ o _ i hi ho (by simp [eval_put, size_put, hB, h0']) w) ?_
    refine Chain.exCons hops rfl (fun o ho w _ => run_move' ho (by simp [eval_put, size_put, hB, h0']) w) ?_
    refine Chain.exCons hops rfl (fun o ho w _ => nil _ o _ ho (by simp [eval_put, size_put, hB, h0']) w) ?_
    refine Chain.exCons hops rfl (fun o ho w _ => idx _ o _ j hj ho (by simp [eval_put, size_put, hB, h0']) w) ?_
    refine Chain.exCons hops rfl (fun o ho w _ => run_move' ho (by simp [eval_put, size_put, hB, h0']) w) ?_
    refine Chain.exCons hops rfl (fun o ho w _ => nil _ o _ ho (by simp [eval_put, size_put, hB, h0']) w) ?_
    refine Chain.exCons hops rfl (fun o ho w _ => idx _ o _ k hk ho (by simp [eval_put, size_put, hB, h0']) w) ?_
    refine Chain.exCons hops rfl (fun o ho w _ => run_move' ho (by simp [eval_put, size_put, hB, h0']) w) ?_
    refine Chain.exCons hops rfl (fun o ho w _ => nil _ o _ ho (by simp [eval_put, size_put, hB, h0']) w) ?_
    refine Chain.exCons hops rfl (fun o ho w _ => idx _ o _ m hm ho (by simp [eval_put, size_put, hB, h0']) w) ?_
    refine Chain.exCons hops rfl (fun o ho w _ => nil _ o _ ho (by simp [eval_put, size_put, hB, h0']) w) ?_
    refine Chain.exCons hops rfl (fun o ho w _ => nil _ o _ ho (by simp [eval_put, size_put, hB, h0']) w) ?_
    refine Chain.exCons hops rfl (fun o ho w _ => nil _ o _ ho (by simp [eval_put, size_put, hB, h0']) w) ?_
    refine Chain.exCons hops rfl (fun o ho w _ => nil _ o _ ho (by simp [eval_put, size_put, hB, h0']) w) ?_
    refine Chain.exNil ⟨?_, ?_, ?_, ?_, ?_, ?_, ?_, ?_, ?_, ?_, ?_⟩
    all_goals simp [eval_put, size_put, defers_put, hB, h0']
  obtain ⟨b, hA, s1, d1, e0, ei, ej, ek, em, f1, f2, f3, f4⟩ := hA
  have hB1 : ∀ n, n < 36 → B + n < b.tmps.size := by rw [s1]; exact hB
  have hT : w0.cell? ⟨g, i, none⟩ = some (.int .u32 xi) ∧ w0.cell? ⟨g, j, none⟩ = some (.int .u32 xj) ∧ w0.cell? ⟨g, k, none⟩ = some (.int .u32 xk) ∧ w0.cell? ⟨g, m, none⟩ = some (.int .u32 xm) := ⟨ci, cj, ck, cm⟩
  refine wp_region_T (n := 38) (fun _ => True) (fun w => w.cell? ⟨g, i, none⟩ = some (.int .u32 xi) ∧ w.cell? ⟨g, j, none⟩ = some (.int .u32 xj) ∧ w.cell? ⟨g, k, none⟩ = some (.int .u32 xk) ∧ w.cell? ⟨g, m, none⟩ = some (.int .u32 xm)) 20 (by kernel_rfl) o1 ?_
  rw [hw0]
  refine wpAnyT_takesS (T := fun w => w.cell? ⟨g, i, none⟩ = some (.int .u32 xi) ∧ w.cell? ⟨g, j, none⟩ = some (.int .u32 xj) ∧ w.cell? ⟨g, k, none⟩ = some (.int .u32 xk) ∧ w.cell? ⟨g, m, none⟩ = some (.int .u32 xm)) o2 hQ _ 18 _ a b _ o3 rfl hA True.intro hT ?_
  have hL : ∃ b', Chain Try.prog ops (fun w => True ∧ (w.cell? ⟨g, i, none⟩ = some (.int .u32 xi) ∧ w.cell? ⟨g, j, none⟩ = some (.int .u32 xj) ∧ w.cell? ⟨g, k, none⟩ = some (.int .u32 xk) ∧ w.cell? ⟨g, m, none⟩ = some (.int .u32 xm))) [(7, .int .u32 xi), (11, .int .u32 xj), (15, .int .u32 xk), (19, .int .u32 xm)] b b' ∧ b'.tmps.size = a.tmps.size ∧ b'.defers = a.defers ∧ b'.eval (.tmp 0) = p ∧ b'.eval (.tmp (B + 10)) = .int .u32 xi ∧ b'.eval (.tmp (B + 14)) = .int .u32 xj ∧ b'.eval (.tmp (B + 18)) = .int .u32 xk ∧ b'.eval (.tmp (B + 22)) = .int .u32 xm ∧ b'.eval (.tmp (B + 28)) = p ∧ b'.eval (.tmp (B + 30)) = p ∧ b'.eval (.tmp (B + 32)) = p ∧ b'.eval (.tmp (B + 34)) = p := by
    refine Chain.exCons hops rfl (fun o ho w hw => run_load' ho (by simp [eval_put, size_put, hB1, ei, ej, ek, em]) Try.underlying22 w hw.2.1) ?_
    refine Chain.exCons hops rfl (fun o ho w hw => run_load' ho (by simp [eval_put, size_put, hB1, ei, ej, ek, em]) Try.underlying22 w hw.2.2.1) ?_
    refine Chain.exCons hops rfl (fun o ho w hw => run_load' ho (by simp [eval_put, size_put, hB1, ei, ej, ek, em]) Try.underlying22 w hw.2.2.2.1) ?_
    refine Chain.exCons hops rfl (fun o ho w hw => run_load' ho (by simp [eval_put, size_put, hB1, ei, ej, ek, em]) Try.underlying22 w hw.2.2.2.2) ?_
    refine Chain.exNil ⟨?_, ?_, ?_, ?_, ?_, ?_, ?_, ?_, ?_, ?_, ?_⟩
    all_goals simp [eval_put, size_put, defers_put, hB0, s1, d1, e0, f1, f2, f3, f4]
  clear ei ej ek em e0 f1 f2 f3 f4 hB1 hA
  obtain ⟨c, hL, s2, d2, e0, ei, ej, ek, em, f1, f2, f3, f4⟩ := hL
  clear s1 d1
  refine wpAnyT_takesT (T := fun w => w.cell? ⟨g, i, none⟩ = some (.int .u32 xi) ∧ w.cell? ⟨g, j, none⟩ = some (.int .u32 xj) ∧ w.cell? ⟨g, k, none⟩ = some (.int .u32 xk) ∧ w.cell? ⟨g, m, none⟩ = some (.int .u32 xm)) o2 hQ _ 14 _ b c _ o4 o5 hL True.intro hT ?_
  obtain ⟨oc, hoc, hd, hx⟩ := kinds_at hops (i := 20) rfl
  refine wpAnyT_call o6 hoc (plainAt_spec o7 hoc) ?_
  refine wp_call' hx (vs := #[.int .u32 xi, .int .u32 xj, .int .u32 xk, .int .u32 xm]) (by simp [ei, ej, ek, em]) (HC.out w0) (hq.mono (fun e w'' h => ⟨h.1, h.2.symm⟩)) ⟨True.intro, ?_⟩
  rw [hd]
  have hB2 : ∀ n, n < 36 → B + n < (c.put (some (B + 23)) (.tuple #[.int .u32 ya, .int .u32 yb, .int .u32 yc, .int .u32 yd])).tmps.size := by rw [size_put, s2]; exact hB
  have s3 : (c.put (some (B + 23)) (.tuple #[.int .u32 ya, .int .u32 yb, .int .u32 yc, .int .u32 yd])).tmps.size = a.tmps.size := by rw [size_put, s2]
  have d3 : (c.put (some (B + 23)) (.tuple #[.int .u32 ya, .int .u32 yb, .int .u32 yc, .int .u32 yd])).defers = a.defers := by rw [defers_put, d2]
  have t3 : (c.put (some (B + 23)) (.tuple #[.int .u32 ya, .int .u32 yb, .int .u32 yc, .int .u32 yd])).eval (.tmp (B + 23)) = (.tuple #[.int .u32 ya, .int .u32 yb, .int .u32 yc, .int .u32 yd]) := by simp [eval_put, s2, hB]
  have z0 : (c.put (some (B + 23)) (.tuple #[.int .u32 ya, .int .u32 yb, .int .u32 yc, .int .u32 yd])).eval (.tmp 0) = p := by simp [eval_put, e0, f1, f2, f3, f4]
  have z1 : (c.put (some (B + 23)) (.tuple #[.int .u32 ya, .int .u32 yb, .int .u32 yc, .int .u32 yd])).eval (.tmp (B + 28)) = p := by simp [eval_put, e0, f1, f2, f3, f4]
  have z2 : (c.put (some (B + 23)) (.tuple #[.int .u32 ya, .int .u32 yb, .int .u32 yc, .int .u32 yd])).eval (.tmp (B + 30)) = p := by simp [eval_put, e0, f1, f2, f3, f4]
  have z3 : (c.put (some (B + 23)) (.tuple #[.int .u32 ya, .int .u32 yb, .int .u32 yc, .int .u32 yd])).eval (.tmp (B + 32)) = p := by simp [eval_put, e0, f1, f2, f3, f4]
  have z4 : (c.put (some (B + 23)) (.tuple #[.int .u32 ya, .int .u32 yb, .int .u32 yc, .int .u32 yd])).eval (.tmp (B + 34)) = p := by simp [eval_put, e0, f1, f2, f3, f4]
  clear hB s2 d2 e0 ei ej ek em f1 f2 f3 f4 hx hd hL h0 h0'
  generalize c.put (some (B + 23)) (.tuple #[.int .u32 ya, .int .u32 yb, .int .u32 yc, .int .u32 yd]) = d at *
  have hE : ∃ b', Chain Try.prog ops (fun _ => True) [(21, .tuple #[.int .u32 ya, .int .u32 yb, .int .u32 yc, .int .u32 yd]), (22, .int .u32 ya), (23, .int .u32 yb), (24, .int .u32 yc), (25, .int .u32 yd), (27, .pointer (some ⟨g, i, none⟩))] d b' ∧ b'.tmps.size = a.tmps.size ∧ b'.defers = a.defers ∧ b'.eval (.tmp 0) = p ∧ b'.eval (.tmp (B + 29)) = .pointer (some ⟨g, i, none⟩) ∧ b'.eval (.tmp (B + 24)) = .int .u32 ya ∧ b'.eval (.tmp (B + 25)) = .int .u32 yb ∧ b'.eval (.tmp (B + 26)) = .int .u32 yc ∧ b'.eval (.tmp (B + 27)) = .int .u32 yd ∧ b'.eval (.tmp (B + 30)) = p ∧ b'.eval (.tmp (B + 32)) = p ∧ b'.eval (.tmp (B + 34)) = p := by
    refine Chain.exCons hops rfl (fun o ho w _ => run_move' ho t3 w) ?_
    refine Chain.exCons hops rfl (fun o ho w _ => run_extract' ho (vs := #[.int .u32 ya, .int .u32 yb, .int .u32 yc, .int .u32 yd]) (by simp [eval_put, size_put, hB2, t3, z1]) rfl w) ?_
    refine Chain.exCons hops rfl (fun o ho w _ => run_extract' ho (vs := #[.int .u32 ya, .int .u32 yb, .int .u32 yc, .int .u32 yd]) (by simp [eval_put, size_put, hB2, t3, z1]) rfl w) ?_
    refine Chain.exCons hops rfl (fun o ho w _ => run_extract' ho (vs := #[.int .u32 ya, .int .u32 yb, .int .u32 yc, .int .u32 yd]) (by simp [eval_put, size_put, hB2, t3, z1]) rfl w) ?_
    refine Chain.exCons hops rfl (fun o ho w _ => run_extract' ho (vs := #[.int .u32 ya, .int .u32 yb, .int .u32 yc, .int .u32 yd]) (by simp [eval_put, size_put, hB2, t3, z1]) rfl w) ?_
    refine Chain.exCons hops rfl (fun o ho w _ => idx _ o _ i hi ho (by simp [eval_put, size_put, hB2, t3, z1]) w) ?_
    refine Chain.exNil ⟨?_, ?_, ?_, ?_, ?_, ?_, ?_, ?_, ?_, ?_, ?_⟩
    all_goals simp [eval_put, size_put, defers_put, hB0, s3, d3, z0, z2, z3, z4]
  obtain ⟨e1, hE, s4, d4, z0', g0, ga, gb, gc, gd, z2', z3', z4'⟩ := hE
  refine wpAnyH_takes o2 hQ _ 7 _ d e1 _ o8 hE True.intro ?_
  clear hE hB2 s3 d3 t3 z0 z1 z2 z3 z4
  have hB3 : ∀ n, n < 36 → B + n < e1.tmps.size := by rw [s4]; exact hB0
  obtain ⟨v1, c1⟩ := hr0.has (j := i) (by omega)
  obtain ⟨q1, hq1, hd1, hx1⟩ := kinds_at hops (i := 28) rfl
  refine wpAnyH_step o9 hq1 (plainAt_spec oa hq1) (wp_store' hx1 hd1 g0 ga cells30 c1 (hr0.frozen _) ⟨True.intro, ?_⟩)
  have r1 := hr0.set i (.int .u32 ya)
  refine wpAnyH_takes o2 hQ [(30, .pointer (some ⟨g, j, none⟩))] 5 _ e1 _ _ ob (.cons hops rfl (fun o ho w _ => idx _ o _ j hj ho z2' w) .nil) True.intro ?_
  obtain ⟨v2, c2⟩ := r1.has (j := j) (by rw [List.length_set]; omega)
  obtain ⟨q2, hq2, hd2, hx2⟩ := kinds_at hops (i := 31) rfl
  refine wpAnyH_step oc' hq2 (plainAt_spec od hq2) (wp_store' (k := .u32) (n := yb) (p := ⟨g, j, none⟩) hx2 hd2 (by simp [eval_put, hB3]) (by simp [eval_put, gb]) cells30 c2 (r1.frozen _) ⟨True.intro, ?_⟩)
  have r2 := r1.set j (.int .u32 yb)
  refine wpAnyH_takes o2 hQ [(33, .pointer (some ⟨g, k, none⟩))] 3 _ _ _ _ oe (.cons hops rfl (fun o ho w _ => idx _ o _ k hk ho (by simp [eval_put, z3']) w) .nil) True.intro ?_
  obtain ⟨v3, c3⟩ := r2.has (j := k) (by rw [List.length_set, List.length_set]; omega)
  obtain ⟨q3, hq3, hd3, hx3⟩ := kinds_at hops (i := 34) rfl
  refine wpAnyH_step of hq3 (plainAt_spec og hq3) (wp_store' (k := .u32) (n := yc) (p := ⟨g, k, none⟩) hx3 hd3 (by simp [eval_put, size_put, hB3]) (by simp [eval_put, gc]) cells30 c3 (r2.frozen _) ⟨True.intro, ?_⟩)
  have r3 := r2.set k (.int .u32 yc)
  refine wpAnyH_takes o2 hQ [(36, .pointer (some ⟨g, m, none⟩))] 1 _ _ _ _ oh (.cons hops rfl (fun o ho w _ => idx _ o _ m hm ho (by simp [eval_put, z4']) w) .nil) True.intro ?_
  obtain ⟨v4, c4⟩ := r3.has (j := m) (by rw [List.length_set, List.length_set, List.length_set]; omega)
  obtain ⟨q4, hq4, hd4, hx4⟩ := kinds_at hops (i := 37) rfl
  refine wpAnyH_step oi hq4 (plainAt_spec oj hq4) (wp_store' (k := .u32) (n := yd) (p := ⟨g, m, none⟩) hx4 hd4 (by simp [eval_put, size_put, hB3]) (by simp [eval_put, gd]) cells30 c4 (r3.frozen _) ⟨True.intro, ?_⟩)
  refine ⟨ok, K' _ _ (by simp [size_put, s4]) (by simp [eval_put, z0', hp]) (by simp [defers_put, d4]) (row_set4 hr0 i j k m ya yb yc yd) ((((u0.setCell i _).setCell j _).setCell k _).setCell m _)⟩
end Go.Proofs.Ytckcfgbcnefbhaa
