/-
  Parts of this proof, one behind the other: RefG, RefT.
-/
import Derived.Test.YtgeackoaghkgmaaBun18
import Derived.Test.YtgeackoaghkgmaaBun4

/-
  The region 'w[r[0]], w[r[1]], w[r[2]], w[r[3]] = Quarter(w[r[0]], w[r[1]], w[r[2]], w[r[3]])' of the reference's Block.
-/
namespace Go.Proofs.Ytgeackoaghkgmaa
open Go.RowKit
set_option linter.unusedVariables false
set_option maxRecDepth 100000
set_option linter.unusedSimpArgs false

theorem run_indexS {P : Program} {a : Act} {o : Oper} {x ix : Operand} {t e : TypeId} {n cap b j k : Nat} (ho : o.op = .indexAddr t x ix) (hx : a.eval x = .slice (some ⟨b, j, none⟩) n cap) (hi : a.eval ix = .int .i64 (k : Int)) (hk : k < n)
    (hu : P.underlying t = some (.slice e)) (hz : (P.info? e).map (·.size) = some 1) (w : World) : (execOp a.eval o).run P w = .ok (.value (.pointer (some ⟨b, j + k, none⟩))) w := by
  have hz' : (sizeOf e).run P w = .ok 1 w := by
    cases hi : P.info? e with
    | none => simp [hi] at hz
    | some i => simp [hi] at hz; simp [sizeOf, typeInfo, hi, hz]
  have h0 : (0 : Int) ≤ (k : Int) := by omega
  have h1 : (k : Int) < (n : Int) := by omega
  have hrun : (Instr.indexAt t (.slice (some ⟨b, j, none⟩) n cap) (.int .i64 (k : Int))).run P w = .ok (.pointer (some ⟨b, j + k, none⟩)) w := by
    simp [go_sem, hu, hz', h0, h1]
  unfold execOp
  simp only [ho, hx, hi, Sem.run_bind, hrun]
  rfl
theorem eval_out {a : Act} {j n : Nat} {v : Value} (h1 : 79 ≤ j) (h2 : j ≤ 128) (hn : n < 79 ∨ 128 < n) : (a.put (some j) v).eval (.tmp n) = a.eval (.tmp n) := eval_put_ne (by omega)
theorem size_int : (Try.prog.info? 3).map (·.size) = some 1 := by kernel_rfl

def rList : List (Option Tmp × Op) :=
  [(some 80, .move (.tmp 10)),
   (some 81, .move (.tmp 14)),
   (some 82, .indexAddr 59 (.tmp 81) (.const (.int .i64 ((0 : Nat) : Int)))),
   (some 83, .load 3 (.tmp 82)),
   (some 84, .move (.tmp 10)),
   (some 85, .move (.tmp 14)),
   (some 86, .indexAddr 59 (.tmp 85) (.const (.int .i64 ((1 : Nat) : Int)))),
   (some 87, .load 3 (.tmp 86)),
   (some 88, .move (.tmp 10)),
   (some 89, .move (.tmp 14)),
   (some 90, .indexAddr 59 (.tmp 89) (.const (.int .i64 ((2 : Nat) : Int)))),
   (some 91, .load 3 (.tmp 90)),
   (some 92, .move (.tmp 10)),
   (some 93, .move (.tmp 14)),
   (some 94, .indexAddr 59 (.tmp 93) (.const (.int .i64 ((3 : Nat) : Int)))),
   (some 95, .load 3 (.tmp 94)),
   (some 96, .move (.tmp 10)),
   (some 97, .move (.tmp 14)),
   (some 98, .indexAddr 59 (.tmp 97) (.const (.int .i64 ((0 : Nat) : Int)))),
   (some 99, .load 3 (.tmp 98)),
   (some 100, .indexAddr 61 (.tmp 96) (.tmp 99)),
   (some 101, .load 30 (.tmp 100)),
   (some 102, .move (.tmp 10)),
   (some 103, .move (.tmp 14)),
   (some 104, .indexAddr 59 (.tmp 103) (.const (.int .i64 ((1 : Nat) : Int)))),
   (some 105, .load 3 (.tmp 104)),
   (some 106, .indexAddr 61 (.tmp 102) (.tmp 105)),
   (some 107, .load 30 (.tmp 106)),
   (some 108, .move (.tmp 10)),
   (some 109, .move (.tmp 14)),
   (some 110, .indexAddr 59 (.tmp 109) (.const (.int .i64 ((2 : Nat) : Int)))),
   (some 111, .load 3 (.tmp 110)),
   (some 112, .indexAddr 61 (.tmp 108) (.tmp 111)),
   (some 113, .load 30 (.tmp 112)),
   (some 114, .move (.tmp 10)),
   (some 115, .move (.tmp 14)),
   (some 116, .indexAddr 59 (.tmp 115) (.const (.int .i64 ((3 : Nat) : Int)))),
   (some 117, .load 3 (.tmp 116)),
   (some 118, .indexAddr 61 (.tmp 114) (.tmp 117)),
   (some 119, .load 30 (.tmp 118)),
   (some 120, .call { callee := .value (.func 40), args := #[.tmp 101, .tmp 107, .tmp 113, .tmp 119], argTypes := #[30, 30, 30, 30] }),
   (some 79, .move (.tmp 120)),
   (some 121, .extract (.tmp 79) 0),
   (some 122, .extract (.tmp 79) 1),
   (some 123, .extract (.tmp 79) 2),
   (some 124, .extract (.tmp 79) 3),
   (some 125, .indexAddr 61 (.tmp 80) (.tmp 83)),
   (none, .store 30 (.tmp 125) (.tmp 121)),
   (some 126, .indexAddr 61 (.tmp 84) (.tmp 87)),
   (none, .store 30 (.tmp 126) (.tmp 122)),
   (some 127, .indexAddr 61 (.tmp 88) (.tmp 91)),
   (none, .store 30 (.tmp 127) (.tmp 123)),
   (some 128, .indexAddr 61 (.tmp 92) (.tmp 95)),
   (none, .store 30 (.tmp 128) (.tmp 124))]
def rA : List Nat := [0, 1, 2, 3, 4, 5, 6, 7, 8, 9, 10, 11, 12, 13, 14, 15, 16, 17, 18, 19, 20, 22, 23, 24, 25, 26, 28, 29, 30, 31, 32, 34, 35, 36, 37, 38]
def rL0 : Array Bool := Array.replicate 54 false
def rL1 : Array Bool := listAll rA rL0
def rL2 : Array Bool := listAll [21, 27, 33, 39] rL1
def rL3 : Array Bool := rL2.setIfInBounds 40 true
def rL4 : Array Bool := listAll [41, 42, 43, 44, 45, 46] rL3
def rL5 : Array Bool := rL4.setIfInBounds 47 true
def rL6 : Array Bool := listAll [48] rL5
def rL7 : Array Bool := rL6.setIfInBounds 49 true
def rL8 : Array Bool := listAll [50] rL7
def rL9 : Array Bool := rL8.setIfInBounds 51 true
def rLa : Array Bool := listAll [52] rL9
def rLb : Array Bool := rLa.setIfInBounds 53 true
def rOk (ops : Array Oper) : Bool :=
  ops.size == 54 && Region.noSelect ops && planOk .any ops rA rL0 && planOk .any ops [21, 27, 33, 39] rL1 && ([21, 27, 33, 39].all fun i => awaits .any ops 40 i) && Region.ready .any ops rL2 == [40] && plainAt ops 40 &&
  planOk .any ops [41, 42, 43, 44, 45, 46] rL3 && Region.ready .any ops rL4 == [47] && plainAt ops 47 && planOk .any ops [48] rL5 && Region.ready .any ops rL6 == [49] && plainAt ops 49 && planOk .any ops [50] rL7 && Region.ready .any ops rL8 == [51] && plainAt ops 51 &&
  planOk .any ops [52] rL9 && Region.ready .any ops rLa == [53] && plainAt ops 53 && Region.ready .any ops rLb == []

set_option maxRecDepth 100000 in
set_option maxHeartbeats 2000000 in
theorem ref_region {ops : Array Oper} {id : Nat} {Q : Exit → Act → World → Prop} (hops : kinds ops = rList) (hok : rOk ops = true)
    (hQ : ∀ c a d v w, Q (.panic c) (a.put d v) w → Q (.panic c) a w) (B gw cap gr i j k m : Nat) (s : List Int) (w : World) (a : Act) (hi : i < 16) (hj : j < 16) (hk0 : k < 16) (hm : m < 16) (hl : s.length = 16) (hw : allW s) (hne : gr ≠ gw) (hBg : B ≤ gw)
    (hown : w.ownsRow B 30 1 (.slice (some ⟨gw, 0, none⟩) 16 cap) 16 (cells32 s))
    (q0 : w.cell? ⟨gr, 0, none⟩ = some (.int .i64 (i : Int))) (q1 : w.cell? ⟨gr, 1, none⟩ = some (.int .i64 (j : Int))) (q2 : w.cell? ⟨gr, 2, none⟩ = some (.int .i64 (k : Int))) (q3 : w.cell? ⟨gr, 3, none⟩ = some (.int .i64 (m : Int)))
    (hs : a.tmps.size = 147) (h10 : a.eval (.tmp 10) = .slice (some ⟨gw, 0, none⟩) 16 cap) (h14 : a.eval (.tmp 14) = .slice (some ⟨gr, 0, none⟩) 4 4)
    (K : ∀ b w', b.tmps.size = 147 → b.defers = a.defers → (∀ n, n < 79 ∨ 128 < n → b.eval (.tmp n) = a.eval (.tmp n)) → w'.ownsRow B 30 1 (.slice (some ⟨gw, 0, none⟩) 16 cap) 16 (cells32 (qAt s i j k m)) → Upon gw w w' → Q .normal b w') :
    (Code.region id ops true).wp Try.prog Q a w := by
  simp only [rOk, Bool.and_eq_true, beq_iff_eq] at hok
  obtain ⟨⟨⟨⟨⟨⟨⟨⟨⟨⟨⟨⟨⟨⟨⟨⟨⟨⟨⟨o1, o2⟩, o3⟩, o4⟩, o5⟩, o6⟩, o7⟩, o8⟩, o9⟩, oa⟩, ob⟩, oc'⟩, od⟩, oe⟩, of⟩, og⟩, oh⟩, oi⟩, oj⟩, ok⟩ := hok
  have hlen : (cells32 s).length = 16 := by rw [cells32_len, hl]
  have hu0 : w.drew.ownsRow B 30 1 (.slice (some ⟨gw, 0, none⟩) 16 cap) 16 (cells32 s) := hown
  have cellAt : ∀ n, n < 16 → w.drew.cell? ⟨gw, n, none⟩ = some (.int .u32 (s.getD n 0)) := fun n hn => by
    have h1 := hu0.cellAt n (by omega)
    rw [cells32_at s n (by omega)] at h1
    exact h1
  have ci := cellAt i hi
  have cj := cellAt j hj
  have ck := cellAt k hk0
  have cm := cellAt m hm
  clear cellAt
  have wi := getD_w' hw i
  have wj := getD_w' hw j
  have wk := getD_w' hw k
  have wm := getD_w' hw m
  have K' : ∀ b w', b.tmps.size = 147 → b.defers = a.defers → (∀ n, n < 79 ∨ 128 < n → b.eval (.tmp n) = a.eval (.tmp n)) → w'.ownsRow B 30 1 (.slice (some ⟨gw, 0, none⟩) 16 cap) 16 (cells32 ((((s.set i (qA (s.getD i 0) (s.getD j 0) (s.getD k 0) (s.getD m 0))).set j (qB (s.getD i 0) (s.getD j 0) (s.getD k 0) (s.getD m 0))).set k (qC (s.getD i 0) (s.getD j 0) (s.getD k 0) (s.getD m 0))).set m (qD (s.getD i 0) (s.getD j 0) (s.getD k 0) (s.getD m 0)))) → Upon gw w w' → Q .normal b w' := K
  clear K
  generalize s.getD i 0 = xi at *
  generalize s.getD j 0 = xj at *
  generalize s.getD k 0 = xk at *
  generalize s.getD m 0 = xm at *
  have u0 : Upon gw w w.drew := (Upon.refl gw w).drew
  have p0 : w.drew.cell? ⟨gr, 0, none⟩ = some (.int .i64 (i : Int)) := q0
  have p1 : w.drew.cell? ⟨gr, 1, none⟩ = some (.int .i64 (j : Int)) := q1
  have p2 : w.drew.cell? ⟨gr, 2, none⟩ = some (.int .i64 (k : Int)) := q2
  have p3 : w.drew.cell? ⟨gr, 3, none⟩ = some (.int .i64 (m : Int)) := q3
  clear q0 q1 q2 q3
  generalize hw0 : w.drew = w0 at *
  have hq := ref_quarter xi xj xk xm w0 wi wj wk wm
  generalize qA xi xj xk xm = ya at *
  generalize qB xi xj xk xm = yb at *
  generalize qC xi xj xk xm = yc at *
  generalize qD xi xj xk xm = yd at *
  have HC : Hid (∀ w : World, (callFunc 40 #[.int .u32 xi, .int .u32 xj, .int .u32 xk, .int .u32 xm]).run Try.prog w = .ok (.enter 40 #[.int .u32 xi, .int .u32 xj, .int .u32 xk, .int .u32 xm]) w) := fun w => by simp [go_sem]
  obtain ⟨W, hW⟩ : ∃ W : Value, W = .slice (some ⟨gw, 0, none⟩) 16 cap := ⟨_, rfl⟩
  obtain ⟨R, hR⟩ : ∃ R : Value, R = .slice (some ⟨gr, 0, none⟩) 4 4 := ⟨_, rfl⟩
  have idw : ∀ (a : Act) (o : Oper) (x y : Operand) (n : Nat), n < 16 → o.op = .indexAddr 61 x y → a.eval x = W → a.eval y = .int .i64 (n : Int) → ∀ w, (execOp a.eval o).run Try.prog w = .ok (.value (.pointer (some ⟨gw, n, none⟩))) w := by
    intro a o x y n hn ho hx hy w
    have := run_indexS ho (hx.trans hW) hy hn Try.underlying61 cells30 w
    rwa [Nat.zero_add] at this
  have idr : ∀ (a : Act) (o : Oper) (x : Operand) (n : Nat), n < 4 → o.op = .indexAddr 59 x (.const (.int .i64 (n : Int))) → a.eval x = R → ∀ w, (execOp a.eval o).run Try.prog w = .ok (.value (.pointer (some ⟨gr, n, none⟩))) w := by
    intro a o x n hn ho hx w
    have := run_indexS ho (hx.trans hR) rfl hn Try.underlying59 size_int w
    rwa [Nat.zero_add] at this
  rw [← hW] at h10
  rw [← hR] at h14
  have hA : ∃ b, Chain Try.prog ops (fun w => w.cell? ⟨gr, 0, none⟩ = some (.int .i64 (i : Int)) ∧ w.cell? ⟨gr, 1, none⟩ = some (.int .i64 (j : Int)) ∧ w.cell? ⟨gr, 2, none⟩ = some (.int .i64 (k : Int)) ∧ w.cell? ⟨gr, 3, none⟩ = some (.int .i64 (m : Int))) [(0, W), (1, R), (2, .pointer (some ⟨gr, 0, none⟩)), (3, .int .i64 (i : Int)), (4, W), (5, R), (6, .pointer (some ⟨gr, 1, none⟩)), (7, .int .i64 (j : Int)), (8, W), (9, R), (10, .pointer (some ⟨gr, 2, none⟩)), (11, .int .i64 (k : Int)), (12, W), (13, R), (14, .pointer (some ⟨gr, 3, none⟩)), (15, .int .i64 (m : Int)), (16, W), (17, R), (18, .pointer (some ⟨gr, 0, none⟩)), (19, .int .i64 (i : Int)), (20, .pointer (some ⟨gw, i, none⟩)), (22, W), (23, R), (24, .pointer (some ⟨gr, 1, none⟩)), (25, .int .i64 (j : Int)), (26, .pointer (some ⟨gw, j, none⟩)), (28, W), (29, R), (30, .pointer (some ⟨gr, 2, none⟩)), (31, .int .i64 (k : Int)), (32, .pointer (some ⟨gw, k, none⟩)), (34, W), (35, R), (36, .pointer (some ⟨gr, 3, none⟩)), (37, .int .i64 (m : Int)), (38, .pointer (some ⟨gw, m, none⟩))] a b ∧ b.tmps.size = 147 ∧ b.defers = a.defers ∧ (∀ n, n < 79 ∨ 128 < n → b.eval (.tmp n) = a.eval (.tmp n)) ∧ b.eval (.tmp 100) = .pointer (some ⟨gw, i, none⟩) ∧ b.eval (.tmp 106) = .pointer (some ⟨gw, j, none⟩) ∧ b.eval (.tmp 112) = .pointer (some ⟨gw, k, none⟩) ∧ b.eval (.tmp 118) = .pointer (some ⟨gw, m, none⟩) ∧ b.eval (.tmp 80) = W ∧ b.eval (.tmp 83) = .int .i64 (i : Int) ∧ b.eval (.tmp 84) = W ∧ b.eval (.tmp 87) = .int .i64 (j : Int) ∧ b.eval (.tmp 88) = W ∧ b.eval (.tmp 91) = .int .i64 (k : Int) ∧ b.eval (.tmp 92) = W ∧ b.eval (.tmp 95) = .int .i64 (m : Int) := by
    refine Chain.exCons hops rfl (fun o ho w hw => run_move' ho h10 w) ?_
    refine Chain.exCons hops rfl (fun o ho w hw => run_move' ho (by simp [eval_put, size_put, hs, h10, h14]) w) ?_
    refine Chain.exCons hops rfl (fun o ho w hw => idr _ o _ 0 (by decide) ho (by simp [eval_put, size_put, hs, h10, h14]) w) ?_
    refine Chain.exCons hops rfl (fun o ho w hw => run_load' ho (by simp [eval_put, size_put, hs, h10, h14]) Try.underlying3 w hw.1) ?_
    refine Chain.exCons hops rfl (fun o ho w hw => run_move' ho (by simp [eval_put, size_put, hs, h10, h14]) w) ?_
    refine Chain.exCons hops rfl (fun o ho w hw => run_move' ho (by simp [eval_put, size_put, hs, h10, h14]) w) ?_
    refine Chain.exCons hops rfl (fun o ho w hw => idr _ o _ 1 (by decide) ho (by simp [eval_put, size_put, hs, h10, h14]) w) ?_
    refine Chain.exCons hops rfl (fun o ho w hw => run_load' ho (by simp [eval_put, size_put, hs, h10, h14]) Try.underlying3 w hw.2.1) ?_
    refine Chain.exCons hops rfl (fun o ho w hw => run_move' ho (by simp [eval_put, size_put, hs, h10, h14]) w) ?_
    refine Chain.exCons hops rfl (fun o ho w hw => run_move' ho (by simp [eval_put, size_put, hs, h10, h14]) w) ?_
    refine Chain.exCons hops rfl (fun o ho w hw => idr _ o _ 2 (by decide) ho (by simp [eval_put, size_put, hs, h10, h14]) w) ?_
    refine Chain.exCons hops rfl (fun o ho w hw => run_load' ho (by simp [eval_put, size_put, hs, h10, h14]) Try.underlying3 w hw.2.2.1) ?_
    refine Chain.exCons hops rfl (fun o ho w hw => run_move' ho (by simp [eval_put, size_put, hs, h10, h14]) w) ?_
    refine Chain.exCons hops rfl (fun o ho w hw => run_move' ho (by simp [eval_put, size_put, hs, h10, h14]) w) ?_
    refine Chain.exCons hops rfl (fun o ho w hw => idr _ o _ 3 (by decide) ho (by simp [eval_put, size_put, hs, h10, h14]) w) ?_
    refine Chain.exCons hops rfl (fun o ho w hw => run_load' ho (by simp [eval_put, size_put, hs, h10, h14]) Try.underlying3 w hw.2.2.2) ?_
    refine Chain.exCons hops rfl (fun o ho w hw => run_move' ho (by simp [eval_put, size_put, hs, h10, h14]) w) ?_
    refine Chain.exCons hops rfl (fun o ho w hw => run_move' ho (by simp [eval_put, size_put, hs, h10, h14]) w) ?_
    refine Chain.exCons hops rfl (fun o ho w hw => idr _ o _ 0 (by decide) ho (by simp [eval_put, size_put, hs, h10, h14]) w) ?_
    refine Chain.exCons hops rfl (fun o ho w hw => run_load' ho (by simp [eval_put, size_put, hs, h10, h14]) Try.underlying3 w hw.1) ?_
    refine Chain.exCons hops rfl (fun o ho w hw => idw _ o _ _ i hi ho (by simp [eval_put, size_put, hs, h10, h14]) (by simp [eval_put, size_put, hs, h10, h14]) w) ?_
    refine Chain.exCons hops rfl (fun o ho w hw => run_move' ho (by simp [eval_put, size_put, hs, h10, h14]) w) ?_
    refine Chain.exCons hops rfl (fun o ho w hw => run_move' ho (by simp [eval_put, size_put, hs, h10, h14]) w) ?_
    refine Chain.exCons hops rfl (fun o ho w hw => idr _ o _ 1 (by decide) ho (by simp [eval_put, size_put, hs, h10, h14]) w) ?_
    refine Chain.exCons hops rfl (fun o ho w hw => run_load' ho (by simp [eval_put, size_put, hs, h10, h14]) Try.underlying3 w hw.2.1) ?_
    refine Chain.exCons hops rfl (fun o ho w hw => idw _ o _ _ j hj ho (by simp [eval_put, size_put, hs, h10, h14]) (by simp [eval_put, size_put, hs, h10, h14]) w) ?_
    refine Chain.exCons hops rfl (fun o ho w hw => run_move' ho (by simp [eval_put, size_put, hs, h10, h14]) w) ?_
    refine Chain.exCons hops rfl (fun o ho w hw => run_move' ho (by simp [eval_put, size_put, hs, h10, h14]) w) ?_
    refine Chain.exCons hops rfl (fun o ho w hw => idr _ o _ 2 (by decide) ho (by simp [eval_put, size_put, hs, h10, h14]) w) ?_
    refine Chain.exCons hops rfl (fun o ho w hw => run_load' ho (by simp [eval_put, size_put, hs, h10, h14]) Try.underlying3 w hw.2.2.1) ?_
    refine Chain.exCons hops rfl (fun o ho w hw => idw _ o _ _ k hk0 ho (by simp [eval_put, size_put, hs, h10, h14]) (by simp [eval_put, size_put, hs, h10, h14]) w) ?_
    refine Chain.exCons hops rfl (fun o ho w hw => run_move' ho (by simp [eval_put, size_put, hs, h10, h14]) w) ?_
    refine Chain.exCons hops rfl (fun o ho w hw => run_move' ho (by simp [eval_put, size_put, hs, h10, h14]) w) ?_
    refine Chain.exCons hops rfl (fun o ho w hw => idr _ o _ 3 (by decide) ho (by simp [eval_put, size_put, hs, h10, h14]) w) ?_
    refine Chain.exCons hops rfl (fun o ho w hw => run_load' ho (by simp [eval_put, size_put, hs, h10, h14]) Try.underlying3 w hw.2.2.2) ?_
    refine Chain.exCons hops rfl (fun o ho w hw => idw _ o _ _ m hm ho (by simp [eval_put, size_put, hs, h10, h14]) (by simp [eval_put, size_put, hs, h10, h14]) w) ?_
    refine Chain.exNil ⟨by simp [size_put, hs], by simp [defers_put], ?_, ?_, ?_, ?_, ?_, ?_, ?_, ?_, ?_, ?_, ?_, ?_, ?_⟩
    · intro n hn
      iterate 36 (with_reducible refine (eval_out (by decide) (by decide) hn).trans ?_)
      rfl
    all_goals simp [eval_put, size_put, hs]
  obtain ⟨b, hA, s1, d1, k1, ai, aj, ak, am, l0, n0, l1, n1, l2, n2, l3, n3⟩ := hA
  have hS : w0.cell? ⟨gr, 0, none⟩ = some (.int .i64 (i : Int)) ∧ w0.cell? ⟨gr, 1, none⟩ = some (.int .i64 (j : Int)) ∧ w0.cell? ⟨gr, 2, none⟩ = some (.int .i64 (k : Int)) ∧ w0.cell? ⟨gr, 3, none⟩ = some (.int .i64 (m : Int)) := ⟨p0, p1, p2, p3⟩
  have hT : w0.cell? ⟨gw, i, none⟩ = some (.int .u32 xi) ∧ w0.cell? ⟨gw, j, none⟩ = some (.int .u32 xj) ∧ w0.cell? ⟨gw, k, none⟩ = some (.int .u32 xk) ∧ w0.cell? ⟨gw, m, none⟩ = some (.int .u32 xm) := ⟨ci, cj, ck, cm⟩
  refine wp_region_T (n := 54) (fun w => w.cell? ⟨gr, 0, none⟩ = some (.int .i64 (i : Int)) ∧ w.cell? ⟨gr, 1, none⟩ = some (.int .i64 (j : Int)) ∧ w.cell? ⟨gr, 2, none⟩ = some (.int .i64 (k : Int)) ∧ w.cell? ⟨gr, 3, none⟩ = some (.int .i64 (m : Int))) (fun w => w.cell? ⟨gw, i, none⟩ = some (.int .u32 xi) ∧ w.cell? ⟨gw, j, none⟩ = some (.int .u32 xj) ∧ w.cell? ⟨gw, k, none⟩ = some (.int .u32 xk) ∧ w.cell? ⟨gw, m, none⟩ = some (.int .u32 xm)) 40 (by kernel_rfl) o1 ?_
  rw [hw0]
  refine wpAnyT_takesS (S := (fun w => w.cell? ⟨gr, 0, none⟩ = some (.int .i64 (i : Int)) ∧ w.cell? ⟨gr, 1, none⟩ = some (.int .i64 (j : Int)) ∧ w.cell? ⟨gr, 2, none⟩ = some (.int .i64 (k : Int)) ∧ w.cell? ⟨gr, 3, none⟩ = some (.int .i64 (m : Int)))) (T := (fun w => w.cell? ⟨gw, i, none⟩ = some (.int .u32 xi) ∧ w.cell? ⟨gw, j, none⟩ = some (.int .u32 xj) ∧ w.cell? ⟨gw, k, none⟩ = some (.int .u32 xk) ∧ w.cell? ⟨gw, m, none⟩ = some (.int .u32 xm))) o2 hQ _ 18 _ a b _ o3 rfl hA hS hT ?_
  have hL : ∃ b', Chain Try.prog ops (fun w => (fun w => w.cell? ⟨gr, 0, none⟩ = some (.int .i64 (i : Int)) ∧ w.cell? ⟨gr, 1, none⟩ = some (.int .i64 (j : Int)) ∧ w.cell? ⟨gr, 2, none⟩ = some (.int .i64 (k : Int)) ∧ w.cell? ⟨gr, 3, none⟩ = some (.int .i64 (m : Int))) w ∧ (fun w => w.cell? ⟨gw, i, none⟩ = some (.int .u32 xi) ∧ w.cell? ⟨gw, j, none⟩ = some (.int .u32 xj) ∧ w.cell? ⟨gw, k, none⟩ = some (.int .u32 xk) ∧ w.cell? ⟨gw, m, none⟩ = some (.int .u32 xm)) w) [(21, .int .u32 xi), (27, .int .u32 xj), (33, .int .u32 xk), (39, .int .u32 xm)] b b' ∧ b'.tmps.size = 147 ∧ b'.defers = a.defers ∧ (∀ n, n < 79 ∨ 128 < n → b'.eval (.tmp n) = a.eval (.tmp n)) ∧ b'.eval (.tmp 101) = .int .u32 xi ∧ b'.eval (.tmp 107) = .int .u32 xj ∧ b'.eval (.tmp 113) = .int .u32 xk ∧ b'.eval (.tmp 119) = .int .u32 xm ∧ b'.eval (.tmp 80) = W ∧ b'.eval (.tmp 83) = .int .i64 (i : Int) ∧ b'.eval (.tmp 84) = W ∧ b'.eval (.tmp 87) = .int .i64 (j : Int) ∧ b'.eval (.tmp 88) = W ∧ b'.eval (.tmp 91) = .int .i64 (k : Int) ∧ b'.eval (.tmp 92) = W ∧ b'.eval (.tmp 95) = .int .i64 (m : Int) := by
    refine Chain.exCons hops rfl (fun o ho w hw => run_load' ho (by simp [eval_put, size_put, s1, ai, aj, ak, am]) Try.underlying30 w hw.2.1) ?_
    refine Chain.exCons hops rfl (fun o ho w hw => run_load' ho (by simp [eval_put, size_put, s1, ai, aj, ak, am]) Try.underlying30 w hw.2.2.1) ?_
    refine Chain.exCons hops rfl (fun o ho w hw => run_load' ho (by simp [eval_put, size_put, s1, ai, aj, ak, am]) Try.underlying30 w hw.2.2.2.1) ?_
    refine Chain.exCons hops rfl (fun o ho w hw => run_load' ho (by simp [eval_put, size_put, s1, ai, aj, ak, am]) Try.underlying30 w hw.2.2.2.2) ?_
    refine Chain.exNil ⟨by simp [size_put, s1], by simp [defers_put, d1], ?_, ?_, ?_, ?_, ?_, ?_, ?_, ?_, ?_, ?_, ?_, ?_, ?_⟩
    · intro n hn
      iterate 4 (with_reducible refine (eval_out (by decide) (by decide) hn).trans ?_)
      exact k1 n hn
    all_goals simp [eval_put, size_put, s1, l0, n0, l1, n1, l2, n2, l3, n3]
  clear s1 d1 k1 ai aj ak am l0 n0 l1 n1 l2 n2 l3 n3 hA h10 h14 hs p0 p1 p2 p3 ci cj ck cm
  obtain ⟨c, hL, s2, d2, k2, ei, ej, ek, em, l0, n0, l1, n1, l2, n2, l3, n3⟩ := hL
  refine wpAnyT_takesT (S := (fun w => w.cell? ⟨gr, 0, none⟩ = some (.int .i64 (i : Int)) ∧ w.cell? ⟨gr, 1, none⟩ = some (.int .i64 (j : Int)) ∧ w.cell? ⟨gr, 2, none⟩ = some (.int .i64 (k : Int)) ∧ w.cell? ⟨gr, 3, none⟩ = some (.int .i64 (m : Int)))) (T := (fun w => w.cell? ⟨gw, i, none⟩ = some (.int .u32 xi) ∧ w.cell? ⟨gw, j, none⟩ = some (.int .u32 xj) ∧ w.cell? ⟨gw, k, none⟩ = some (.int .u32 xk) ∧ w.cell? ⟨gw, m, none⟩ = some (.int .u32 xm))) o2 hQ _ 14 _ b c _ o4 o5 hL hS hT ?_
  obtain ⟨oc, hoc, hd, hx⟩ := kinds_at hops (i := 40) rfl
  refine wpAnyT_call o6 hoc (plainAt_spec o7 hoc) ?_
  refine wp_call' hx (vs := #[.int .u32 xi, .int .u32 xj, .int .u32 xk, .int .u32 xm]) (by simp [ei, ej, ek, em]) (HC.out w0) (hq.mono (fun e w'' h => ⟨h.1, h.2.symm⟩)) ⟨hS, ?_⟩
  rw [hd]
  have s3 : (c.put (some 120) (.tuple #[.int .u32 ya, .int .u32 yb, .int .u32 yc, .int .u32 yd])).tmps.size = 147 := by rw [size_put, s2]
  have d3 : (c.put (some 120) (.tuple #[.int .u32 ya, .int .u32 yb, .int .u32 yc, .int .u32 yd])).defers = a.defers := by rw [defers_put, d2]
  have k3 : ∀ n, n < 79 ∨ 128 < n → (c.put (some 120) (.tuple #[.int .u32 ya, .int .u32 yb, .int .u32 yc, .int .u32 yd])).eval (.tmp n) = a.eval (.tmp n) := by
    intro n hn
    with_reducible refine (eval_out (by decide) (by decide) hn).trans ?_
    exact k2 n hn
  have t3 : (c.put (some 120) (.tuple #[.int .u32 ya, .int .u32 yb, .int .u32 yc, .int .u32 yd])).eval (.tmp 120) = (.tuple #[.int .u32 ya, .int .u32 yb, .int .u32 yc, .int .u32 yd]) := by simp [eval_put, s2]
  have v0 : (c.put (some 120) (.tuple #[.int .u32 ya, .int .u32 yb, .int .u32 yc, .int .u32 yd])).eval (.tmp 80) = W := by simp [eval_put, l0]
  have m0 : (c.put (some 120) (.tuple #[.int .u32 ya, .int .u32 yb, .int .u32 yc, .int .u32 yd])).eval (.tmp 83) = .int .i64 (i : Int) := by simp [eval_put, n0]
  have v1 : (c.put (some 120) (.tuple #[.int .u32 ya, .int .u32 yb, .int .u32 yc, .int .u32 yd])).eval (.tmp 84) = W := by simp [eval_put, l1]
  have m1 : (c.put (some 120) (.tuple #[.int .u32 ya, .int .u32 yb, .int .u32 yc, .int .u32 yd])).eval (.tmp 87) = .int .i64 (j : Int) := by simp [eval_put, n1]
  have v2 : (c.put (some 120) (.tuple #[.int .u32 ya, .int .u32 yb, .int .u32 yc, .int .u32 yd])).eval (.tmp 88) = W := by simp [eval_put, l2]
  have m2 : (c.put (some 120) (.tuple #[.int .u32 ya, .int .u32 yb, .int .u32 yc, .int .u32 yd])).eval (.tmp 91) = .int .i64 (k : Int) := by simp [eval_put, n2]
  have v3 : (c.put (some 120) (.tuple #[.int .u32 ya, .int .u32 yb, .int .u32 yc, .int .u32 yd])).eval (.tmp 92) = W := by simp [eval_put, l3]
  have m3 : (c.put (some 120) (.tuple #[.int .u32 ya, .int .u32 yb, .int .u32 yc, .int .u32 yd])).eval (.tmp 95) = .int .i64 (m : Int) := by simp [eval_put, n3]
  clear s2 d2 k2 ei ej ek em l0 n0 l1 n1 l2 n2 l3 n3 hL hx hd
  generalize c.put (some 120) (.tuple #[.int .u32 ya, .int .u32 yb, .int .u32 yc, .int .u32 yd]) = d at *
  have hE : ∃ b', Chain Try.prog ops (fun w => w.cell? ⟨gr, 0, none⟩ = some (.int .i64 (i : Int)) ∧ w.cell? ⟨gr, 1, none⟩ = some (.int .i64 (j : Int)) ∧ w.cell? ⟨gr, 2, none⟩ = some (.int .i64 (k : Int)) ∧ w.cell? ⟨gr, 3, none⟩ = some (.int .i64 (m : Int))) [(41, .tuple #[.int .u32 ya, .int .u32 yb, .int .u32 yc, .int .u32 yd]), (42, .int .u32 ya), (43, .int .u32 yb), (44, .int .u32 yc), (45, .int .u32 yd), (46, .pointer (some ⟨gw, i, none⟩))] d b' ∧ b'.tmps.size = 147 ∧ b'.defers = a.defers ∧ (∀ n, n < 79 ∨ 128 < n → b'.eval (.tmp n) = a.eval (.tmp n)) ∧ b'.eval (.tmp 125) = .pointer (some ⟨gw, i, none⟩) ∧ b'.eval (.tmp 121) = .int .u32 ya ∧ b'.eval (.tmp 122) = .int .u32 yb ∧ b'.eval (.tmp 123) = .int .u32 yc ∧ b'.eval (.tmp 124) = .int .u32 yd ∧ b'.eval (.tmp 84) = W ∧ b'.eval (.tmp 87) = .int .i64 (j : Int) ∧ b'.eval (.tmp 88) = W ∧ b'.eval (.tmp 91) = .int .i64 (k : Int) ∧ b'.eval (.tmp 92) = W ∧ b'.eval (.tmp 95) = .int .i64 (m : Int) := by
    refine Chain.exCons hops rfl (fun o ho w _ => run_move' ho t3 w) ?_
    refine Chain.exCons hops rfl (fun o ho w _ => run_extract' ho (vs := #[.int .u32 ya, .int .u32 yb, .int .u32 yc, .int .u32 yd]) (by simp [eval_put, size_put, s3, t3, v0, m0]) rfl w) ?_
    refine Chain.exCons hops rfl (fun o ho w _ => run_extract' ho (vs := #[.int .u32 ya, .int .u32 yb, .int .u32 yc, .int .u32 yd]) (by simp [eval_put, size_put, s3, t3, v0, m0]) rfl w) ?_
    refine Chain.exCons hops rfl (fun o ho w _ => run_extract' ho (vs := #[.int .u32 ya, .int .u32 yb, .int .u32 yc, .int .u32 yd]) (by simp [eval_put, size_put, s3, t3, v0, m0]) rfl w) ?_
    refine Chain.exCons hops rfl (fun o ho w _ => run_extract' ho (vs := #[.int .u32 ya, .int .u32 yb, .int .u32 yc, .int .u32 yd]) (by simp [eval_put, size_put, s3, t3, v0, m0]) rfl w) ?_
    refine Chain.exCons hops rfl (fun o ho w _ => idw _ o _ _ i hi ho (by simp [eval_put, size_put, s3, t3, v0, m0]) (by simp [eval_put, size_put, s3, t3, v0, m0]) w) ?_
    refine Chain.exNil ⟨by simp [size_put, s3], by simp [defers_put, d3], ?_, ?_, ?_, ?_, ?_, ?_, ?_, ?_, ?_, ?_, ?_, ?_⟩
    · intro n hn
      iterate 6 (with_reducible refine (eval_out (by decide) (by decide) hn).trans ?_)
      exact k3 n hn
    all_goals simp [eval_put, size_put, s3, v1, m1, v2, m2, v3, m3]
  obtain ⟨e1, hE, s4, d4, k4, g0, ga, gb, gc, gd, v1', m1', v2', m2', v3', m3'⟩ := hE
  refine wpAnyH_takes (S := (fun w => w.cell? ⟨gr, 0, none⟩ = some (.int .i64 (i : Int)) ∧ w.cell? ⟨gr, 1, none⟩ = some (.int .i64 (j : Int)) ∧ w.cell? ⟨gr, 2, none⟩ = some (.int .i64 (k : Int)) ∧ w.cell? ⟨gr, 3, none⟩ = some (.int .i64 (m : Int)))) o2 hQ _ 7 _ d e1 _ o8 hE hS ?_
  clear hE s3 d3 k3 t3 v0 m0 v1 m1 v2 m2 v3 m3
  have hk : ∀ (w : World) (n : Nat) (v : Value), (fun w => w.cell? ⟨gr, 0, none⟩ = some (.int .i64 (i : Int)) ∧ w.cell? ⟨gr, 1, none⟩ = some (.int .i64 (j : Int)) ∧ w.cell? ⟨gr, 2, none⟩ = some (.int .i64 (k : Int)) ∧ w.cell? ⟨gr, 3, none⟩ = some (.int .i64 (m : Int))) w → (fun w => w.cell? ⟨gr, 0, none⟩ = some (.int .i64 (i : Int)) ∧ w.cell? ⟨gr, 1, none⟩ = some (.int .i64 (j : Int)) ∧ w.cell? ⟨gr, 2, none⟩ = some (.int .i64 (k : Int)) ∧ w.cell? ⟨gr, 3, none⟩ = some (.int .i64 (m : Int))) (w.setCell ⟨gw, n, none⟩ v) := by
    intro w n v h
    have o : ∀ (p : Nat) (u : Value), w.cell? ⟨gr, p, none⟩ = some u → (w.setCell ⟨gw, n, none⟩ v).cell? ⟨gr, p, none⟩ = some u := fun p u h => (World.cell?_setCell_other w ⟨gw, n, none⟩ ⟨gr, p, none⟩ v (fun e => by injection e with e1 _ _; first | exact hne e1 | exact hne e1.symm)).trans h
    exact ⟨o _ _ h.1, o _ _ h.2.1, o _ _ h.2.2.1, o _ _ h.2.2.2⟩
  have own : ∀ (w : World) (l : List Value) (n : Nat) (x : Int), w.ownsRow B 30 1 (.slice (some ⟨gw, 0, none⟩) 16 cap) 16 l → n < 16 → (∃ v, w.cell? ⟨gw, n, none⟩ = some v) ∧ w.frozen? ⟨gw, n, none⟩ = false ∧ (w.setCell ⟨gw, n, none⟩ (.int .u32 x)).ownsRow B 30 1 (.slice (some ⟨gw, 0, none⟩) 16 cap) 16 (l.set n (.int .u32 x)) := by
    intro w l n x h hn
    have hl : l.length = 16 := by have := h.1; omega
    have hc := h.cellAt n (by omega)
    rw [List.getElem?_eq_getElem (by omega)] at hc
    exact ⟨⟨_, hc⟩, h.frozenAt n, (h.stored n _).1⟩
  obtain ⟨⟨c0, hc0⟩, hf0, hu1⟩ := own _ _ i ya hu0 hi
  obtain ⟨q0, hq0, hd0, hx0⟩ := kinds_at hops (i := 47) rfl
  have hS0 := hk _ i (.int .u32 ya) hS
  refine wpAnyH_step (S := (fun w => w.cell? ⟨gr, 0, none⟩ = some (.int .i64 (i : Int)) ∧ w.cell? ⟨gr, 1, none⟩ = some (.int .i64 (j : Int)) ∧ w.cell? ⟨gr, 2, none⟩ = some (.int .i64 (k : Int)) ∧ w.cell? ⟨gr, 3, none⟩ = some (.int .i64 (m : Int)))) o9 hq0 (plainAt_spec oa hq0) (wp_store' (k := .u32) (n := ya) (p := ⟨gw, i, none⟩) hx0 hd0 g0 ga cells30 hc0 hf0 ⟨hS0, ?_⟩)
  refine wpAnyH_takes (S := (fun w => w.cell? ⟨gr, 0, none⟩ = some (.int .i64 (i : Int)) ∧ w.cell? ⟨gr, 1, none⟩ = some (.int .i64 (j : Int)) ∧ w.cell? ⟨gr, 2, none⟩ = some (.int .i64 (k : Int)) ∧ w.cell? ⟨gr, 3, none⟩ = some (.int .i64 (m : Int)))) o2 hQ [(48, .pointer (some ⟨gw, j, none⟩))] 5 _ _ _ _ ob (.cons hops rfl (fun o ho w _ => idw _ o _ _ j hj ho (by simp [eval_put, size_put, v1']) (by simp [eval_put, size_put, m1']) w) .nil) hS0 ?_
  obtain ⟨⟨c1, hc1⟩, hf1, hu2⟩ := own _ _ j yb hu1 hj
  obtain ⟨q1, hq1, hd1, hx1⟩ := kinds_at hops (i := 49) rfl
  have hS1 := hk _ j (.int .u32 yb) hS0
  refine wpAnyH_step (S := (fun w => w.cell? ⟨gr, 0, none⟩ = some (.int .i64 (i : Int)) ∧ w.cell? ⟨gr, 1, none⟩ = some (.int .i64 (j : Int)) ∧ w.cell? ⟨gr, 2, none⟩ = some (.int .i64 (k : Int)) ∧ w.cell? ⟨gr, 3, none⟩ = some (.int .i64 (m : Int)))) oc' hq1 (plainAt_spec od hq1) (wp_store' (k := .u32) (n := yb) (p := ⟨gw, j, none⟩) hx1 hd1 (by simp [eval_put, size_put, s4]) (by simp [eval_put, size_put, gb]) cells30 hc1 hf1 ⟨hS1, ?_⟩)
  refine wpAnyH_takes (S := (fun w => w.cell? ⟨gr, 0, none⟩ = some (.int .i64 (i : Int)) ∧ w.cell? ⟨gr, 1, none⟩ = some (.int .i64 (j : Int)) ∧ w.cell? ⟨gr, 2, none⟩ = some (.int .i64 (k : Int)) ∧ w.cell? ⟨gr, 3, none⟩ = some (.int .i64 (m : Int)))) o2 hQ [(50, .pointer (some ⟨gw, k, none⟩))] 3 _ _ _ _ oe (.cons hops rfl (fun o ho w _ => idw _ o _ _ k hk0 ho (by simp [eval_put, size_put, v2']) (by simp [eval_put, size_put, m2']) w) .nil) hS1 ?_
  obtain ⟨⟨c2, hc2⟩, hf2, hu3⟩ := own _ _ k yc hu2 hk0
  obtain ⟨q2, hq2, hd2, hx2⟩ := kinds_at hops (i := 51) rfl
  have hS2 := hk _ k (.int .u32 yc) hS1
  refine wpAnyH_step (S := (fun w => w.cell? ⟨gr, 0, none⟩ = some (.int .i64 (i : Int)) ∧ w.cell? ⟨gr, 1, none⟩ = some (.int .i64 (j : Int)) ∧ w.cell? ⟨gr, 2, none⟩ = some (.int .i64 (k : Int)) ∧ w.cell? ⟨gr, 3, none⟩ = some (.int .i64 (m : Int)))) of hq2 (plainAt_spec og hq2) (wp_store' (k := .u32) (n := yc) (p := ⟨gw, k, none⟩) hx2 hd2 (by simp [eval_put, size_put, s4]) (by simp [eval_put, size_put, gc]) cells30 hc2 hf2 ⟨hS2, ?_⟩)
  refine wpAnyH_takes (S := (fun w => w.cell? ⟨gr, 0, none⟩ = some (.int .i64 (i : Int)) ∧ w.cell? ⟨gr, 1, none⟩ = some (.int .i64 (j : Int)) ∧ w.cell? ⟨gr, 2, none⟩ = some (.int .i64 (k : Int)) ∧ w.cell? ⟨gr, 3, none⟩ = some (.int .i64 (m : Int)))) o2 hQ [(52, .pointer (some ⟨gw, m, none⟩))] 1 _ _ _ _ oh (.cons hops rfl (fun o ho w _ => idw _ o _ _ m hm ho (by simp [eval_put, size_put, v3']) (by simp [eval_put, size_put, m3']) w) .nil) hS2 ?_
  obtain ⟨⟨c3, hc3⟩, hf3, hu4⟩ := own _ _ m yd hu3 hm
  obtain ⟨q3, hq3, hd3, hx3⟩ := kinds_at hops (i := 53) rfl
  have hS3 := hk _ m (.int .u32 yd) hS2
  refine wpAnyH_step (S := (fun w => w.cell? ⟨gr, 0, none⟩ = some (.int .i64 (i : Int)) ∧ w.cell? ⟨gr, 1, none⟩ = some (.int .i64 (j : Int)) ∧ w.cell? ⟨gr, 2, none⟩ = some (.int .i64 (k : Int)) ∧ w.cell? ⟨gr, 3, none⟩ = some (.int .i64 (m : Int)))) oi hq3 (plainAt_spec oj hq3) (wp_store' (k := .u32) (n := yd) (p := ⟨gw, m, none⟩) hx3 hd3 (by simp [eval_put, size_put, s4]) (by simp [eval_put, size_put, gd]) cells30 hc3 hf3 ⟨hS3, ?_⟩)
  refine ⟨ok, K' _ _ (by simp [size_put, s4]) (by simp [defers_put, d4]) ?_ ?_ ((((u0.setCell i _).setCell j _).setCell k _).setCell m _)⟩
  · intro n hn
    iterate 3 (with_reducible refine (eval_out (by decide) (by decide) hn).trans ?_)
    exact k4 n hn
  · simpa [cells32, List.map_set] using hu4

/-- A frame of 147 slots, written out. -/
theorem lit_frame (b : Act) (hs : b.tmps.size = 147) : b = ⟨#[b.eval (.tmp 0), b.eval (.tmp 1), b.eval (.tmp 2), b.eval (.tmp 3), b.eval (.tmp 4), b.eval (.tmp 5), b.eval (.tmp 6), b.eval (.tmp 7), b.eval (.tmp 8), b.eval (.tmp 9), b.eval (.tmp 10), b.eval (.tmp 11), b.eval (.tmp 12), b.eval (.tmp 13), b.eval (.tmp 14), b.eval (.tmp 15), b.eval (.tmp 16), b.eval (.tmp 17), b.eval (.tmp 18), b.eval (.tmp 19), b.eval (.tmp 20), b.eval (.tmp 21), b.eval (.tmp 22), b.eval (.tmp 23), b.eval (.tmp 24), b.eval (.tmp 25), b.eval (.tmp 26), b.eval (.tmp 27), b.eval (.tmp 28), b.eval (.tmp 29), b.eval (.tmp 30), b.eval (.tmp 31), b.eval (.tmp 32), b.eval (.tmp 33), b.eval (.tmp 34), b.eval (.tmp 35), b.eval (.tmp 36), b.eval (.tmp 37), b.eval (.tmp 38), b.eval (.tmp 39), b.eval (.tmp 40), b.eval (.tmp 41), b.eval (.tmp 42), b.eval (.tmp 43), b.eval (.tmp 44), b.eval (.tmp 45), b.eval (.tmp 46), b.eval (.tmp 47), b.eval (.tmp 48), b.eval (.tmp 49), b.eval (.tmp 50), b.eval (.tmp 51), b.eval (.tmp 52), b.eval (.tmp 53), b.eval (.tmp 54), b.eval (.tmp 55), b.eval (.tmp 56), b.eval (.tmp 57), b.eval (.tmp 58), b.eval (.tmp 59), b.eval (.tmp 60), b.eval (.tmp 61), b.eval (.tmp 62), b.eval (.tmp 63), b.eval (.tmp 64), b.eval (.tmp 65), b.eval (.tmp 66), b.eval (.tmp 67), b.eval (.tmp 68), b.eval (.tmp 69), b.eval (.tmp 70), b.eval (.tmp 71), b.eval (.tmp 72), b.eval (.tmp 73), b.eval (.tmp 74), b.eval (.tmp 75), b.eval (.tmp 76), b.eval (.tmp 77), b.eval (.tmp 78), b.eval (.tmp 79), b.eval (.tmp 80), b.eval (.tmp 81), b.eval (.tmp 82), b.eval (.tmp 83), b.eval (.tmp 84), b.eval (.tmp 85), b.eval (.tmp 86), b.eval (.tmp 87), b.eval (.tmp 88), b.eval (.tmp 89), b.eval (.tmp 90), b.eval (.tmp 91), b.eval (.tmp 92), b.eval (.tmp 93), b.eval (.tmp 94), b.eval (.tmp 95), b.eval (.tmp 96), b.eval (.tmp 97), b.eval (.tmp 98), b.eval (.tmp 99), b.eval (.tmp 100), b.eval (.tmp 101), b.eval (.tmp 102), b.eval (.tmp 103), b.eval (.tmp 104), b.eval (.tmp 105), b.eval (.tmp 106), b.eval (.tmp 107), b.eval (.tmp 108), b.eval (.tmp 109), b.eval (.tmp 110), b.eval (.tmp 111), b.eval (.tmp 112), b.eval (.tmp 113), b.eval (.tmp 114), b.eval (.tmp 115), b.eval (.tmp 116), b.eval (.tmp 117), b.eval (.tmp 118), b.eval (.tmp 119), b.eval (.tmp 120), b.eval (.tmp 121), b.eval (.tmp 122), b.eval (.tmp 123), b.eval (.tmp 124), b.eval (.tmp 125), b.eval (.tmp 126), b.eval (.tmp 127), b.eval (.tmp 128), b.eval (.tmp 129), b.eval (.tmp 130), b.eval (.tmp 131), b.eval (.tmp 132), b.eval (.tmp 133), b.eval (.tmp 134), b.eval (.tmp 135), b.eval (.tmp 136), b.eval (.tmp 137), b.eval (.tmp 138), b.eval (.tmp 139), b.eval (.tmp 140), b.eval (.tmp 141), b.eval (.tmp 142), b.eval (.tmp 143), b.eval (.tmp 144), b.eval (.tmp 145), b.eval (.tmp 146)], b.defers⟩ := by
  obtain ⟨t, d⟩ := b
  have e : t = ((List.range 147).map fun i => t.getD i undef).toArray := by
    apply Array.ext
    · simpa using hs
    · intro i h1 h2
      simp at h2
      simp [h1]
  show (⟨t, d⟩ : Act) = ⟨((List.range 147).map fun i => t.getD i undef).toArray, d⟩
  rw [← e]

set_option maxRecDepth 100000 in
set_option maxHeartbeats 2000000 in
/-- The same over a frame that is written out. -/
theorem ref_regionL (c0 c1 c2 c3 c4 c5 c6 c7 c8 c9 c11 c12 c13 c15 c16 c17 c18 c19 c20 c21 c22 c23 c24 c25 c26 c27 c28 c29 c30 c31 c32 c33 c34 c35 c36 c37 c38 c39 c40 c41 c42 c43 c44 c45 c46 c47 c48 c49 c50 c51 c52 c53 c54 c55 c56 c57 c58 c59 c60 c61 c62 c63 c64 c65 c66 c67 c68 c69 c70 c71 c72 c73 c74 c75 c76 c77 c78 c79 c80 c81 c82 c83 c84 c85 c86 c87 c88 c89 c90 c91 c92 c93 c94 c95 c96 c97 c98 c99 c100 c101 c102 c103 c104 c105 c106 c107 c108 c109 c110 c111 c112 c113 c114 c115 c116 c117 c118 c119 c120 c121 c122 c123 c124 c125 c126 c127 c128 c129 c130 c131 c132 c133 c134 c135 c136 c137 c138 c139 c140 c141 c142 c143 c144 c145 c146 : Value) {ops : Array Oper} {id : Nat} {Q : Exit → Act → World → Prop} (hops : kinds ops = rList) (hok : rOk ops = true)
    (hQ : ∀ c a d v w, Q (.panic c) (a.put d v) w → Q (.panic c) a w) (B gw cap gr i j k m : Nat) (s : List Int) (w : World) (hi : i < 16) (hj : j < 16) (hk0 : k < 16) (hm : m < 16) (hl : s.length = 16) (hw : allW s) (hne : gr ≠ gw) (hBg : B ≤ gw)
    (hown : w.ownsRow B 30 1 (.slice (some ⟨gw, 0, none⟩) 16 cap) 16 (cells32 s))
    (q0 : w.cell? ⟨gr, 0, none⟩ = some (.int .i64 (i : Int))) (q1 : w.cell? ⟨gr, 1, none⟩ = some (.int .i64 (j : Int))) (q2 : w.cell? ⟨gr, 2, none⟩ = some (.int .i64 (k : Int))) (q3 : w.cell? ⟨gr, 3, none⟩ = some (.int .i64 (m : Int)))
    (K : ∀ (d79 d80 d81 d82 d83 d84 d85 d86 d87 d88 d89 d90 d91 d92 d93 d94 d95 d96 d97 d98 d99 d100 d101 d102 d103 d104 d105 d106 d107 d108 d109 d110 d111 d112 d113 d114 d115 d116 d117 d118 d119 d120 d121 d122 d123 d124 d125 d126 d127 d128 : Value) (w' : World), w'.ownsRow B 30 1 (.slice (some ⟨gw, 0, none⟩) 16 cap) 16 (cells32 (qAt s i j k m)) → Upon gw w w' → Q .normal ⟨(List.toArray (c0 :: c1 :: c2 :: c3 :: c4 :: c5 :: c6 :: c7 :: c8 :: c9 :: .slice (some ⟨gw, 0, none⟩) 16 cap :: c11 :: c12 :: c13 :: .slice (some ⟨gr, 0, none⟩) 4 4 :: c15 :: c16 :: c17 :: c18 :: c19 :: c20 :: c21 :: c22 :: c23 :: c24 :: c25 :: c26 :: c27 :: c28 :: c29 :: c30 :: c31 :: c32 :: c33 :: c34 :: c35 :: c36 :: c37 :: c38 :: c39 :: c40 :: c41 :: c42 :: c43 :: c44 :: c45 :: c46 :: c47 :: c48 :: c49 :: c50 :: c51 :: c52 :: c53 :: c54 :: c55 :: c56 :: c57 :: c58 :: c59 :: c60 :: c61 :: c62 :: c63 :: c64 :: c65 :: c66 :: c67 :: c68 :: c69 :: c70 :: c71 :: c72 :: c73 :: c74 :: c75 :: c76 :: c77 :: c78 :: d79 :: d80 :: d81 :: d82 :: d83 :: d84 :: d85 :: d86 :: d87 :: d88 :: d89 :: d90 :: d91 :: d92 :: d93 :: d94 :: d95 :: d96 :: d97 :: d98 :: d99 :: d100 :: d101 :: d102 :: d103 :: d104 :: d105 :: d106 :: d107 :: d108 :: d109 :: d110 :: d111 :: d112 :: d113 :: d114 :: d115 :: d116 :: d117 :: d118 :: d119 :: d120 :: d121 :: d122 :: d123 :: d124 :: d125 :: d126 :: d127 :: d128 :: c129 :: c130 :: c131 :: c132 :: c133 :: c134 :: c135 :: c136 :: c137 :: c138 :: c139 :: c140 :: c141 :: c142 :: c143 :: c144 :: c145 :: c146 :: [])), []⟩ w') :
    (Code.region id ops true).wp Try.prog Q ⟨(List.toArray (c0 :: c1 :: c2 :: c3 :: c4 :: c5 :: c6 :: c7 :: c8 :: c9 :: .slice (some ⟨gw, 0, none⟩) 16 cap :: c11 :: c12 :: c13 :: .slice (some ⟨gr, 0, none⟩) 4 4 :: c15 :: c16 :: c17 :: c18 :: c19 :: c20 :: c21 :: c22 :: c23 :: c24 :: c25 :: c26 :: c27 :: c28 :: c29 :: c30 :: c31 :: c32 :: c33 :: c34 :: c35 :: c36 :: c37 :: c38 :: c39 :: c40 :: c41 :: c42 :: c43 :: c44 :: c45 :: c46 :: c47 :: c48 :: c49 :: c50 :: c51 :: c52 :: c53 :: c54 :: c55 :: c56 :: c57 :: c58 :: c59 :: c60 :: c61 :: c62 :: c63 :: c64 :: c65 :: c66 :: c67 :: c68 :: c69 :: c70 :: c71 :: c72 :: c73 :: c74 :: c75 :: c76 :: c77 :: c78 :: c79 :: c80 :: c81 :: c82 :: c83 :: c84 :: c85 :: c86 :: c87 :: c88 :: c89 :: c90 :: c91 :: c92 :: c93 :: c94 :: c95 :: c96 :: c97 :: c98 :: c99 :: c100 :: c101 :: c102 :: c103 :: c104 :: c105 :: c106 :: c107 :: c108 :: c109 :: c110 :: c111 :: c112 :: c113 :: c114 :: c115 :: c116 :: c117 :: c118 :: c119 :: c120 :: c121 :: c122 :: c123 :: c124 :: c125 :: c126 :: c127 :: c128 :: c129 :: c130 :: c131 :: c132 :: c133 :: c134 :: c135 :: c136 :: c137 :: c138 :: c139 :: c140 :: c141 :: c142 :: c143 :: c144 :: c145 :: c146 :: [])), []⟩ w := by
  refine ref_region hops hok hQ B gw cap gr i j k m s w _ hi hj hk0 hm hl hw hne hBg hown q0 q1 q2 q3 rfl rfl rfl ?_
  intro b w' zs zd zk ow up
  have y0 : b.eval (.tmp 0) = c0 := zk 0 (by decide)
  have y1 : b.eval (.tmp 1) = c1 := zk 1 (by decide)
  have y2 : b.eval (.tmp 2) = c2 := zk 2 (by decide)
  have y3 : b.eval (.tmp 3) = c3 := zk 3 (by decide)
  have y4 : b.eval (.tmp 4) = c4 := zk 4 (by decide)
  have y5 : b.eval (.tmp 5) = c5 := zk 5 (by decide)
  have y6 : b.eval (.tmp 6) = c6 := zk 6 (by decide)
  have y7 : b.eval (.tmp 7) = c7 := zk 7 (by decide)
  have y8 : b.eval (.tmp 8) = c8 := zk 8 (by decide)
  have y9 : b.eval (.tmp 9) = c9 := zk 9 (by decide)
  have y10 : b.eval (.tmp 10) = .slice (some ⟨gw, 0, none⟩) 16 cap := zk 10 (by decide)
  have y11 : b.eval (.tmp 11) = c11 := zk 11 (by decide)
  have y12 : b.eval (.tmp 12) = c12 := zk 12 (by decide)
  have y13 : b.eval (.tmp 13) = c13 := zk 13 (by decide)
  have y14 : b.eval (.tmp 14) = .slice (some ⟨gr, 0, none⟩) 4 4 := zk 14 (by decide)
  have y15 : b.eval (.tmp 15) = c15 := zk 15 (by decide)
  have y16 : b.eval (.tmp 16) = c16 := zk 16 (by decide)
  have y17 : b.eval (.tmp 17) = c17 := zk 17 (by decide)
  have y18 : b.eval (.tmp 18) = c18 := zk 18 (by decide)
  have y19 : b.eval (.tmp 19) = c19 := zk 19 (by decide)
  have y20 : b.eval (.tmp 20) = c20 := zk 20 (by decide)
  have y21 : b.eval (.tmp 21) = c21 := zk 21 (by decide)
  have y22 : b.eval (.tmp 22) = c22 := zk 22 (by decide)
  have y23 : b.eval (.tmp 23) = c23 := zk 23 (by decide)
  have y24 : b.eval (.tmp 24) = c24 := zk 24 (by decide)
  have y25 : b.eval (.tmp 25) = c25 := zk 25 (by decide)
  have y26 : b.eval (.tmp 26) = c26 := zk 26 (by decide)
  have y27 : b.eval (.tmp 27) = c27 := zk 27 (by decide)
  have y28 : b.eval (.tmp 28) = c28 := zk 28 (by decide)
  have y29 : b.eval (.tmp 29) = c29 := zk 29 (by decide)
  have y30 : b.eval (.tmp 30) = c30 := zk 30 (by decide)
  have y31 : b.eval (.tmp 31) = c31 := zk 31 (by decide)
  have y32 : b.eval (.tmp 32) = c32 := zk 32 (by decide)
  have y33 : b.eval (.tmp 33) = c33 := zk 33 (by decide)
  have y34 : b.eval (.tmp 34) = c34 := zk 34 (by decide)
  have y35 : b.eval (.tmp 35) = c35 := zk 35 (by decide)
  have y36 : b.eval (.tmp 36) = c36 := zk 36 (by decide)
  have y37 : b.eval (.tmp 37) = c37 := zk 37 (by decide)
  have y38 : b.eval (.tmp 38) = c38 := zk 38 (by decide)
  have y39 : b.eval (.tmp 39) = c39 := zk 39 (by decide)
  have y40 : b.eval (.tmp 40) = c40 := zk 40 (by decide)
  have y41 : b.eval (.tmp 41) = c41 := zk 41 (by decide)
  have y42 : b.eval (.tmp 42) = c42 := zk 42 (by decide)
  have y43 : b.eval (.tmp 43) = c43 := zk 43 (by decide)
  have y44 : b.eval (.tmp 44) = c44 := zk 44 (by decide)
  have y45 : b.eval (.tmp 45) = c45 := zk 45 (by decide)
  have y46 : b.eval (.tmp 46) = c46 := zk 46 (by decide)
  have y47 : b.eval (.tmp 47) = c47 := zk 47 (by decide)
  have y48 : b.eval (.tmp 48) = c48 := zk 48 (by decide)
  have y49 : b.eval (.tmp 49) = c49 := zk 49 (by decide)
  have y50 : b.eval (.tmp 50) = c50 := zk 50 (by decide)
  have y51 : b.eval (.tmp 51) = c51 := zk 51 (by decide)
  have y52 : b.eval (.tmp 52) = c52 := zk 52 (by decide)
  have y53 : b.eval (.tmp 53) = c53 := zk 53 (by decide)
  have y54 : b.eval (.tmp 54) = c54 := zk 54 (by decide)
  have y55 : b.eval (.tmp 55) = c55 := zk 55 (by decide)
  have y56 : b.eval (.tmp 56) = c56 := zk 56 (by decide)
  have y57 : b.eval (.tmp 57) = c57 := zk 57 (by decide)
  have y58 : b.eval (.tmp 58) = c58 := zk 58 (by decide)
  have y59 : b.eval (.tmp 59) = c59 := zk 59 (by decide)
  have y60 : b.eval (.tmp 60) = c60 := zk 60 (by decide)
  have y61 : b.eval (.tmp 61) = c61 := zk 61 (by decide)
  have y62 : b.eval (.tmp 62) = c62 := zk 62 (by decide)
  have y63 : b.eval (.tmp 63) = c63 := zk 63 (by decide)
  have y64 : b.eval (.tmp 64) = c64 := zk 64 (by decide)
  have y65 : b.eval (.tmp 65) = c65 := zk 65 (by decide)
  have y66 : b.eval (.tmp 66) = c66 := zk 66 (by decide)
  have y67 : b.eval (.tmp 67) = c67 := zk 67 (by decide)
  have y68 : b.eval (.tmp 68) = c68 := zk 68 (by decide)
  have y69 : b.eval (.tmp 69) = c69 := zk 69 (by decide)
  have y70 : b.eval (.tmp 70) = c70 := zk 70 (by decide)
  have y71 : b.eval (.tmp 71) = c71 := zk 71 (by decide)
  have y72 : b.eval (.tmp 72) = c72 := zk 72 (by decide)
  have y73 : b.eval (.tmp 73) = c73 := zk 73 (by decide)
  have y74 : b.eval (.tmp 74) = c74 := zk 74 (by decide)
  have y75 : b.eval (.tmp 75) = c75 := zk 75 (by decide)
  have y76 : b.eval (.tmp 76) = c76 := zk 76 (by decide)
  have y77 : b.eval (.tmp 77) = c77 := zk 77 (by decide)
  have y78 : b.eval (.tmp 78) = c78 := zk 78 (by decide)
  have y129 : b.eval (.tmp 129) = c129 := zk 129 (by decide)
  have y130 : b.eval (.tmp 130) = c130 := zk 130 (by decide)
  have y131 : b.eval (.tmp 131) = c131 := zk 131 (by decide)
  have y132 : b.eval (.tmp 132) = c132 := zk 132 (by decide)
  have y133 : b.eval (.tmp 133) = c133 := zk 133 (by decide)
  have y134 : b.eval (.tmp 134) = c134 := zk 134 (by decide)
  have y135 : b.eval (.tmp 135) = c135 := zk 135 (by decide)
  have y136 : b.eval (.tmp 136) = c136 := zk 136 (by decide)
  have y137 : b.eval (.tmp 137) = c137 := zk 137 (by decide)
  have y138 : b.eval (.tmp 138) = c138 := zk 138 (by decide)
  have y139 : b.eval (.tmp 139) = c139 := zk 139 (by decide)
  have y140 : b.eval (.tmp 140) = c140 := zk 140 (by decide)
  have y141 : b.eval (.tmp 141) = c141 := zk 141 (by decide)
  have y142 : b.eval (.tmp 142) = c142 := zk 142 (by decide)
  have y143 : b.eval (.tmp 143) = c143 := zk 143 (by decide)
  have y144 : b.eval (.tmp 144) = c144 := zk 144 (by decide)
  have y145 : b.eval (.tmp 145) = c145 := zk 145 (by decide)
  have y146 : b.eval (.tmp 146) = c146 := zk 146 (by decide)
  have zd' : b.defers = [] := zd
  rw [lit_frame b zs, zd', y0, y1, y2, y3, y4, y5, y6, y7, y8, y9, y10, y11, y12, y13, y14, y15, y16, y17, y18, y19, y20, y21, y22, y23, y24, y25, y26, y27, y28, y29, y30, y31, y32, y33, y34, y35, y36, y37, y38, y39, y40, y41, y42, y43, y44, y45, y46, y47, y48, y49, y50, y51, y52, y53, y54, y55, y56, y57, y58, y59, y60, y61, y62, y63, y64, y65, y66, y67, y68, y69, y70, y71, y72, y73, y74, y75, y76, y77, y78, y129, y130, y131, y132, y133, y134, y135, y136, y137, y138, y139, y140, y141, y142, y143, y144, y145, y146]
  exact K _ _ _ _ _ _ _ _ _ _ _ _ _ _ _ _ _ _ _ _ _ _ _ _ _ _ _ _ _ _ _ _ _ _ _ _ _ _ _ _ _ _ _ _ _ _ _ _ _ _ _ ow up

end Go.Proofs.Ytgeackoaghkgmaa

/-
  The table of places that the reference's Block lays.
-/
namespace Go.Proofs.Ytgeackoaghkgmaa
open Go.RowKit
set_option linter.unusedVariables false
set_option maxRecDepth 100000

/-- The table of places, as the reference lays it. -/
def tabL (w : World) : World := ((((((((w.alloc (.cells #[.int .i64 0, .int .i64 4, .int .i64 8, .int .i64 12] 3)).alloc (.cells #[.int .i64 1, .int .i64 5, .int .i64 9, .int .i64 13] 3)).alloc (.cells #[.int .i64 2, .int .i64 6, .int .i64 10, .int .i64 14] 3)).alloc (.cells #[.int .i64 3, .int .i64 7, .int .i64 11, .int .i64 15] 3)).alloc (.cells #[.int .i64 0, .int .i64 5, .int .i64 10, .int .i64 15] 3)).alloc (.cells #[.int .i64 1, .int .i64 6, .int .i64 11, .int .i64 12] 3)).alloc (.cells #[.int .i64 2, .int .i64 7, .int .i64 8, .int .i64 13] 3)).alloc (.cells #[.int .i64 3, .int .i64 4, .int .i64 9, .int .i64 14] 3)).alloc (.cells #[.slice (some ⟨w.heap.size, 0, none⟩) 4 4, .slice (some ⟨w.heap.size + 1, 0, none⟩) 4 4, .slice (some ⟨w.heap.size + 1 + 1, 0, none⟩) 4 4, .slice (some ⟨w.heap.size + 1 + 1 + 1, 0, none⟩) 4 4, .slice (some ⟨w.heap.size + 1 + 1 + 1 + 1, 0, none⟩) 4 4, .slice (some ⟨w.heap.size + 1 + 1 + 1 + 1 + 1, 0, none⟩) 4 4, .slice (some ⟨w.heap.size + 1 + 1 + 1 + 1 + 1 + 1, 0, none⟩) 4 4, .slice (some ⟨w.heap.size + 1 + 1 + 1 + 1 + 1 + 1 + 1, 0, none⟩) 4 4] 59)
def tabRow (k : Nat) : List Value := (List.range 4).map fun i => .int .i64 ((place k i : Nat) : Int)
def tabAll (M : Nat) : List Value := (List.range 8).map fun k => .slice (some ⟨M + k, 0, none⟩) 4 4
theorem tab_rows (w : World) : (∀ k, k < 8 → RowIs (tabL w) (w.heap.size + k) 3 (tabRow k)) ∧ RowIs (tabL w) (w.heap.size + 8) 59 (tabAll w.heap.size) ∧ Below w.heap.size w (tabL w) := by
  have hs : ∀ (w : World) (o : Obj), (w.alloc o).heap.size = w.heap.size + 1 := fun w o => by simp
  unfold tabL
  have r0 := RowIs.new w 3 (tabRow 0)
  have s1 : (w.alloc (.cells #[.int .i64 0, .int .i64 4, .int .i64 8, .int .i64 12] 3)).heap.size = w.heap.size + 1 := by rw [hs]
  have b1 : Below w.heap.size w (w.alloc (.cells #[.int .i64 0, .int .i64 4, .int .i64 8, .int .i64 12] 3)) := (Below.refl _ _).alloc (Nat.le_refl _) _
  replace r0 : RowIs (w.alloc (.cells #[.int .i64 0, .int .i64 4, .int .i64 8, .int .i64 12] 3)) (w.heap.size + 0) 3 (tabRow 0) := r0
  generalize w.alloc (.cells #[.int .i64 0, .int .i64 4, .int .i64 8, .int .i64 12] 3) = w1 at *
  have r1 := RowIs.new w1 3 (tabRow 1)
  have s2 : (w1.alloc (.cells #[.int .i64 1, .int .i64 5, .int .i64 9, .int .i64 13] 3)).heap.size = w.heap.size + 2 := by rw [hs, s1]
  have b2 : Below w.heap.size w (w1.alloc (.cells #[.int .i64 1, .int .i64 5, .int .i64 9, .int .i64 13] 3)) := b1.alloc b1.size _
  replace r1 : RowIs (w1.alloc (.cells #[.int .i64 1, .int .i64 5, .int .i64 9, .int .i64 13] 3)) (w.heap.size + 1) 3 (tabRow 1) := s1 ▸ r1
  replace r0 := r0.alloc (.cells #[.int .i64 1, .int .i64 5, .int .i64 9, .int .i64 13] 3)
  generalize w1.alloc (.cells #[.int .i64 1, .int .i64 5, .int .i64 9, .int .i64 13] 3) = w2 at *
  have r2 := RowIs.new w2 3 (tabRow 2)
  have s3 : (w2.alloc (.cells #[.int .i64 2, .int .i64 6, .int .i64 10, .int .i64 14] 3)).heap.size = w.heap.size + 3 := by rw [hs, s2]
  have b3 : Below w.heap.size w (w2.alloc (.cells #[.int .i64 2, .int .i64 6, .int .i64 10, .int .i64 14] 3)) := b2.alloc b2.size _
  replace r2 : RowIs (w2.alloc (.cells #[.int .i64 2, .int .i64 6, .int .i64 10, .int .i64 14] 3)) (w.heap.size + 2) 3 (tabRow 2) := s2 ▸ r2
  replace r0 := r0.alloc (.cells #[.int .i64 2, .int .i64 6, .int .i64 10, .int .i64 14] 3)
  replace r1 := r1.alloc (.cells #[.int .i64 2, .int .i64 6, .int .i64 10, .int .i64 14] 3)
  generalize w2.alloc (.cells #[.int .i64 2, .int .i64 6, .int .i64 10, .int .i64 14] 3) = w3 at *
  have r3 := RowIs.new w3 3 (tabRow 3)
  have s4 : (w3.alloc (.cells #[.int .i64 3, .int .i64 7, .int .i64 11, .int .i64 15] 3)).heap.size = w.heap.size + 4 := by rw [hs, s3]
  have b4 : Below w.heap.size w (w3.alloc (.cells #[.int .i64 3, .int .i64 7, .int .i64 11, .int .i64 15] 3)) := b3.alloc b3.size _
  replace r3 : RowIs (w3.alloc (.cells #[.int .i64 3, .int .i64 7, .int .i64 11, .int .i64 15] 3)) (w.heap.size + 3) 3 (tabRow 3) := s3 ▸ r3
  replace r0 := r0.alloc (.cells #[.int .i64 3, .int .i64 7, .int .i64 11, .int .i64 15] 3)
  replace r1 := r1.alloc (.cells #[.int .i64 3, .int .i64 7, .int .i64 11, .int .i64 15] 3)
  replace r2 := r2.alloc (.cells #[.int .i64 3, .int .i64 7, .int .i64 11, .int .i64 15] 3)
  generalize w3.alloc (.cells #[.int .i64 3, .int .i64 7, .int .i64 11, .int .i64 15] 3) = w4 at *
  have r4 := RowIs.new w4 3 (tabRow 4)
  have s5 : (w4.alloc (.cells #[.int .i64 0, .int .i64 5, .int .i64 10, .int .i64 15] 3)).heap.size = w.heap.size + 5 := by rw [hs, s4]
  have b5 : Below w.heap.size w (w4.alloc (.cells #[.int .i64 0, .int .i64 5, .int .i64 10, .int .i64 15] 3)) := b4.alloc b4.size _
  replace r4 : RowIs (w4.alloc (.cells #[.int .i64 0, .int .i64 5, .int .i64 10, .int .i64 15] 3)) (w.heap.size + 4) 3 (tabRow 4) := s4 ▸ r4
  replace r0 := r0.alloc (.cells #[.int .i64 0, .int .i64 5, .int .i64 10, .int .i64 15] 3)
  replace r1 := r1.alloc (.cells #[.int .i64 0, .int .i64 5, .int .i64 10, .int .i64 15] 3)
  replace r2 := r2.alloc (.cells #[.int .i64 0, .int .i64 5, .int .i64 10, .int .i64 15] 3)
  replace r3 := r3.alloc (.cells #[.int .i64 0, .int .i64 5, .int .i64 10, .int .i64 15] 3)
  generalize w4.alloc (.cells #[.int .i64 0, .int .i64 5, .int .i64 10, .int .i64 15] 3) = w5 at *
  have r5 := RowIs.new w5 3 (tabRow 5)
  have s6 : (w5.alloc (.cells #[.int .i64 1, .int .i64 6, .int .i64 11, .int .i64 12] 3)).heap.size = w.heap.size + 6 := by rw [hs, s5]
  have b6 : Below w.heap.size w (w5.alloc (.cells #[.int .i64 1, .int .i64 6, .int .i64 11, .int .i64 12] 3)) := b5.alloc b5.size _
  replace r5 : RowIs (w5.alloc (.cells #[.int .i64 1, .int .i64 6, .int .i64 11, .int .i64 12] 3)) (w.heap.size + 5) 3 (tabRow 5) := s5 ▸ r5
  replace r0 := r0.alloc (.cells #[.int .i64 1, .int .i64 6, .int .i64 11, .int .i64 12] 3)
  replace r1 := r1.alloc (.cells #[.int .i64 1, .int .i64 6, .int .i64 11, .int .i64 12] 3)
  replace r2 := r2.alloc (.cells #[.int .i64 1, .int .i64 6, .int .i64 11, .int .i64 12] 3)
  replace r3 := r3.alloc (.cells #[.int .i64 1, .int .i64 6, .int .i64 11, .int .i64 12] 3)
  replace r4 := r4.alloc (.cells #[.int .i64 1, .int .i64 6, .int .i64 11, .int .i64 12] 3)
  generalize w5.alloc (.cells #[.int .i64 1, .int .i64 6, .int .i64 11, .int .i64 12] 3) = w6 at *
  have r6 := RowIs.new w6 3 (tabRow 6)
  have s7 : (w6.alloc (.cells #[.int .i64 2, .int .i64 7, .int .i64 8, .int .i64 13] 3)).heap.size = w.heap.size + 7 := by rw [hs, s6]
  have b7 : Below w.heap.size w (w6.alloc (.cells #[.int .i64 2, .int .i64 7, .int .i64 8, .int .i64 13] 3)) := b6.alloc b6.size _
  replace r6 : RowIs (w6.alloc (.cells #[.int .i64 2, .int .i64 7, .int .i64 8, .int .i64 13] 3)) (w.heap.size + 6) 3 (tabRow 6) := s6 ▸ r6
  replace r0 := r0.alloc (.cells #[.int .i64 2, .int .i64 7, .int .i64 8, .int .i64 13] 3)
  replace r1 := r1.alloc (.cells #[.int .i64 2, .int .i64 7, .int .i64 8, .int .i64 13] 3)
  replace r2 := r2.alloc (.cells #[.int .i64 2, .int .i64 7, .int .i64 8, .int .i64 13] 3)
  replace r3 := r3.alloc (.cells #[.int .i64 2, .int .i64 7, .int .i64 8, .int .i64 13] 3)
  replace r4 := r4.alloc (.cells #[.int .i64 2, .int .i64 7, .int .i64 8, .int .i64 13] 3)
  replace r5 := r5.alloc (.cells #[.int .i64 2, .int .i64 7, .int .i64 8, .int .i64 13] 3)
  generalize w6.alloc (.cells #[.int .i64 2, .int .i64 7, .int .i64 8, .int .i64 13] 3) = w7 at *
  have r7 := RowIs.new w7 3 (tabRow 7)
  have s8 : (w7.alloc (.cells #[.int .i64 3, .int .i64 4, .int .i64 9, .int .i64 14] 3)).heap.size = w.heap.size + 8 := by rw [hs, s7]
  have b8 : Below w.heap.size w (w7.alloc (.cells #[.int .i64 3, .int .i64 4, .int .i64 9, .int .i64 14] 3)) := b7.alloc b7.size _
  replace r7 : RowIs (w7.alloc (.cells #[.int .i64 3, .int .i64 4, .int .i64 9, .int .i64 14] 3)) (w.heap.size + 7) 3 (tabRow 7) := s7 ▸ r7
  replace r0 := r0.alloc (.cells #[.int .i64 3, .int .i64 4, .int .i64 9, .int .i64 14] 3)
  replace r1 := r1.alloc (.cells #[.int .i64 3, .int .i64 4, .int .i64 9, .int .i64 14] 3)
  replace r2 := r2.alloc (.cells #[.int .i64 3, .int .i64 4, .int .i64 9, .int .i64 14] 3)
  replace r3 := r3.alloc (.cells #[.int .i64 3, .int .i64 4, .int .i64 9, .int .i64 14] 3)
  replace r4 := r4.alloc (.cells #[.int .i64 3, .int .i64 4, .int .i64 9, .int .i64 14] 3)
  replace r5 := r5.alloc (.cells #[.int .i64 3, .int .i64 4, .int .i64 9, .int .i64 14] 3)
  replace r6 := r6.alloc (.cells #[.int .i64 3, .int .i64 4, .int .i64 9, .int .i64 14] 3)
  generalize w7.alloc (.cells #[.int .i64 3, .int .i64 4, .int .i64 9, .int .i64 14] 3) = w8 at *
  have r8 := RowIs.new w8 59 (tabAll w.heap.size)
  rw [s8] at r8
  refine ⟨?_, r8, b8.alloc b8.size _⟩
  intro k hk
  match k, hk with
  | 0, _ => exact r0.alloc _
  | 1, _ => exact r1.alloc _
  | 2, _ => exact r2.alloc _
  | 3, _ => exact r3.alloc _
  | 4, _ => exact r4.alloc _
  | 5, _ => exact r5.alloc _
  | 6, _ => exact r6.alloc _
  | 7, _ => exact r7.alloc _
theorem tabRow_at (k i : Nat) (h : i < 4) : (tabRow k)[i]? = some (.int .i64 ((place k i : Nat) : Int)) := by simp [tabRow, h]
theorem tabAll_at (M k : Nat) (h : k < 8) : (tabAll M)[k]? = some (.slice (some ⟨M + k, 0, none⟩) 4 4) := by simp [tabAll, h]
theorem place_lt : ∀ k, k < 8 → ∀ i, i < 4 → place k i < 16 := by decide

end Go.Proofs.Ytgeackoaghkgmaa
