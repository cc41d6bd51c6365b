/-
  Parts of this proof, one behind the other: Poly1, Poly2, Poly3, Poly4, Poly5, Poly6, Poly7, Poly8.
-/
import Derived.Test.YtanghehmfagmfaaGreatDoorBun2
import Derived.Test.YtanghehmfagmfaaGreatDoorBun7
import Derived.Test.YtanghehmfagmfaaGreatDoorBun4
import Derived.RegionTactic

/-
  Numbers of five limbs of 26 bits: plain facts, and the contracts of package onetime's carry and plus.
-/
namespace Go.Proofs.YtanghehmfagmfaaGreatDoor
open Go.RowKit
set_option linter.unusedVariables false
set_option maxRecDepth 100000

def cells64 (l : List Int) : List Value := l.map (Value.int .u64)
theorem cells64_len (l : List Int) : (cells64 l).length = l.length := by simp [cells64]
theorem cells64_one (l : List Int) : ∀ v ∈ cells64 l, v.oneCell' = true := by
  intro v hv
  obtain ⟨x, _, rfl⟩ := List.mem_map.1 hv
  rfl
theorem cells64_at (l : List Int) (j : Nat) (h : j < l.length) : (cells64 l)[j]? = some (.int .u64 (l.getD j 0)) := by
  simp [cells64, h, List.getD_eq_getElem?_getD]
theorem cells64_set (l : List Int) (j : Nat) (v : Int) : (cells64 l).set j (.int .u64 v) = cells64 (l.set j v) := by simp [cells64, List.map_set]
def z5 : List Int := List.replicate 5 0
theorem size5 : (Tryz.prog.info? 220).map (·.size) = some 5 := by kernel_rfl
theorem zero5 : (Tryz.prog.info? 220).map (·.zero) = some (some (.agg (cells64 z5).toArray)) := by kernel_rfl
theorem run_alloc5 (w : World) : (Instr.alloc 220 true (.tuple #[])).run Tryz.prog w = .ok (.pointer (some ⟨w.heap.size, 0, none⟩)) (w.alloc (.cells (cells64 z5).toArray 220)) := by
  obtain ⟨i, hi, hz⟩ := zero_parts zero5
  exact run_alloc_zero _ i _ hi hz w
/-- A variable that holds an array handed over. -/
theorem wpList_boxN {P : Program} {ops : Array Oper} {rest : List Oper} {op : Oper} {a : Act} {w : World} {Q : Exit → Act → World → Prop} {t : TypeId} {x : Operand} {z : Array Value} (hgd : op.guard = none) (ho : op.op = .box t x)
    (hx : a.eval x = .agg z) (n : Nat) (hn : w.heap.size = n)
    (h : wpList P ops Q rest (a.put op.dst (.pointer (some ⟨n, 0, none⟩))) (w.alloc (.cells z t))) : wpList P ops Q (op :: rest) a w := by
  subst hn
  refine wpList_plain hgd fun K hK => ?_
  unfold Oper.wp execOp
  simp only [ho, hx, Value.cells, Sem.run_bind, Instr.box, newVar, newRow, run_newObj_alloc, Sem.run_pure, Result.andThen_ok]
  exact hK _ _ h
theorem RowIs.all {w : World} {g : Nat} {t : TypeId} {l : List Value} (h : RowIs w g t l) : w.rangeAt g 0 l := h.range (by rw [List.drop_zero, List.take_length])
theorem RowIs.putAll {w : World} {g : Nat} {t : TypeId} {l vs : List Value} (h : RowIs w g t l) (hv : vs.length = l.length) : RowIs (w.setCells g 0 vs) g t vs := by
  have := h.sets vs 0 (by omega)
  have e : putAt l 0 vs = vs := by unfold putAt; rw [List.take_zero, List.nil_append, Nat.zero_add, List.drop_of_length_le (by omega), List.append_nil]
  rwa [e] at this
/-- A number and a word, told together. -/
theorem results_row_tmp {P : Program} {fn : Func} {p q : Tmp} {ty : TypeId} (h : fn.results = #[.cell p ty, .tmp q]) (tmps : Array Value) (w : World) (g : Nat) (cs : List Value) (d : TypeDesc)
    (hp : tmps[p]?.getD undef = .pointer (some ⟨g, 0, none⟩)) (u : Value) (hq : tmps[q]?.getD undef = u) (hc : w.rangeAt g 0 cs) (hu : P.underlying ty = some d) (hd : d.isRow = true) (hi : (P.info? ty).map (·.size) = some cs.length) :
    (results fn tmps).run P w = .ok (.tuple #[.agg cs.toArray, u]) w := by
  simp [results, h, hp, hq, asAddr, run_loadVar_mid w g 0 ty cs d hc hu hd hi]

theorem and26 (v : Int) (h0 : 0 ≤ v) (h1 : v < 18446744073709551616) : bits BinOp.and IntKind.u64 v 67108863 = v % 67108864 := by
  rw [u64_and _ _ h0 h1 (by omega) (by omega), show (67108863 : Int).toNat = 67108863 from rfl, nat_mask26]
  omega

/-- What is carried into limb k. -/
def carO (x : List Int) : Nat → Int
  | 0 => 0
  | k + 1 => (carO x k + x.getD k 0) / 67108864
/-- The limbs, the first k of them settled. -/
def carL (x : List Int) : Nat → List Int
  | 0 => x
  | k + 1 => (carL x k).set k ((carO x k + x.getD k 0) % 67108864)
theorem carL_len (x : List Int) : ∀ k, (carL x k).length = x.length
  | 0 => rfl
  | k + 1 => by rw [carL, List.length_set, carL_len x k]
theorem carL_at (x : List Int) (j : Nat) : ∀ k, k ≤ j → (carL x k).getD j 0 = x.getD j 0
  | 0, _ => rfl
  | k + 1, h => by
    rw [carL, List.getD_eq_getElem?_getD, List.getElem?_set_ne (by omega), ← List.getD_eq_getElem?_getD]
    exact carL_at x j k (by omega)
/-- Limbs below 2^63. -/
def allB (x : List Int) (n : Int) : Prop := ∀ j, 0 ≤ x.getD j 0 ∧ x.getD j 0 < n
theorem carO_bd (x : List Int) (h : allB x 9223372036854775808) : ∀ k, 0 ≤ carO x k ∧ carO x k < 274877906944
  | 0 => ⟨Int.le_refl 0, show (0 : Int) < 274877906944 by decide⟩
  | k + 1 => by
    have h1 := carO_bd x h k
    have h2 := h k
    simp only [carO]
    omega

set_option maxHeartbeats 1000000 in
theorem onetime_carry (x : List Int) (w : World) (hl : x.length = 5) (hb : allB x 9223372036854775808) :
    Calls Tryz.prog 202 #[.agg (cells64 x).toArray] w fun e w' => e = .returned (.tuple #[.agg (cells64 (carL x 5)).toArray, .int .u64 (carO x 5)]) ∧ Below w.heap.size w w' := by
  have r1 : RowIs ((w.alloc (.cells (cells64 x).toArray 220)).alloc (.cells (cells64 z5).toArray 220)) w.heap.size 220 (cells64 (carL x 0)) := (RowIs.new w _ _).alloc _
  have r2 : RowIs ((w.alloc (.cells (cells64 x).toArray 220)).alloc (.cells (cells64 z5).toArray 220)) (w.heap.size + 1) 220 (cells64 z5) := by
    have := RowIs.new (w.alloc (.cells (cells64 x).toArray 220)) 220 (cells64 z5)
    simpa using this
  have b1 : Below w.heap.size w ((w.alloc (.cells (cells64 x).toArray 220)).alloc (.cells (cells64 z5).toArray 220)) := ((Below.refl _ _).alloc (Nat.le_refl _) _).alloc (by simp) _
  obtain ⟨cx, hcx⟩ : ∃ cx, cx = (cells64 x).toArray := ⟨_, rfl⟩
  rw [← hcx] at r1 r2 b1 ⊢
  clear hcx
  go_enter Tryz.func202, Tryz.ntmps202
  go_wp2_with (first | (refine wpList_boxN (z := cx) rfl rfl rfl w.heap.size rfl ?_) | (refine wpList_allocN rfl rfl run_alloc5 (w.heap.size + 1) (by simp) ?_))
  generalize (w.alloc (.cells cx 220)).alloc (.cells (cells64 z5).toArray 220) = w2 at *
  go_loopw [4, 6] (fun c i wr => ∃ k : Nat, k ≤ 5 ∧ i = .int .i64 k ∧ c = .int .u64 (carO x k) ∧ RowIs wr w.heap.size 220 (cells64 (carL x k)) ∧ RowIs wr (w.heap.size + 1) 220 (cells64 z5) ∧ Below w.heap.size w wr) (fun _ i _ => 5 - (intOf i).toNat)
  case atStart => exact ⟨0, by omega, rfl, rfl, r1, r2, b1⟩
  case round =>
    clear r1 r2 b1
    obtain ⟨k, hk, rfl, rfl, q1, q2, hbel⟩ := hrel
    by_cases hlt : k < 5
    · have hc := q1.cellAt (cells64_at (carL x k) k (by rw [carL_len]; omega))
      rw [carL_at x k k (Nat.le_refl _)] at hc
      have hz := q1.frozen k
      have hB := hb k
      have hO := carO_bd x hb k
      have hx0 := hB.1
      have hx1 := hB.2
      have ho0 := hO.1
      have ho1 := hO.2
      have ha := and26 (carO x k + x.getD k 0) (by omega) (by omega)
      have HN : Hid (RowIs (wr.setCell ⟨w.heap.size, k, none⟩ (.int .u64 ((carO x k + x.getD k 0) % 67108864))) w.heap.size 220 (cells64 (carL x (k + 1)))) := by
        have := q1.set k (.int .u64 ((carO x k + x.getD k 0) % 67108864))
        rw [cells64_set] at this
        exact this
      have HO : Hid ((carO x k + x.getD k 0) / 67108864 = carO x (k + 1)) := rfl
      clear hB hO
      have HQ2 : Hid (RowIs wr (w.heap.size + 1) 220 (cells64 z5)) := q2
      clear q1 q2
      generalize carO x k = C at *
      generalize x.getD k 0 = X at *
      go_wp2
      go_roundw
      case rel => exact ⟨k + 1, by omega, by go_num, by rw [← HO.out], HN.out, HQ2.out.setOther (by simp) _, hbel.setCell (Nat.le_refl _) _⟩
      case measure => simp [intOf]; omega
    · obtain rfl : k = 5 := by omega
      have hlen : (cells64 (carL x 5)).length = 5 := by rw [cells64_len, carL_len, hl]
      have hone := all_oneCell_toArray (cells64_one (carL x 5))
      obtain ⟨cs, hcs⟩ : ∃ cs, cs = cells64 (carL x 5) := ⟨_, rfl⟩
      rw [← hcs] at q1 hlen hone
      have HE : Hid (cs = cells64 (carL x 5)) := hcs
      clear hcs
      have HC : Hid (carO x 5 = carO x 5) := rfl
      generalize hC : carO x 5 = C at HC ⊢
      replace HC : Hid (C = carO x 5) := hC.symm
      clear hC
      have hz5 : (cells64 z5).length = 5 := rfl
      go_wp2_with (first | (refine wpList_load_mid rfl 220 _ rfl w.heap.size 0 rfl cs _ q1.all Tryz.underlying220 rfl (by rw [size5, hlen]) ?_) | (refine wpList_store_mid rfl 220 _ _ rfl (w.heap.size + 1) 0 cs.toArray rfl rfl (q2.there (by simp [hlen, hz5])) (by rw [size5]; simp [hlen]) hone ?_))
      refine bodyPost_ret (v := .tuple #[.agg cs.toArray, .int .u64 C]) (results_row_tmp rfl _ _ (w.heap.size + 1) cs _ (by simp) (.int .u64 C) (by simp) ?_ Tryz.underlying220 rfl (by rw [size5, hlen])) rfl ⟨by rw [HE.out, HC.out], bel_setCells hbel (by omega) _ _⟩
      exact World.rangeAt_setCells_same _ _ _ _ (q2.there (by simp [hlen, hz5]))

end Go.Proofs.YtanghehmfagmfaaGreatDoor

/-
  The contracts of package onetime's plus and settle.
-/
namespace Go.Proofs.YtanghehmfagmfaaGreatDoor
open Go.RowKit
set_option linter.unusedVariables false
set_option maxRecDepth 100000

/-- The sums of the first k limbs, those behind them as they were. -/
def addL (x y : List Int) : Nat → List Int
  | 0 => x
  | k + 1 => (addL x y k).set k (x.getD k 0 + y.getD k 0)
theorem addL_len (x y : List Int) : ∀ k, (addL x y k).length = x.length
  | 0 => rfl
  | k + 1 => by rw [addL, List.length_set, addL_len x y k]
theorem addL_at (x y : List Int) (j : Nat) : ∀ k, k ≤ j → (addL x y k).getD j 0 = x.getD j 0
  | 0, _ => rfl
  | k + 1, h => by
    rw [addL, List.getD_eq_getElem?_getD, List.getElem?_set_ne (by omega), ← List.getD_eq_getElem?_getD]
    exact addL_at x y j k (by omega)

set_option maxHeartbeats 1000000 in
theorem onetime_plus (x y : List Int) (w : World) (hl : x.length = 5) (hl2 : y.length = 5) (hb : allB x 4611686018427387904) (hb2 : allB y 4611686018427387904) :
    Calls Tryz.prog 177 #[.agg (cells64 x).toArray, .agg (cells64 y).toArray] w fun e w' => e = .returned (.agg (cells64 (addL x y 5)).toArray) ∧ Below w.heap.size w w' := by
  have r1 : RowIs (((w.alloc (.cells (cells64 x).toArray 220)).alloc (.cells (cells64 y).toArray 220)).alloc (.cells (cells64 z5).toArray 220)) w.heap.size 220 (cells64 (addL x y 0)) := ((RowIs.new w _ _).alloc _).alloc _
  have r2 : RowIs (((w.alloc (.cells (cells64 x).toArray 220)).alloc (.cells (cells64 y).toArray 220)).alloc (.cells (cells64 z5).toArray 220)) (w.heap.size + 1) 220 (cells64 y) := by
    have := (RowIs.new (w.alloc (.cells (cells64 x).toArray 220)) 220 (cells64 y)).alloc (.cells (cells64 z5).toArray 220)
    simpa using this
  have r3 : RowIs (((w.alloc (.cells (cells64 x).toArray 220)).alloc (.cells (cells64 y).toArray 220)).alloc (.cells (cells64 z5).toArray 220)) (w.heap.size + 1 + 1) 220 (cells64 z5) := by
    have := RowIs.new ((w.alloc (.cells (cells64 x).toArray 220)).alloc (.cells (cells64 y).toArray 220)) 220 (cells64 z5)
    simpa using this
  have b1 : Below w.heap.size w (((w.alloc (.cells (cells64 x).toArray 220)).alloc (.cells (cells64 y).toArray 220)).alloc (.cells (cells64 z5).toArray 220)) := (((Below.refl _ _).alloc (Nat.le_refl _) _).alloc (by simp) _).alloc (by simp; omega) _
  obtain ⟨cx, hcx⟩ : ∃ cx, cx = (cells64 x).toArray := ⟨_, rfl⟩
  obtain ⟨cy, hcy⟩ : ∃ cy, cy = (cells64 y).toArray := ⟨_, rfl⟩
  rw [← hcx, ← hcy] at r1 r2 r3 b1
  rw [← hcx, ← hcy]
  clear hcx hcy
  go_enter Tryz.func177, Tryz.ntmps177
  go_wp2_with (first | (refine wpList_boxN (z := cx) rfl rfl rfl w.heap.size rfl ?_) | (refine wpList_boxN (z := cy) rfl rfl rfl (w.heap.size + 1) (by simp) ?_) | (refine wpList_allocN rfl rfl run_alloc5 (w.heap.size + 1 + 1) (by simp) ?_))
  generalize ((w.alloc (.cells cx 220)).alloc (.cells cy 220)).alloc (.cells (cells64 z5).toArray 220) = w2 at *
  go_loopw [6] (fun i wr => ∃ k : Nat, k ≤ 5 ∧ i = .int .i64 k ∧ RowIs wr w.heap.size 220 (cells64 (addL x y k)) ∧ RowIs wr (w.heap.size + 1) 220 (cells64 y) ∧ RowIs wr (w.heap.size + 1 + 1) 220 (cells64 z5) ∧ Below w.heap.size w wr) (fun i _ => 5 - (intOf i).toNat)
  case atStart => exact ⟨0, by omega, rfl, r1, r2, r3, b1⟩
  case round =>
    clear r1 r2 r3 b1
    obtain ⟨k, hk, rfl, q1, q2, q3, hbel⟩ := hrel
    by_cases hlt : k < 5
    · have hc := q1.cellAt (cells64_at (addL x y k) k (by rw [addL_len]; omega))
      rw [addL_at x y k k (Nat.le_refl _)] at hc
      have hz := q1.frozen k
      have hc2 := q2.cellAt (cells64_at y k (by omega))
      have hB := hb k
      have hB2 := hb2 k
      have hx0 := hB.1
      have hx1 := hB.2
      have hy0 := hB2.1
      have hy1 := hB2.2
      have HN : Hid (RowIs (wr.setCell ⟨w.heap.size, k, none⟩ (.int .u64 (x.getD k 0 + y.getD k 0))) w.heap.size 220 (cells64 (addL x y (k + 1)))) := by
        have := q1.set k (.int .u64 (x.getD k 0 + y.getD k 0))
        rw [cells64_set] at this
        exact this
      clear hB hB2
      have HQ2 : Hid (RowIs wr (w.heap.size + 1) 220 (cells64 y)) := q2
      have HQ3 : Hid (RowIs wr (w.heap.size + 1 + 1) 220 (cells64 z5)) := q3
      clear q1 q2 q3
      generalize x.getD k 0 = X at *
      generalize y.getD k 0 = Y at *
      go_wp2
      go_region
      go_wp2
      go_roundw
      case rel => exact ⟨k + 1, by omega, by go_num, HN.out, HQ2.out.setOther (by simp) _, HQ3.out.setOther (by simp; omega) _, (hbel.setCell (Nat.le_refl _) _).drew⟩
      case measure => simp [intOf]; omega
    · obtain rfl : k = 5 := by omega
      have hlen : (cells64 (addL x y 5)).length = 5 := by rw [cells64_len, addL_len, hl]
      have hone := all_oneCell_toArray (cells64_one (addL x y 5))
      obtain ⟨cs, hcs⟩ : ∃ cs, cs = cells64 (addL x y 5) := ⟨_, rfl⟩
      rw [← hcs] at q1 hlen hone
      have HE : Hid (cs = cells64 (addL x y 5)) := hcs
      clear hcs
      have hz5 : (cells64 z5).length = 5 := rfl
      go_wp2_with (first | (refine wpList_load_mid rfl 220 _ rfl w.heap.size 0 rfl cs _ q1.all Tryz.underlying220 rfl (by rw [size5, hlen]) ?_) | (refine wpList_store_mid rfl 220 _ _ rfl (w.heap.size + 1 + 1) 0 cs.toArray rfl rfl (q3.there (by simp [hlen, hz5])) (by rw [size5]; simp [hlen]) hone ?_))
      refine bodyPost_ret (v := .agg cs.toArray) (results_row rfl _ _ (w.heap.size + 1 + 1) cs _ (by simp [Act.put]) ?_ Tryz.underlying220 rfl (by rw [size5, hlen])) rfl ⟨by rw [HE.out], bel_setCells hbel (by omega) _ _⟩
      exact World.rangeAt_setCells_same _ _ _ _ (q3.there (by simp [hlen, hz5]))

end Go.Proofs.YtanghehmfagmfaaGreatDoor

/-
  The contract of package onetime's settle.
-/
namespace Go.Proofs.YtanghehmfagmfaaGreatDoor
open Go.RowKit
set_option linter.unusedVariables false
set_option maxRecDepth 100000

/-- Settled, what was carried out of the last limb brought back five times. -/
def setL (x : List Int) : List Int :=
  (((carL x 5).set 0 ((carL x 5).getD 0 0 + 5 * carO x 5)).set 1 ((carL x 5).getD 1 0 + ((carL x 5).getD 0 0 + 5 * carO x 5) / 67108864)).set 0 (((carL x 5).getD 0 0 + 5 * carO x 5) % 67108864)
theorem setL_len (x : List Int) : (setL x).length = x.length := by rw [setL, List.length_set, List.length_set, List.length_set, carL_len]

theorem carL_five (a b c d e : Int) : carL [a, b, c, d, e] 5 = [(0 + a) % 67108864, ((0 + a) / 67108864 + b) % 67108864, (((0 + a) / 67108864 + b) / 67108864 + c) % 67108864, ((((0 + a) / 67108864 + b) / 67108864 + c) / 67108864 + d) % 67108864, (((((0 + a) / 67108864 + b) / 67108864 + c) / 67108864 + d) / 67108864 + e) % 67108864] := rfl
theorem carO_five (a b c d e : Int) : carO [a, b, c, d, e] 5 = (((((0 + a) / 67108864 + b) / 67108864 + c) / 67108864 + d) / 67108864 + e) / 67108864 := rfl
theorem five_of (x : List Int) (h : x.length = 5) : ∃ a b c d e, x = [a, b, c, d, e] := by
  match x, h with
  | [a, b, c, d, e], _ => exact ⟨a, b, c, d, e, rfl⟩
theorem carL_lt (x : List Int) (hl : x.length = 5) (j : Nat) : 0 ≤ (carL x 5).getD j 0 ∧ (carL x 5).getD j 0 < 67108864 := by
  obtain ⟨a, b, c, d, e, rfl⟩ := five_of x hl
  rw [carL_five]
  match j with
  | 0 => exact ⟨Int.emod_nonneg _ (by decide), Int.emod_lt_of_pos _ (by decide)⟩
  | 1 => exact ⟨Int.emod_nonneg _ (by decide), Int.emod_lt_of_pos _ (by decide)⟩
  | 2 => exact ⟨Int.emod_nonneg _ (by decide), Int.emod_lt_of_pos _ (by decide)⟩
  | 3 => exact ⟨Int.emod_nonneg _ (by decide), Int.emod_lt_of_pos _ (by decide)⟩
  | 4 => exact ⟨Int.emod_nonneg _ (by decide), Int.emod_lt_of_pos _ (by decide)⟩
  | n + 5 => exact ⟨Int.le_refl 0, show (0 : Int) < 67108864 by decide⟩

set_option maxHeartbeats 1000000 in
theorem onetime_settle (x : List Int) (w : World) (hl : x.length = 5) (hb : allB x 9223372036854775808) :
    Calls Tryz.prog 199 #[.agg (cells64 x).toArray] w fun e w' => e = .returned (.agg (cells64 (setL x)).toArray) ∧ Below w.heap.size w w' := by
  have r1 : RowIs ((w.alloc (.cells (cells64 x).toArray 220)).alloc (.cells (cells64 z5).toArray 220)) w.heap.size 220 (cells64 x) := (RowIs.new w _ _).alloc _
  have r2 : RowIs ((w.alloc (.cells (cells64 x).toArray 220)).alloc (.cells (cells64 z5).toArray 220)) (w.heap.size + 1) 220 (cells64 z5) := by
    have := RowIs.new (w.alloc (.cells (cells64 x).toArray 220)) 220 (cells64 z5)
    simpa using this
  have b1 : Below w.heap.size w ((w.alloc (.cells (cells64 x).toArray 220)).alloc (.cells (cells64 z5).toArray 220)) := ((Below.refl _ _).alloc (Nat.le_refl _) _).alloc (by simp) _
  have hs2 : ((w.alloc (.cells (cells64 x).toArray 220)).alloc (.cells (cells64 z5).toArray 220)).heap.size = w.heap.size + 2 := by simp
  have HCA : Hid (∀ w : World, Calls Tryz.prog 202 #[.agg (cells64 x).toArray] w fun e w' => e = .returned (.tuple #[.agg (cells64 (carL x 5)).toArray, .int .u64 (carO x 5)]) ∧ Below w.heap.size w w') := fun w => onetime_carry x w hl hb
  have hxl : (cells64 x).length = 5 := by rw [cells64_len, hl]
  have hO := carO_bd x hb 5
  have h0 := carL_lt x hl 0
  have h1 := carL_lt x hl 1
  have HS : Hid (setL x = (((carL x 5).set 0 ((carL x 5).getD 0 0 + 5 * carO x 5)).set 1 ((carL x 5).getD 1 0 + ((carL x 5).getD 0 0 + 5 * carO x 5) / 67108864)).set 0 (((carL x 5).getD 0 0 + 5 * carO x 5) % 67108864)) := rfl
  have hyl : (carL x 5).length = 5 := by rw [carL_len, hl]
  generalize carL x 5 = y at *
  generalize carO x 5 = O at *
  generalize setL x = sx at *
  obtain ⟨cx, hcx⟩ : ∃ cx, cx = cells64 x := ⟨_, rfl⟩
  rw [← hcx] at r1 r2 b1 HCA hxl hs2
  rw [← hcx]
  clear hcx hl hb
  generalize hw2 : (w.alloc (.cells cx.toArray 220)).alloc (.cells (cells64 z5).toArray 220) = w2 at *
  have HW2 : Hid (_ = w2) := hw2
  clear hw2
  have hyc : (cells64 y).length = 5 := by rw [cells64_len, hyl]
  have hyo := all_oneCell_toArray (cells64_one y)
  have c0 : (cells64 y)[0]? = some (.int .u64 (y.getD 0 0)) := cells64_at y 0 (by omega)
  have c1 : (cells64 y)[1]? = some (.int .u64 (y.getD 1 0)) := cells64_at y 1 (by omega)
  have hz5 : (cells64 z5).length = 5 := rfl
  have o0 := hO.1
  have o1 := hO.2
  have y00 := h0.1
  have y01 := h0.2
  have y10 := h1.1
  have y11 := h1.2
  have ha := and26 (y.getD 0 0 + 5 * O) (by omega) (by omega)
  clear hO h0 h1
  go_enter Tryz.func199, Tryz.ntmps199
  go_wp2_with (first | (refine wpList_boxN (z := cx.toArray) rfl rfl rfl w.heap.size rfl ?_) | (refine wpList_allocN rfl rfl run_alloc5 (w.heap.size + 1) (by simp) ?_; rw [HW2.out]) | (refine wpList_load_mid rfl 220 _ rfl w.heap.size 0 rfl cx _ r1.all Tryz.underlying220 rfl (by rw [size5, hxl]) ?_))
  refine (HCA.out _).mono ?_
  rintro e w3 ⟨rfl, b2⟩
  have p1 : RowIs w3 w.heap.size 220 cx := r1.below b2 (by omega)
  have p2 : RowIs w3 (w.heap.size + 1) 220 (cells64 z5) := r2.below b2 (by omega)
  have b3 : Below w.heap.size w w3 := b1.trans (b2.mono b1.size)
  clear r1 r2 b1 b2 hs2
  have hset : (((cells64 y).set 0 (.int .u64 (y.getD 0 0 + 5 * O))).set 1 (.int .u64 (y.getD 1 0 + (y.getD 0 0 + 5 * O) / 67108864))).set 0 (.int .u64 ((y.getD 0 0 + 5 * O) % 67108864)) = cells64 sx := by rw [cells64_set, cells64_set, cells64_set, HS.out]
  have hsl : (cells64 sx).length = 5 := by rw [cells64_len, HS.out, List.length_set, List.length_set, List.length_set, hyl]
  have hso := all_oneCell_toArray (cells64_one sx)
  generalize hw4 : w3.setCells w.heap.size 0 (cells64 y) = w4
  have q1 : RowIs w4 w.heap.size 220 (cells64 y) := hw4 ▸ p1.putAll (by rw [hyc, hxl])
  have q2 : RowIs w4 (w.heap.size + 1) 220 (cells64 z5) := (hw4 ▸ (Upon.refl w.heap.size _).setCells 0 (cells64 y) : Upon w.heap.size _ w4).row p2 (by simp)
  have q3 : Below w.heap.size w w4 := hw4 ▸ bel_setCells b3 (Nat.le_refl _) 0 (cells64 y)
  have HT : Hid (w3.there w.heap.size 0 (cells64 y).toArray.size) := p1.there (by simp [hyc, hxl])
  have HW4 : Hid (w3.setCells w.heap.size 0 (cells64 y).toArray.toList = w4) := hw4
  have HR : Hid (RowIs (((w4.setCell ⟨w.heap.size, 0, none⟩ (.int .u64 (y.getD 0 0 + 5 * O))).setCell ⟨w.heap.size, 1, none⟩ (.int .u64 (y.getD 1 0 + (y.getD 0 0 + 5 * O) / 67108864))).setCell ⟨w.heap.size, 0, none⟩ (.int .u64 ((y.getD 0 0 + 5 * O) % 67108864))) w.heap.size 220 (cells64 sx)) := hset ▸ ((q1.set 0 _).set 1 _).set 0 _
  have HR2 : Hid (RowIs (((w4.setCell ⟨w.heap.size, 0, none⟩ (.int .u64 (y.getD 0 0 + 5 * O))).setCell ⟨w.heap.size, 1, none⟩ (.int .u64 (y.getD 1 0 + (y.getD 0 0 + 5 * O) / 67108864))).setCell ⟨w.heap.size, 0, none⟩ (.int .u64 ((y.getD 0 0 + 5 * O) % 67108864))) (w.heap.size + 1) 220 (cells64 z5)) := ((q2.setOther (by simp) _).setOther (by simp) _).setOther (by simp) _
  have HB : Hid (Below w.heap.size w (((w4.setCell ⟨w.heap.size, 0, none⟩ (.int .u64 (y.getD 0 0 + 5 * O))).setCell ⟨w.heap.size, 1, none⟩ (.int .u64 (y.getD 1 0 + (y.getD 0 0 + 5 * O) / 67108864))).setCell ⟨w.heap.size, 0, none⟩ (.int .u64 ((y.getD 0 0 + 5 * O) % 67108864)))) := ((q3.setCell (Nat.le_refl _) _).setCell (Nat.le_refl _) _).setCell (Nat.le_refl _) _
  have d0 := q1.cellAt c0
  have d1 := q1.cellAt c1
  have z0 := q1.frozen 0
  have z1 := q1.frozen 1
  clear hset hw4 p1 p2 b3 q1 q2 q3 c0 c1 HS
  generalize y.getD 0 0 = Y0 at *
  generalize y.getD 1 0 = Y1 at *
  generalize hcs : cells64 sx = cs at *
  have HE : Hid (cells64 sx = cs) := hcs
  clear hcs
  obtain ⟨cy, hcy⟩ : ∃ cy, cy = (cells64 y).toArray := ⟨_, rfl⟩
  rw [← hcy] at HT HW4 hyo
  rw [← hcy]
  have hys : (Tryz.prog.info? 220).map (·.size) = some cy.size := by rw [size5, hcy]; simp [hyc]
  clear hcy hyc
  go_wp2_with (first | (refine wpList_store_mid rfl 220 _ _ rfl w.heap.size 0 cy rfl rfl ?_ hys hyo ?_; exact HT.out; rw [HW4.out]) | (refine wpList_load_mid rfl 220 _ rfl w.heap.size 0 rfl cs _ ?_ Tryz.underlying220 rfl (by rw [size5, hsl]) ?_; exact HR.out.all) | (refine wpList_store_mid rfl 220 _ _ rfl (w.heap.size + 1) 0 cs.toArray rfl rfl ?_ (by rw [size5]; simp [hsl]) hso ?_; exact HR2.out.there (by simp [hsl, hz5])))
  refine bodyPost_ret (v := .agg cs.toArray) (results_row rfl _ _ (w.heap.size + 1) cs _ (by simp [Act.put]) ?_ Tryz.underlying220 rfl (by rw [size5, hsl])) rfl ⟨by rw [← HE.out], bel_setCells HB.out (by omega) _ _⟩
  exact World.rangeAt_setCells_same _ _ _ _ (HR2.out.there (by simp [hsl, hz5]))

end Go.Proofs.YtanghehmfagmfaaGreatDoor

/-
  What numbers of five limbs come to, modulo 2^130 - 5. No program is named here but in what is imported.
-/
namespace Go.Proofs.YtanghehmfagmfaaGreatDoor
open Go.RowKit
set_option linter.unusedVariables false
set_option maxRecDepth 100000

/-- The number of limbs. -/
def valN : List Int → Int
  | [] => 0
  | d :: l => d + 67108864 * valN l
theorem valN_set (v : Int) : ∀ (l : List Int) (j : Nat), j < l.length → valN (l.set j v) = valN l + 67108864 ^ j * (v - l.getD j 0)
  | [], j, h => by simp at h
  | d :: l, 0, h => by simp [valN]; omega
  | d :: l, j + 1, h => by
    have := valN_set v l j (by simpa using h)
    simp only [List.set_cons_succ, valN, this, List.getD_cons_succ, Int.pow_succ]
    rw [Int.mul_add, Int.add_assoc, ← Int.mul_assoc, Int.mul_comm 67108864 (67108864 ^ j)]
theorem valN_take : ∀ (l : List Int) (k : Nat), k < l.length → valN (l.take (k + 1)) = valN (l.take k) + 67108864 ^ k * l.getD k 0
  | [], k, h => by simp at h
  | d :: l, 0, h => by simp [valN]
  | d :: l, k + 1, h => by
    have := valN_take l k (by simpa using h)
    simp only [List.take_succ_cons, valN, this, List.getD_cons_succ, Int.pow_succ]
    rw [Int.mul_add, Int.add_assoc, ← Int.mul_assoc, Int.mul_comm 67108864 (67108864 ^ k)]

/-- Settled limbs, the second of which may be by less than 2^15 above. -/
def Settled (y : List Int) : Prop := y.length = 5 ∧ allB y 67141632 ∧ y.getD 0 0 < 67108864 ∧ y.getD 2 0 < 67108864 ∧ y.getD 3 0 < 67108864 ∧ y.getD 4 0 < 67108864
/-- All limbs below 2^26. -/
def Fair (y : List Int) : Prop := y.length = 5 ∧ allB y 67108864

theorem allB_five {a b c d e n : Int} (hn : 0 < n) (ha : 0 ≤ a ∧ a < n) (hb : 0 ≤ b ∧ b < n) (hc : 0 ≤ c ∧ c < n) (hd : 0 ≤ d ∧ d < n) (he : 0 ≤ e ∧ e < n) : allB [a, b, c, d, e] n := fun j => by
  match j with
  | 0 => exact ha
  | 1 => exact hb
  | 2 => exact hc
  | 3 => exact hd
  | 4 => exact he
  | _ + 5 => exact ⟨Int.le_refl 0, hn⟩
theorem allB_mono {x : List Int} {m n : Int} (h : allB x m) (hm : m ≤ n) : allB x n := fun j => ⟨(h j).1, Int.lt_of_lt_of_le (h j).2 hm⟩
theorem allB_z5 (n : Int) (hn : 0 < n) : allB z5 n := allB_five hn ⟨Int.le_refl 0, hn⟩ ⟨Int.le_refl 0, hn⟩ ⟨Int.le_refl 0, hn⟩ ⟨Int.le_refl 0, hn⟩ ⟨Int.le_refl 0, hn⟩

theorem setL_five (a b c d e : Int) (ha : 0 ≤ a ∧ a < 4611686018427387904) (hb : 0 ≤ b ∧ b < 4611686018427387904) (hc : 0 ≤ c ∧ c < 4611686018427387904) (hd : 0 ≤ d ∧ d < 4611686018427387904) (he : 0 ≤ e ∧ e < 4611686018427387904) :
    ∃ y0 y1 y2 y3 y4 o : Int, setL [a, b, c, d, e] = [y0, y1, y2, y3, y4] ∧ 0 ≤ o ∧ (0 ≤ y0 ∧ y0 < 67108864) ∧ (0 ≤ y1 ∧ y1 < 67141632) ∧ (0 ≤ y2 ∧ y2 < 67108864) ∧ (0 ≤ y3 ∧ y3 < 67108864) ∧ (0 ≤ y4 ∧ y4 < 67108864) ∧
      valN [a, b, c, d, e] = valN [y0, y1, y2, y3, y4] + o * 1361129467683753853853498429727072845819 ∧ o = valN [a, b, c, d, e] / 1361129467683753853853498429727072845824 ∧ (o = 0 → y1 < 67108864) := by
  have e1 := carL_five a b c d e
  have e2 := carO_five a b c d e
  obtain ⟨c1, hc1⟩ : ∃ c1, c1 = (0 + a) / 67108864 := ⟨_, rfl⟩
  obtain ⟨x0, hx0⟩ : ∃ x0, x0 = (0 + a) % 67108864 := ⟨_, rfl⟩
  rw [← hc1, ← hx0] at e1
  rw [← hc1] at e2
  obtain ⟨c2, hc2⟩ : ∃ c2, c2 = (c1 + b) / 67108864 := ⟨_, rfl⟩
  obtain ⟨x1, hx1⟩ : ∃ x1, x1 = (c1 + b) % 67108864 := ⟨_, rfl⟩
  rw [← hc2, ← hx1] at e1
  rw [← hc2] at e2
  obtain ⟨c3, hc3⟩ : ∃ c3, c3 = (c2 + c) / 67108864 := ⟨_, rfl⟩
  obtain ⟨x2, hx2⟩ : ∃ x2, x2 = (c2 + c) % 67108864 := ⟨_, rfl⟩
  rw [← hc3, ← hx2] at e1
  rw [← hc3] at e2
  obtain ⟨c4, hc4⟩ : ∃ c4, c4 = (c3 + d) / 67108864 := ⟨_, rfl⟩
  obtain ⟨x3, hx3⟩ : ∃ x3, x3 = (c3 + d) % 67108864 := ⟨_, rfl⟩
  rw [← hc4, ← hx3] at e1
  rw [← hc4] at e2
  obtain ⟨c5, hc5⟩ : ∃ c5, c5 = (c4 + e) / 67108864 := ⟨_, rfl⟩
  obtain ⟨x4, hx4⟩ : ∃ x4, x4 = (c4 + e) % 67108864 := ⟨_, rfl⟩
  rw [← hx4] at e1
  rw [← hc5] at e2
  have es : setL [a, b, c, d, e] = [(x0 + 5 * c5) % 67108864, x1 + (x0 + 5 * c5) / 67108864, x2, x3, x4] := by
    unfold setL
    rw [e1, e2]
    rfl
  have f1 : 0 ≤ c1 ∧ c1 < 137438953472 ∧ 0 ≤ x0 ∧ x0 < 67108864 ∧ a = x0 + 67108864 * c1 := by omega
  have f2 : 0 ≤ c2 ∧ c2 < 137438953472 ∧ 0 ≤ x1 ∧ x1 < 67108864 ∧ c1 + b = x1 + 67108864 * c2 := by omega
  have f3 : 0 ≤ c3 ∧ c3 < 137438953472 ∧ 0 ≤ x2 ∧ x2 < 67108864 ∧ c2 + c = x2 + 67108864 * c3 := by omega
  have f4 : 0 ≤ c4 ∧ c4 < 137438953472 ∧ 0 ≤ x3 ∧ x3 < 67108864 ∧ c3 + d = x3 + 67108864 * c4 := by omega
  have f5 : 0 ≤ c5 ∧ c5 < 137438953472 ∧ 0 ≤ x4 ∧ x4 < 67108864 ∧ c4 + e = x4 + 67108864 * c5 := by omega
  clear hc1 hx0 hc2 hx1 hc3 hx2 hc4 hx3 hc5 hx4 e1 e2 ha hb hc hd he
  obtain ⟨q, hq⟩ : ∃ q, q = (x0 + 5 * c5) / 67108864 := ⟨_, rfl⟩
  obtain ⟨m, hm⟩ : ∃ m, m = (x0 + 5 * c5) % 67108864 := ⟨_, rfl⟩
  rw [← hq, ← hm] at es
  have f6 : 0 ≤ q ∧ q < 32768 ∧ 0 ≤ m ∧ m < 67108864 ∧ x0 + 5 * c5 = m + 67108864 * q := by omega
  clear hq hm
  have hv : valN [a, b, c, d, e] = valN [x0, x1, x2, x3, x4] + c5 * 1361129467683753853853498429727072845824 := by
    simp only [valN]
    omega
  have hv2 : 0 ≤ valN [x0, x1, x2, x3, x4] ∧ valN [x0, x1, x2, x3, x4] < 1361129467683753853853498429727072845824 := by
    simp only [valN]
    omega
  have hv3 : valN [m, x1 + q, x2, x3, x4] = valN [x0, x1, x2, x3, x4] + 5 * c5 := by
    simp only [valN]
    omega
  refine ⟨m, x1 + q, x2, x3, x4, c5, es, f5.1, ⟨f6.2.2.1, f6.2.2.2.1⟩, ?_, ⟨f3.2.2.1, f3.2.2.2.1⟩, ⟨f4.2.2.1, f4.2.2.2.1⟩, ⟨f5.2.2.1, f5.2.2.2.1⟩, ?_, ?_, ?_⟩
  · omega
  · rw [hv, hv3]; omega
  · rw [hv]; omega
  · intro h; omega

theorem setL_spec (x : List Int) (hl : x.length = 5) (hb : allB x 4611686018427387904) : Settled (setL x) ∧ valN (setL x) % p130 = valN x % p130 := by
  obtain ⟨a, b, c, d, e, rfl⟩ := five_of x hl
  obtain ⟨y0, y1, y2, y3, y4, o, hs, ho, h0, h1, h2, h3, h4, hv, _, _⟩ := setL_five a b c d e (hb 0) (hb 1) (hb 2) (hb 3) (hb 4)
  rw [hs]
  refine ⟨⟨rfl, allB_five (by decide) ⟨h0.1, by omega⟩ h1 ⟨h2.1, by omega⟩ ⟨h3.1, by omega⟩ ⟨h4.1, by omega⟩, h0.2, h2.2, h3.2, h4.2⟩, ?_⟩
  rw [hv]
  generalize valN [y0, y1, y2, y3, y4] = v
  unfold p130
  omega
/-- Settled once more: no limb is above 26 bits, the number is below 2^130. -/
theorem setL_fair (x : List Int) (h : Settled x) : Fair (setL x) ∧ valN (setL x) % p130 = valN x % p130 := by
  obtain ⟨hl, hb, g0, g2, g3, g4⟩ := h
  have hb2 : allB x 4611686018427387904 := allB_mono hb (by decide)
  obtain ⟨a, b, c, d, e, rfl⟩ := five_of x hl
  have r := (setL_spec _ hl hb2).2
  obtain ⟨y0, y1, y2, y3, y4, o, hs, ho, h0, h1, h2, h3, h4, hv, hq, h5⟩ := setL_five a b c d e (hb2 0) (hb2 1) (hb2 2) (hb2 3) (hb2 4)
  have k0 : 0 ≤ a ∧ a < 67108864 := ⟨(hb 0).1, g0⟩
  have k1 : 0 ≤ b ∧ b < 67141632 := hb 1
  have k2 : 0 ≤ c ∧ c < 67108864 := ⟨(hb 2).1, g2⟩
  have k3 : 0 ≤ d ∧ d < 67108864 := ⟨(hb 3).1, g3⟩
  have k4 : 0 ≤ e ∧ e < 67108864 := ⟨(hb 4).1, g4⟩
  have y1b : y1 < 67108864 := by
    simp only [valN] at hv hq
    clear hs r hb hb2 g0 g2 g3 g4
    have ho1 : o = 0 ∨ o = 1 := by omega
    rcases ho1 with rfl | rfl
    · exact h5 rfl
    · omega
  refine ⟨?_, r⟩
  rw [hs]
  exact ⟨rfl, allB_five (by decide) h0 ⟨h1.1, y1b⟩ h2 h3 h4⟩

end Go.Proofs.YtanghehmfagmfaaGreatDoor

/-
  The contract of package onetime's times.
-/
namespace Go.Proofs.YtanghehmfagmfaaGreatDoor
open Go.RowKit
set_option linter.unusedVariables false
set_option maxRecDepth 100000

/-- The product, as far as limbs ahead of (i, k) make it. -/
def mulS (x r : List Int) (i k : Nat) : Int := valN (x.take i) * valN r + 67108864 ^ i * x.getD i 0 * valN (r.take k)
theorem mulS_zero (x r : List Int) : mulS x r 0 0 = 0 := by simp [mulS, valN]
theorem mulS_end (x r : List Int) (hl : x.length = 5) : mulS x r 5 0 = valN x * valN r := by
  unfold mulS
  rw [List.take_of_length_le (by omega)]
  simp [valN]
theorem mulS_next (x r : List Int) (i : Nat) (hr : r.length = 5) (hi : i < x.length) : mulS x r i 5 = mulS x r (i + 1) 0 := by
  unfold mulS
  rw [List.take_of_length_le (l := r) (by omega), valN_take x i hi, List.take_zero, Int.add_mul]
  simp [valN]
theorem mulS_step (x r : List Int) (i k : Nat) (hk : k < r.length) : mulS x r i (k + 1) = mulS x r i k + 67108864 ^ (i + k) * (x.getD i 0 * r.getD k 0) := by
  unfold mulS
  rw [valN_take r k hk, Int.mul_add, Int.add_assoc]
  congr 2
  rw [Int.pow_add]
  ac_rfl
theorem rest_add (a b c d : Int) (h : a % p130 = b % p130) (h2 : c % p130 = d % p130) : (a + c) % p130 = (b + d) % p130 := by
  rw [Int.add_emod, h, h2, ← Int.add_emod]
theorem low_step (x r P : List Int) (i k : Nat) (hP : P.length = 5) (hk : k < r.length) (hj : i + k < 5) (h : valN P % p130 = mulS x r i k % p130) :
    valN (P.set (i + k) (P.getD (i + k) 0 + x.getD i 0 * r.getD k 0)) % p130 = mulS x r i (k + 1) % p130 := by
  rw [valN_set _ _ _ (by omega), mulS_step x r i k hk]
  refine rest_add _ _ _ _ h ?_
  rw [Int.add_comm (P.getD (i + k) 0), Int.add_sub_cancel]
theorem pow130 (j : Nat) (p : Int) : (67108864 ^ j * (5 * p)) % p130 = (67108864 ^ (j + 5) * p) % p130 := by
  rw [Int.pow_add, show (67108864 : Int) ^ 5 = 1361129467683753853853498429727072845824 from by decide]
  rw [show (67108864 : Int) ^ j * (5 * p) = 5 * (67108864 ^ j * p) from by ac_rfl, show (67108864 : Int) ^ j * 1361129467683753853853498429727072845824 * p = 1361129467683753853853498429727072845824 * (67108864 ^ j * p) from by ac_rfl]
  generalize (67108864 : Int) ^ j * p = q
  unfold p130
  omega
theorem high_step (x r P : List Int) (i k j : Nat) (hP : P.length = 5) (hk : k < r.length) (hj : j + 5 = i + k) (hj5 : j < 5) (h : valN P % p130 = mulS x r i k % p130) :
    valN (P.set j (P.getD j 0 + 5 * (x.getD i 0 * r.getD k 0))) % p130 = mulS x r i (k + 1) % p130 := by
  rw [valN_set _ _ _ (by omega), mulS_step x r i k hk, ← hj]
  refine rest_add _ _ _ _ h ?_
  rw [Int.add_comm (P.getD j 0), Int.add_sub_cancel]
  exact pow130 j _
theorem allB_set {P : List Int} {m n v : Int} (h : allB P m) (j : Nat) (hm : m ≤ n) (hv : 0 ≤ v ∧ v < n) : allB (P.set j v) n := fun i => by
  by_cases hj : j = i
  · subst hj
    by_cases hl : j < P.length
    · rw [List.getD_eq_getElem?_getD, List.getElem?_set_self hl]; exact hv
    · rw [List.getD_eq_getElem?_getD, List.getElem?_eq_none (by simp; omega)]
      exact ⟨Int.le_refl 0, by show (0 : Int) < n; omega⟩
  · rw [List.getD_eq_getElem?_getD, List.getElem?_set_ne hj, ← List.getD_eq_getElem?_getD]
    exact ⟨(h i).1, by have := (h i).2; omega⟩
theorem prod_bd (x y : Int) (hx : 0 ≤ x ∧ x < 268435456) (hy : 0 ≤ y ∧ y < 67108864) : 0 ≤ x * y ∧ x * y < 18014398509481984 := by
  refine ⟨Int.mul_nonneg hx.1 hy.1, ?_⟩
  have h1 : x * y ≤ 268435455 * y := Int.mul_le_mul_of_nonneg_right (by omega) hy.1
  omega

set_option maxRecDepth 100000 in
set_option maxHeartbeats 2000000 in
theorem onetime_times (x r : List Int) (w : World) (hl : x.length = 5) (hl2 : r.length = 5) (hb : allB x 268435456) (hb2 : allB r 67108864) :
    Calls Tryz.prog 176 #[.agg (cells64 x).toArray, .agg (cells64 r).toArray] w fun e w' => (∃ y, Settled y ∧ valN y % p130 = (valN x * valN r) % p130 ∧ e = .returned (.agg (cells64 y).toArray)) ∧ Below w.heap.size w w' := by
  obtain ⟨w4, hw4⟩ : ∃ w4, w4 = (((w.alloc (.cells (cells64 x).toArray 220)).alloc (.cells (cells64 r).toArray 220)).alloc (.cells (cells64 z5).toArray 220)).alloc (.cells (cells64 z5).toArray 220) := ⟨_, rfl⟩
  have r1 : RowIs w4 w.heap.size 220 (cells64 x) := hw4 ▸ (((RowIs.new w _ _).alloc _).alloc _).alloc _
  have r2 : RowIs w4 (w.heap.size + 1) 220 (cells64 r) := by
    have := ((RowIs.new (w.alloc (.cells (cells64 x).toArray 220)) 220 (cells64 r)).alloc (.cells (cells64 z5).toArray 220)).alloc (.cells (cells64 z5).toArray 220)
    rw [← hw4] at this
    simpa using this
  have r3 : RowIs w4 (w.heap.size + 1 + 1) 220 (cells64 z5) := by
    have := (RowIs.new ((w.alloc (.cells (cells64 x).toArray 220)).alloc (.cells (cells64 r).toArray 220)) 220 (cells64 z5)).alloc (.cells (cells64 z5).toArray 220)
    rw [← hw4] at this
    simpa using this
  have r4 : RowIs w4 (w.heap.size + 1 + 1 + 1) 220 (cells64 z5) := by
    have := RowIs.new (((w.alloc (.cells (cells64 x).toArray 220)).alloc (.cells (cells64 r).toArray 220)).alloc (.cells (cells64 z5).toArray 220)) 220 (cells64 z5)
    rw [← hw4] at this
    simpa using this
  have b1 : Below w.heap.size w w4 := hw4 ▸ ((((Below.refl _ _).alloc (Nat.le_refl _) _).alloc (by simp) _).alloc (by simp; omega) _).alloc (by simp; omega) _
  have HW4 : Hid ((((w.alloc (.cells (cells64 x).toArray 220)).alloc (.cells (cells64 r).toArray 220)).alloc (.cells (cells64 z5).toArray 220)).alloc (.cells (cells64 z5).toArray 220) = w4) := hw4.symm
  clear hw4
  obtain ⟨cx, hcx⟩ : ∃ cx, cx = (cells64 x).toArray := ⟨_, rfl⟩
  obtain ⟨cr, hcr⟩ : ∃ cr, cr = (cells64 r).toArray := ⟨_, rfl⟩
  rw [← hcx, ← hcr] at HW4
  rw [← hcx, ← hcr]
  clear hcx hcr
  have HST : Hid (∀ (P : List Int) (w : World), P.length = 5 → allB P 9223372036854775808 → Calls Tryz.prog 199 #[.agg (cells64 P).toArray] w fun e w' => e = .returned (.agg (cells64 (setL P)).toArray) ∧ Below w.heap.size w w') := onetime_settle
  have hs2 : ((w.alloc (.cells cx 220)).alloc (.cells cr 220)).heap.size = w.heap.size + 1 + 1 := by simp
  have hs3 : (((w.alloc (.cells cx 220)).alloc (.cells cr 220)).alloc (.cells (cells64 z5).toArray 220)).heap.size = w.heap.size + 1 + 1 + 1 := by simp
  go_enter Tryz.func176, Tryz.ntmps176
  go_wp2_with (first | (refine wpList_boxN (z := cx) rfl rfl rfl w.heap.size rfl ?_) | (refine wpList_boxN (z := cr) rfl rfl rfl (w.heap.size + 1) (by simp) ?_) | (refine wpList_allocN rfl rfl run_alloc5 (w.heap.size + 1 + 1) hs2 ?_) | (refine wpList_allocN rfl rfl run_alloc5 (w.heap.size + 1 + 1 + 1) hs3 ?_; rw [HW4.out]))
  clear HW4 hs2 hs3
  go_loopw [9] (fun i wr => ∃ (n : Nat) (P : List Int), n ≤ 5 ∧ i = .int .i64 n ∧ P.length = 5 ∧ allB P (5 * (n : Int) * 144115188075855872 + 1) ∧ valN P % p130 = mulS x r n 0 % p130 ∧ RowIs wr w.heap.size 220 (cells64 x) ∧ RowIs wr (w.heap.size + 1) 220 (cells64 r) ∧ RowIs wr (w.heap.size + 1 + 1) 220 (cells64 z5) ∧ RowIs wr (w.heap.size + 1 + 1 + 1) 220 (cells64 P) ∧ Below w.heap.size w wr) (fun i _ => 5 - (intOf i).toNat)
  case atStart => exact ⟨0, z5, by omega, rfl, rfl, allB_z5 _ (by decide), by rw [mulS_zero]; rfl, r1, r2, r3, r4, b1⟩
  case round =>
    clear r1 r2 r3 r4 b1
    obtain ⟨n, P, hn, rfl, hPl, hPb, hPv, q1, q2, q3, q4, hbel⟩ := hrel
    by_cases hlt : n < 5
    · have hd5 : decide ((n : Int) < 5) = true := by simp; omega
      go_wp2
      clear hd5
      go_loopw [12] (fun i wr => ∃ (k : Nat) (P : List Int), k ≤ 5 ∧ i = .int .i64 k ∧ P.length = 5 ∧ allB P ((5 * (n : Int) + k) * 144115188075855872 + 1) ∧ valN P % p130 = mulS x r n k % p130 ∧ RowIs wr w.heap.size 220 (cells64 x) ∧ RowIs wr (w.heap.size + 1) 220 (cells64 r) ∧ RowIs wr (w.heap.size + 1 + 1) 220 (cells64 z5) ∧ RowIs wr (w.heap.size + 1 + 1 + 1) 220 (cells64 P) ∧ Below w.heap.size w wr) (fun i _ => 5 - (intOf i).toNat)
      case atStart => exact ⟨0, P, by omega, rfl, hPl, by simpa using hPb, hPv, q1, q2, q3, q4, hbel⟩
      case round =>
        clear q1 q2 q3 q4 hbel hPl hPb hPv
        obtain ⟨k, P, hk, rfl, hPl, hPb, hPv, q1, q2, q3, q4, hbel⟩ := hrel
        by_cases hkl : k < 5
        · have hcx := q1.cellAt (cells64_at x n (by omega))
          have hcr := q2.cellAt (cells64_at r k (by omega))
          have hp := prod_bd _ _ (hb n) (hb2 k)
          have hxb := hb n
          have hrb := hb2 k
          have hx0 := hxb.1
          have hx1 := hxb.2
          have hr0 := hrb.1
          have hr1 := hrb.2
          have hp0 := hp.1
          have hp1 := hp.2
          clear hp hxb hrb
          by_cases h5 : n + k < 5
          · have hcp := q4.cellAt (cells64_at P (n + k) (by omega))
            have hz := q4.frozen (n + k)
            have hPk := hPb (n + k)
            have HV : Hid (valN (P.set (n + k) (P.getD (n + k) 0 + x.getD n 0 * r.getD k 0)) % p130 = mulS x r n (k + 1) % p130) := low_step x r P n k hPl (by omega) h5 hPv
            have HB : Hid (allB (P.set (n + k) (P.getD (n + k) 0 + x.getD n 0 * r.getD k 0)) ((5 * (n : Int) + ((k + 1 : Nat) : Int)) * 144115188075855872 + 1)) := allB_set hPb (n + k) (by omega) (by omega)
            have HN : Hid (RowIs (wr.setCell ⟨w.heap.size + 1 + 1 + 1, n + k, none⟩ (.int .u64 (P.getD (n + k) 0 + x.getD n 0 * r.getD k 0))) (w.heap.size + 1 + 1 + 1) 220 (cells64 (P.set (n + k) (P.getD (n + k) 0 + x.getD n 0 * r.getD k 0)))) := by
              have := q4.set (n + k) (.int .u64 (P.getD (n + k) 0 + x.getD n 0 * r.getD k 0))
              rw [cells64_set] at this
              exact this
            have HPL : Hid ((P.set (n + k) (P.getD (n + k) 0 + x.getD n 0 * r.getD k 0)).length = 5) := by show _ = _; rw [List.length_set, hPl]
            have g0 := hPk.1
            have g1 : P.getD (n + k) 0 < 9223372036854775808 := by omega
            clear hPk hPb hPv hPl
            have Q1 : Hid _ := q1
            have Q2 : Hid _ := q2
            have Q3 : Hid _ := q3
            clear q1 q2 q3 q4
            have ht : ((n : Int) + (k : Int)).toNat = n + k := by omega
            have hi5 : (n : Int) + (k : Int) < 5 := by omega
            have hi0 : 0 ≤ (n : Int) + (k : Int) := by omega
            generalize P.set (n + k) (P.getD (n + k) 0 + x.getD n 0 * r.getD k 0) = P' at *
            generalize P.getD (n + k) 0 = pv at *
            generalize x.getD n 0 = X at *
            generalize r.getD k 0 = R at *
            go_wp2
            go_region
            go_wp2
            go_roundw
            case rel => exact ⟨k + 1, P', by omega, by go_num, HPL.out, HB.out, HV.out, RowIs.setOther Q1.out (by show w.heap.size ≠ w.heap.size + 1 + 1 + 1; omega) _, RowIs.setOther Q2.out (by show w.heap.size + 1 ≠ w.heap.size + 1 + 1 + 1; omega) _, RowIs.setOther Q3.out (by show w.heap.size + 1 + 1 ≠ w.heap.size + 1 + 1 + 1; omega) _, HN.out, (hbel.setCell (by show w.heap.size ≤ w.heap.size + 1 + 1 + 1; omega) _).drew⟩
            case measure => simp [intOf]; omega
          · obtain ⟨j, hj⟩ : ∃ j, j + 5 = n + k := ⟨n + k - 5, by omega⟩
            have hj5 : j < 5 := by omega
            have hcp := q4.cellAt (cells64_at P j (by omega))
            have hz := q4.frozen j
            have hPk := hPb j
            have HV : Hid (valN (P.set j (P.getD j 0 + 5 * (x.getD n 0 * r.getD k 0))) % p130 = mulS x r n (k + 1) % p130) := high_step x r P n k j hPl (by omega) hj hj5 hPv
            have HB : Hid (allB (P.set j (P.getD j 0 + 5 * (x.getD n 0 * r.getD k 0))) ((5 * (n : Int) + ((k + 1 : Nat) : Int)) * 144115188075855872 + 1)) := allB_set hPb j (by omega) (by omega)
            have HN : Hid (RowIs (wr.setCell ⟨w.heap.size + 1 + 1 + 1, j, none⟩ (.int .u64 (P.getD j 0 + 5 * (x.getD n 0 * r.getD k 0)))) (w.heap.size + 1 + 1 + 1) 220 (cells64 (P.set j (P.getD j 0 + 5 * (x.getD n 0 * r.getD k 0))))) := by
              have := q4.set j (.int .u64 (P.getD j 0 + 5 * (x.getD n 0 * r.getD k 0)))
              rw [cells64_set] at this
              exact this
            have HPL : Hid ((P.set j (P.getD j 0 + 5 * (x.getD n 0 * r.getD k 0))).length = 5) := by show _ = _; rw [List.length_set, hPl]
            have g0 := hPk.1
            have g1 : P.getD j 0 < 9223372036854775808 := by omega
            clear hPk hPb hPv hPl
            have Q1 : Hid _ := q1
            have Q2 : Hid _ := q2
            have Q3 : Hid _ := q3
            clear q1 q2 q3 q4
            have ht : ((n : Int) + (k : Int) - 5).toNat = j := by omega
            have hi5 : ¬ ((n : Int) + (k : Int) < 5) := by omega
            have hi6 : (n : Int) + (k : Int) - 5 < 5 := by omega
            have hi0 : 0 ≤ (n : Int) + (k : Int) - 5 := by omega
            generalize P.set j (P.getD j 0 + 5 * (x.getD n 0 * r.getD k 0)) = P' at *
            generalize P.getD j 0 = pv at *
            generalize x.getD n 0 = X at *
            generalize r.getD k 0 = R at *
            go_wp2
            go_region
            go_wp2
            go_roundw
            case rel => exact ⟨k + 1, P', by omega, by go_num, HPL.out, HB.out, HV.out, RowIs.setOther Q1.out (by show w.heap.size ≠ w.heap.size + 1 + 1 + 1; omega) _, RowIs.setOther Q2.out (by show w.heap.size + 1 ≠ w.heap.size + 1 + 1 + 1; omega) _, RowIs.setOther Q3.out (by show w.heap.size + 1 + 1 ≠ w.heap.size + 1 + 1 + 1; omega) _, HN.out, (hbel.setCell (by show w.heap.size ≤ w.heap.size + 1 + 1 + 1; omega) _).drew⟩
            case measure => simp [intOf]; omega
        · obtain rfl : k = 5 := by omega
          have HB : Hid (allB P (5 * ((n + 1 : Nat) : Int) * 144115188075855872 + 1)) := by
            have e : (5 * (n : Int) + ((5 : Nat) : Int)) * 144115188075855872 + 1 = 5 * ((n + 1 : Nat) : Int) * 144115188075855872 + 1 := by omega
            exact e ▸ hPb
          have HV : Hid (valN P % p130 = mulS x r (n + 1) 0 % p130) := by show _ = _; rw [← mulS_next x r n hl2 (by omega)]; exact hPv
          clear hPb hPv
          go_wp2
          go_roundw
          case rel => exact ⟨n + 1, P, by omega, by go_num, hPl, HB.out, HV.out, q1, q2, q3, q4, hbel⟩
          case measure => simp [intOf]; omega
    · obtain rfl : n = 5 := by omega
      rw [mulS_end x r hl] at hPv
      have hB2 : allB P 9223372036854775808 := allB_mono hPb (by decide)
      have hsp := setL_spec P hPl (allB_mono hPb (by decide))
      have HSP : Hid (Settled (setL P) ∧ valN (setL P) % p130 = (valN x * valN r) % p130) := ⟨hsp.1, hsp.2.trans hPv⟩
      have hst := HST.out P
      have HS : Hid _ := fun w => hst w hPl hB2
      clear hst hsp hPv hPb hB2 HST q1 q2
      have hlen : (cells64 P).length = 5 := by rw [cells64_len, hPl]
      have hlen2 : (cells64 (setL P)).length = 5 := by rw [cells64_len, setL_len, hPl]
      have hone := all_oneCell_toArray (cells64_one (setL P))
      have hz5 : (cells64 z5).length = 5 := rfl
      generalize setL P = y at *
      have HY : Hid (∃ y, Settled y ∧ valN y % p130 = (valN x * valN r) % p130 ∧ cells64 y = cells64 y) := ⟨y, HSP.out.1, HSP.out.2, rfl⟩
      generalize hcs : cells64 y = cs at *
      have HE : Hid (cells64 y = cs) := hcs
      generalize cells64 P = cp at *
      clear hcs
      have hlt8 : w.heap.size + 1 + 1 + 1 < wr.heap.size := q4.lt
      have Q4 : Hid _ := q4.all
      clear q4
      go_wp2_with (first | (refine wpList_load_mid rfl 220 _ rfl (w.heap.size + 1 + 1 + 1) 0 rfl cp _ ?_ Tryz.underlying220 rfl (by rw [size5, hlen]) ?_; exact Q4.out))
      refine (HS.out _).mono ?_
      rintro e w5 ⟨rfl, b2⟩
      have p3 : RowIs w5 (w.heap.size + 1 + 1) 220 (cells64 z5) := q3.below b2 (by omega)
      have b3 : Below w.heap.size w w5 := hbel.trans (b2.mono hbel.size)
      clear q3 b2 hbel
      go_wp2_with (first | (refine wpList_store_mid rfl 220 _ _ rfl (w.heap.size + 1 + 1) 0 cs.toArray rfl rfl ?_ (by rw [size5]; simp [hlen2]) hone ?_; exact p3.there (by simp [hlen2, hz5])))
      refine bodyPost_ret (v := .agg cs.toArray) (results_row rfl _ _ (w.heap.size + 1 + 1) cs _ (by simp [Act.put]) ?_ Tryz.underlying220 rfl (by rw [size5, hlen2])) rfl ⟨⟨y, HSP.out.1, HSP.out.2, by rw [HE.out]⟩, bel_setCells b3 (by omega) _ _⟩
      exact World.rangeAt_setCells_same _ _ _ _ (p3.there (by simp [hlen2, hz5]))

end Go.Proofs.YtanghehmfagmfaaGreatDoor

/-
  The contract of package onetime's numberOf.
-/
namespace Go.Proofs.YtanghehmfagmfaaGreatDoor
open Go.RowKit
set_option linter.unusedVariables false
set_option maxRecDepth 100000

/-- One limb of a text's number. -/
def limbN (b : ByteArray) (k : Nat) : Int := littleS (b.extract (min (3 * k) b.size) b.size) / 2 ^ (2 * k) % 67108864
def nuL (b : ByteArray) : Nat → List Int
  | 0 => z5
  | k + 1 => (nuL b k).set k (limbN b k)
theorem nuL_len (b : ByteArray) : ∀ k, (nuL b k).length = 5
  | 0 => rfl
  | k + 1 => by rw [nuL, List.length_set, nuL_len b k]
theorem shr_le (v : Int) (k : Nat) (h : 0 ≤ v) : 0 ≤ v / 2 ^ k ∧ v / 2 ^ k ≤ v := by
  have hp : (0 : Int) < 2 ^ k := Int.pow_pos (by decide)
  exact ⟨Int.ediv_nonneg h (Int.le_of_lt hp), Int.ediv_le_self _ h⟩

set_option maxRecDepth 100000 in
set_option maxHeartbeats 1000000 in
theorem onetime_numberOf (b : ByteArray) (w : World) (hs : b.size ≤ 100) :
    Calls Tryz.prog 175 #[.string b] w fun e w' => e = .returned (.agg (cells64 (nuL b 5)).toArray) ∧ Below w.heap.size w w' := by
  obtain ⟨w2, hw2⟩ : ∃ w2, w2 = (w.alloc (.cells (cells64 z5).toArray 220)).alloc (.cells (cells64 z5).toArray 220) := ⟨_, rfl⟩
  have r1 : RowIs w2 w.heap.size 220 (cells64 z5) := hw2 ▸ (RowIs.new w _ _).alloc _
  have r2 : RowIs w2 (w.heap.size + 1) 220 (cells64 (nuL b 0)) := by
    have := RowIs.new (w.alloc (.cells (cells64 z5).toArray 220)) 220 (cells64 z5)
    rw [← hw2] at this
    simp at this
    exact this
  have b1 : Below w.heap.size w w2 := hw2 ▸ ((Below.refl _ _).alloc (Nat.le_refl _) _).alloc (by simp) _
  have HW2 : Hid ((w.alloc (.cells (cells64 z5).toArray 220)).alloc (.cells (cells64 z5).toArray 220) = w2) := hw2.symm
  clear hw2
  have hs1 : (w.alloc (.cells (cells64 z5).toArray 220)).heap.size = w.heap.size + 1 := by simp
  have HL : Hid (∀ (s : ByteArray) (w : World), s.size ≤ maxLen → Calls Tryz.prog 198 #[.string s] w fun e w' => e = .returned (.int .u64 (littleS s)) ∧ w = w') := octet_little
  go_enter Tryz.func175, Tryz.ntmps175
  go_wp2_with (first | (refine wpList_allocN rfl rfl run_alloc5 w.heap.size rfl ?_) | (refine wpList_allocN rfl rfl run_alloc5 (w.heap.size + 1) hs1 ?_; rw [HW2.out]))
  clear HW2 hs1
  go_loopw [6] (fun i wr => ∃ k : Nat, k ≤ 5 ∧ i = .int .i64 k ∧ RowIs wr w.heap.size 220 (cells64 z5) ∧ RowIs wr (w.heap.size + 1) 220 (cells64 (nuL b k)) ∧ Below w.heap.size w wr) (fun i _ => 5 - (intOf i).toNat)
  case atStart => exact ⟨0, by omega, rfl, r1, r2, b1⟩
  case round =>
    clear r1 r2 b1
    obtain ⟨k, hk, rfl, q1, q2, hbel⟩ := hrel
    by_cases hlt : k < 5
    · obtain ⟨v, hc⟩ : ∃ v, wr.cell? ⟨w.heap.size + 1, k, none⟩ = some v := ⟨_, q2.cellAt (List.getElem?_eq_getElem (by rw [cells64_len, nuL_len]; exact hlt))⟩
      have hz := q2.frozen k
      have HN : Hid (RowIs (wr.setCell ⟨w.heap.size + 1, k, none⟩ (.int .u64 (littleS (b.extract (min (3 * k) b.size) b.size) / 2 ^ (2 * k) % 67108864))) (w.heap.size + 1) 220 (cells64 (nuL b (k + 1)))) := by
        have := q2.set k (.int .u64 (limbN b k))
        rw [cells64_set] at this
        exact this
      have ht : (2 * (k : Int)).toNat = 2 * k := by omega
      have h64 : ¬ (64 ≤ 2 * k) := by omega
      have ht2 : 2 * (k : Int) < 64 := by omega
      have ht0 : 0 ≤ 2 * (k : Int) := by omega
      have Q1 : Hid _ := q1
      clear q1 q2
      by_cases h3 : b.size < 3 * k
      · rw [show min (3 * k) b.size = b.size from by omega, show b.extract b.size b.size = ByteArray.empty from by simp] at HN
        have hd3 : (b.size : Int) < 3 * (k : Int) := by omega
        have hbd := littleS_bd ByteArray.empty
        have hsh := shr_le (littleS ByteArray.empty) (2 * k) hbd.1
        have ha := and26 (littleS ByteArray.empty / 2 ^ (2 * k)) hsh.1 (by omega)
        have hb0 := hbd.1
        have hb1 := hbd.2
        have hlit := HL.out ByteArray.empty wr (by decide)
        clear hsh hbd
        generalize littleS ByteArray.empty = L at *
        go_wp2_with (first | (go_at_call 198; refine hlit.mono ?_; rintro e w' ⟨rfl, rfl⟩))
        go_roundw
        case rel => exact ⟨k + 1, by omega, by go_num, RowIs.setOther Q1.out (by simp) _, HN.out, hbel.setCell (by simp) _⟩
        case measure => simp [intOf]; omega
      · rw [show min (3 * k) b.size = 3 * k from by omega] at HN
        have hd3 : ¬ ((b.size : Int) < 3 * (k : Int)) := by omega
        have ht3 : (3 * (k : Int)).toNat = 3 * k := by omega
        have hsz : (b.extract (3 * k) b.size).size ≤ maxLen := by unfold maxLen; simp; omega
        have hbd := littleS_bd (b.extract (3 * k) b.size)
        have hsh := shr_le (littleS (b.extract (3 * k) b.size)) (2 * k) hbd.1
        have ha := and26 (littleS (b.extract (3 * k) b.size) / 2 ^ (2 * k)) hsh.1 (by omega)
        have hb0 := hbd.1
        have hb1 := hbd.2
        have hlit := HL.out (b.extract (3 * k) b.size) wr hsz
        clear hsh hbd hsz
        generalize littleS (b.extract (3 * k) b.size) = L at *
        go_wp2_with (first | (go_at_call 198; refine hlit.mono ?_; rintro e w' ⟨rfl, rfl⟩))
        go_roundw
        case rel => exact ⟨k + 1, by omega, by go_num, RowIs.setOther Q1.out (by simp) _, HN.out, hbel.setCell (by simp) _⟩
        case measure => simp [intOf]; omega
    · obtain rfl : k = 5 := by omega
      have hlen : (cells64 (nuL b 5)).length = 5 := by rw [cells64_len, nuL_len]
      have hone := all_oneCell_toArray (cells64_one (nuL b 5))
      obtain ⟨cs, hcs⟩ : ∃ cs, cs = cells64 (nuL b 5) := ⟨_, rfl⟩
      rw [← hcs] at q2 hlen hone
      have HE : Hid (cs = cells64 (nuL b 5)) := hcs
      clear hcs
      have hz5 : (cells64 z5).length = 5 := rfl
      go_wp2_with (first | (refine wpList_load_mid rfl 220 _ rfl (w.heap.size + 1) 0 rfl cs _ q2.all Tryz.underlying220 rfl (by rw [size5, hlen]) ?_) | (refine wpList_store_mid rfl 220 _ _ rfl w.heap.size 0 cs.toArray rfl rfl (q1.there (by simp [hlen, hz5])) (by rw [size5]; simp [hlen]) hone ?_))
      refine bodyPost_ret (v := .agg cs.toArray) (results_row rfl _ _ w.heap.size cs _ (by simp [Act.put]) ?_ Tryz.underlying220 rfl (by rw [size5, hlen])) rfl ⟨by rw [HE.out], bel_setCells hbel (by omega) _ _⟩
      exact World.rangeAt_setCells_same _ _ _ _ (q1.there (by simp [hlen, hz5]))

end Go.Proofs.YtanghehmfagmfaaGreatDoor

/-
  Plain facts: the number of a text's limbs; the least number; two words of a number.
-/
namespace Go.Proofs.YtanghehmfagmfaaGreatDoor
open Go.RowKit
set_option linter.unusedVariables false
set_option maxRecDepth 100000

theorem leV_cons (b : UInt8) (l : List UInt8) : leV (b :: l) = (b.toNat : Int) + 256 * leV l := rfl
theorem leV_append (a b : List UInt8) : leV (a ++ b) = leV a + 256 ^ a.length * leV b := by
  unfold leV
  rw [List.map_append, valD_append, List.length_map]
theorem leV_rev (l : List UInt8) : numOf l.reverse = leV l := by
  induction l with
  | nil => rfl
  | cons b l ih => rw [List.reverse_cons, numOf_snoc, ih, leV_cons]; omega
theorem leV_split (l : List UInt8) (n : Nat) : leV (l.take n) = leV l % 256 ^ n ∧ leV (l.drop n) = leV l / 256 ^ n := by
  by_cases h : n ≤ l.length
  · have e := leV_append (l.take n) (l.drop n)
    rw [List.take_append_drop, List.length_take, Nat.min_eq_left h] at e
    have b := leV_bd (l.take n)
    rw [List.length_take, Nat.min_eq_left h] at b
    have hp : (0 : Int) < 256 ^ n := Int.pow_pos (by decide)
    constructor
    · rw [e, Int.add_mul_emod_self_left, Int.emod_eq_of_lt b.1 b.2]
    · rw [e, Int.add_mul_ediv_left _ _ (by omega), Int.ediv_eq_zero_of_lt b.1 b.2, Int.zero_add]
  · rw [List.take_of_length_le (by omega), List.drop_of_length_le (by omega)]
    have b := leV_bd l
    have hp : (256 : Int) ^ l.length ≤ 256 ^ n := pow256_le _ _ (by omega)
    exact ⟨(Int.emod_eq_of_lt b.1 (by omega)).symm, (Int.ediv_eq_zero_of_lt b.1 (by omega)).symm⟩
theorem littleS_le (s : ByteArray) : littleS s = leV s.data.toList % 18446744073709551616 := by
  unfold littleS
  rw [leV_rev, (leV_split s.data.toList 8).1]
  rfl
theorem extract_list (b : ByteArray) (m : Nat) (h : m ≤ b.size) : (b.extract m b.size).data.toList = b.data.toList.drop m := by
  rw [ByteArray.data_extract, Array.toList_extract]
  rw [List.extract_eq_take_drop]
  exact List.take_of_length_le (by simp)
theorem little_from (b : ByteArray) (m : Nat) : littleS (b.extract (min m b.size) b.size) = leV b.data.toList / 256 ^ m % 18446744073709551616 := by
  rw [littleS_le, extract_list b _ (by omega), ← (leV_split b.data.toList m).2]
  congr 2
  by_cases h : m ≤ b.size
  · rw [Nat.min_eq_left h]
  · rw [List.drop_of_length_le (l := b.data.toList) (i := m) (by simp; omega), List.drop_of_length_le (by simp; omega)]

theorem nuL_five (b : ByteArray) : nuL b 5 = [limbN b 0, limbN b 1, limbN b 2, limbN b 3, limbN b 4] := rfl
theorem limb_of (b : ByteArray) : limbN b 0 = leV b.data.toList % 67108864 ∧ limbN b 1 = leV b.data.toList / 67108864 % 67108864 ∧ limbN b 2 = leV b.data.toList / 4503599627370496 % 67108864 ∧ limbN b 3 = leV b.data.toList / 302231454903657293676544 % 67108864 ∧ limbN b 4 = leV b.data.toList / 20282409603651670423947251286016 % 67108864 := by
  unfold limbN
  rw [little_from, little_from, little_from, little_from, little_from]
  generalize leV b.data.toList = v
  refine ⟨?_, ?_, ?_, ?_, ?_⟩
  · rw [show (256 : Int) ^ (3 * 0) = 1 from by decide, show (2 : Int) ^ (2 * 0) = 1 from by decide]; omega
  · rw [show (256 : Int) ^ (3 * 1) = 16777216 from by decide, show (2 : Int) ^ (2 * 1) = 4 from by decide]; omega
  · rw [show (256 : Int) ^ (3 * 2) = 281474976710656 from by decide, show (2 : Int) ^ (2 * 2) = 16 from by decide]; omega
  · rw [show (256 : Int) ^ (3 * 3) = 4722366482869645213696 from by decide, show (2 : Int) ^ (2 * 3) = 64 from by decide]; omega
  · rw [show (256 : Int) ^ (3 * 4) = 79228162514264337593543950336 from by decide, show (2 : Int) ^ (2 * 4) = 256 from by decide]; omega
theorem nuL_spec (b : ByteArray) (h : leV b.data.toList < 1361129467683753853853498429727072845824) : Fair (nuL b 5) ∧ valN (nuL b 5) = leV b.data.toList := by
  rw [nuL_five]
  obtain ⟨h0, h1, h2, h3, h4⟩ := limb_of b
  have hb := (leV_bd b.data.toList).1
  rw [h0, h1, h2, h3, h4]
  generalize leV b.data.toList = v at *
  clear h0 h1 h2 h3 h4
  refine ⟨⟨rfl, allB_five (by decide) (by omega) (by omega) (by omega) (by omega) (by omega)⟩, ?_⟩
  simp only [valN]
  omega

/-! The least number. -/
def fiveL : List Int := [5, 0, 0, 0, 0]
theorem fair_bd {y : List Int} (h : Fair y) : 0 ≤ valN y ∧ valN y < 1361129467683753853853498429727072845824 := by
  obtain ⟨hl, hb⟩ := h
  obtain ⟨a, b, c, d, e, rfl⟩ := five_of y hl
  have h0 := hb 0
  have h1 := hb 1
  have h2 := hb 2
  have h3 := hb 3
  have h4 := hb 4
  simp only [List.getD_cons_zero, List.getD_cons_succ] at h0 h1 h2 h3 h4
  simp only [valN]
  omega
/-- Carrying x + 5: 1 is carried out just if x reaches the modulus. -/
theorem more_five (y : List Int) (h : Fair y) : (carO (addL y fiveL 5) 5 = 0 ∧ valN y % p130 = valN y) ∨ (carO (addL y fiveL 5) 5 = 1 ∧ Fair (carL (addL y fiveL 5) 5) ∧ valN y % p130 = valN (carL (addL y fiveL 5) 5)) := by
  have hv := fair_bd h
  obtain ⟨hl, hb⟩ := h
  have hf : Fair (carL (addL y fiveL 5) 5) := ⟨by rw [carL_len, addL_len, hl], carL_lt _ (by rw [addL_len, hl])⟩
  have hfv := fair_bd hf
  obtain ⟨a, b, c, d, e, rfl⟩ := five_of y hl
  have h0 := hb 0
  have h1 := hb 1
  have h2 := hb 2
  have h3 := hb 3
  have h4 := hb 4
  simp only [List.getD_cons_zero, List.getD_cons_succ] at h0 h1 h2 h3 h4
  have e0 : addL [a, b, c, d, e] fiveL 5 = [a + 5, b + 0, c + 0, d + 0, e + 0] := rfl
  rw [e0] at hf hfv ⊢
  have e1 := carL_five (a + 5) (b + 0) (c + 0) (d + 0) (e + 0)
  have e2 := carO_five (a + 5) (b + 0) (c + 0) (d + 0) (e + 0)
  have hsum : valN (carL [a + 5, b + 0, c + 0, d + 0, e + 0] 5) + 1361129467683753853853498429727072845824 * carO [a + 5, b + 0, c + 0, d + 0, e + 0] 5 = valN [a, b, c, d, e] + 5 := by
    rw [e1, e2]
    simp only [valN]
    omega
  generalize carO [a + 5, b + 0, c + 0, d + 0, e + 0] 5 = O at *
  generalize valN (carL [a + 5, b + 0, c + 0, d + 0, e + 0] 5) = L at *
  generalize valN [a, b, c, d, e] = V at *
  have hO : O = 0 ∨ O = 1 := by omega
  have hr := rest_last V hv.1 hv.2
  rcases hO with rfl | rfl
  · left
    refine ⟨rfl, ?_⟩
    rw [hr, if_neg (by omega)]
  · right
    refine ⟨rfl, hf, ?_⟩
    rw [hr, if_pos (by omega)]
    omega

/-- Limbs taken over one by one. -/
def mixL (y z : List Int) : Nat → List Int
  | 0 => y
  | k + 1 => (mixL y z k).set k (z.getD k 0)
theorem mixL_len (y z : List Int) : ∀ k, (mixL y z k).length = y.length
  | 0 => rfl
  | k + 1 => by rw [mixL, List.length_set, mixL_len y z k]
theorem mixL_at (y z : List Int) (j : Nat) : ∀ k, k ≤ j → (mixL y z k).getD j 0 = y.getD j 0
  | 0, _ => rfl
  | k + 1, h => by
    rw [mixL, List.getD_eq_getElem?_getD, List.getElem?_set_ne (by omega), ← List.getD_eq_getElem?_getD]
    exact mixL_at y z j k (by omega)
theorem mixL_all (y z : List Int) (hy : y.length = 5) (hz : z.length = 5) : mixL y z 5 = z := by
  obtain ⟨a, b, c, d, e, rfl⟩ := five_of y hy
  obtain ⟨a', b', c', d', e', rfl⟩ := five_of z hz
  rfl
/-- What the mask takes. -/
theorem pick_none (X L : Int) (hX : 0 ≤ X ∧ X < 67108864) (hL : 0 ≤ L ∧ L < 67108864) : bits BinOp.andNot IntKind.u64 X 0 = X ∧ bits BinOp.and IntKind.u64 L 0 = 0 ∧ bits BinOp.or IntKind.u64 X 0 = X := by
  rw [u64_andNot _ _ hX.1 (by omega) (by decide) (by decide), u64_and _ _ hL.1 (by omega) (by decide) (by decide), u64_or _ _ hX.1 (by omega) (by decide) (by decide)]
  rw [show (18446744073709551615 - (0 : Int).toNat) = 2 ^ 64 - 1 from rfl, Nat.and_two_pow_sub_one_eq_mod]
  refine ⟨?_, ?_, ?_⟩
  · omega
  · simp
  · simp; omega
theorem pick_all (X L : Int) (hX : 0 ≤ X ∧ X < 67108864) (hL : 0 ≤ L ∧ L < 67108864) : bits BinOp.andNot IntKind.u64 X 18446744073709551615 = 0 ∧ bits BinOp.and IntKind.u64 L 18446744073709551615 = L ∧ bits BinOp.or IntKind.u64 0 L = L := by
  rw [u64_andNot _ _ hX.1 (by omega) (by decide) (by decide), u64_and _ _ hL.1 (by omega) (by decide) (by decide), u64_or _ _ (by decide) (by decide) hL.1 (by omega)]
  rw [show (18446744073709551615 : Int).toNat = 2 ^ 64 - 1 from rfl, Nat.and_two_pow_sub_one_eq_mod]
  refine ⟨?_, ?_, ?_⟩
  · simp
  · omega
  · simp; omega

end Go.Proofs.YtanghehmfagmfaaGreatDoor

/-
  The contract of package onetime's least.
-/
namespace Go.Proofs.YtanghehmfagmfaaGreatDoor
open Go.RowKit
set_option linter.unusedVariables false
set_option maxRecDepth 100000
set_option linter.unusedSimpArgs false

/-- What is picked, by the mask. -/
theorem least_pick (x : List Int) (h : Settled x) : ∃ (z : List Int) (T : Int), z.length = 5 ∧ Fair z ∧ valN z = valN x % p130 ∧ IntKind.u64.wrap (-carO (addL (setL x) fiveL 5) 5) = T ∧
    ∀ k, ∃ A B, bits BinOp.andNot IntKind.u64 ((setL x).getD k 0) T = A ∧ bits BinOp.and IntKind.u64 ((carL (addL (setL x) fiveL 5) 5).getD k 0) T = B ∧ bits BinOp.or IntKind.u64 A B = z.getD k 0 := by
  obtain ⟨hf, hv⟩ := setL_fair x h
  have hl : (carL (addL (setL x) fiveL 5) 5).length = 5 := by rw [carL_len, addL_len]; exact hf.1
  have hL := carL_lt (addL (setL x) fiveL 5) (by rw [addL_len]; exact hf.1)
  rcases more_five _ hf with ⟨h0, h1⟩ | ⟨h0, h1, h2⟩
  · refine ⟨setL x, 0, hf.1, hf, by rw [← h1, hv], by rw [h0]; rfl, fun k => ⟨_, _, rfl, rfl, ?_⟩⟩
    have := pick_none _ _ (hf.2 k) (hL k)
    rw [this.1, this.2.1, this.2.2]
  · refine ⟨carL (addL (setL x) fiveL 5) 5, 18446744073709551615, hl, h1, by rw [← h2, hv], by rw [h0]; rfl, fun k => ⟨_, _, rfl, rfl, ?_⟩⟩
    have := pick_all _ _ (hf.2 k) (hL k)
    rw [this.1, this.2.1, this.2.2]
theorem addL_bd {x y : List Int} {m n : Int} (hl : x.length = 5) (hy : y.length = 5) (hx : allB x m) (hy2 : allB y n) : allB (addL x y 5) (m + n) := by
  obtain ⟨a, b, c, d, e, rfl⟩ := five_of x hl
  obtain ⟨a', b', c', d', e', rfl⟩ := five_of y hy
  have h0 := hx 0
  have h1 := hx 1
  have h2 := hx 2
  have h3 := hx 3
  have h4 := hx 4
  have g0 := hy2 0
  have g1 := hy2 1
  have g2 := hy2 2
  have g3 := hy2 3
  have g4 := hy2 4
  simp only [List.getD_cons_zero, List.getD_cons_succ] at h0 h1 h2 h3 h4 g0 g1 g2 g3 g4
  rw [show addL [a, b, c, d, e] [a', b', c', d', e'] 5 = [a + a', b + b', c + c', d + d', e + e'] from rfl]
  exact allB_five (by omega) (by omega) (by omega) (by omega) (by omega) (by omega)

set_option maxRecDepth 100000 in
set_option maxHeartbeats 2000000 in
theorem onetime_least (x : List Int) (w : World) (h : Settled x) :
    Calls Tryz.prog 179 #[.agg (cells64 x).toArray] w fun e w' => (∃ y, Fair y ∧ valN y = valN x % p130 ∧ e = .returned (.agg (cells64 y).toArray)) ∧ Below w.heap.size w w' := by
  obtain ⟨w2, hw2⟩ : ∃ w2, w2 = (w.alloc (.cells (cells64 x).toArray 220)).alloc (.cells (cells64 z5).toArray 220) := ⟨_, rfl⟩
  have r1 : RowIs w2 w.heap.size 220 (cells64 x) := hw2 ▸ (RowIs.new w _ _).alloc _
  have r2 : RowIs w2 (w.heap.size + 1) 220 (cells64 z5) := by
    have := RowIs.new (w.alloc (.cells (cells64 x).toArray 220)) 220 (cells64 z5)
    rw [← hw2] at this
    simpa using this
  have b1 : Below w.heap.size w w2 := hw2 ▸ ((Below.refl _ _).alloc (Nat.le_refl _) _).alloc (by simp) _
  have s2 : w2.heap.size = w.heap.size + 1 + 1 := by rw [hw2]; simp
  have HW2 : Hid ((w.alloc (.cells (cells64 x).toArray 220)).alloc (.cells (cells64 z5).toArray 220) = w2) := hw2.symm
  clear hw2
  have hs1 : (w.alloc (.cells (cells64 x).toArray 220)).heap.size = w.heap.size + 1 := by simp
  obtain ⟨z, T, hzl, hzf, hzv, hT, hpick⟩ := least_pick x h
  have hxl : x.length = 5 := h.1
  have hxb : allB x 67141632 := h.2.1
  have hyb : allB (setL x) 67108864 := (setL_fair x h).1.2
  have hyl : (setL x).length = 5 := by rw [setL_len, hxl]
  have hfb : allB fiveL 6 := allB_five (by decide) ⟨by decide, by decide⟩ ⟨by decide, by decide⟩ ⟨by decide, by decide⟩ ⟨by decide, by decide⟩ ⟨by decide, by decide⟩
  have HSE : Hid (∀ w : World, Calls Tryz.prog 199 #[.agg (cells64 x).toArray] w fun e w' => e = .returned (.agg (cells64 (setL x)).toArray) ∧ Below w.heap.size w w') := fun w => onetime_settle x w hxl (allB_mono hxb (by decide))
  have HPL : Hid (∀ w : World, Calls Tryz.prog 177 #[.agg (cells64 (setL x)).toArray, .agg (cells64 fiveL).toArray] w fun e w' => e = .returned (.agg (cells64 (addL (setL x) fiveL 5)).toArray) ∧ Below w.heap.size w w') := fun w => onetime_plus (setL x) fiveL w hyl rfl (allB_mono hyb (by decide)) (allB_mono hfb (by decide))
  have hsl : (addL (setL x) fiveL 5).length = 5 := by rw [addL_len, hyl]
  have hsb : allB (addL (setL x) fiveL 5) 67108870 := addL_bd hyl rfl hyb hfb
  have HCA : Hid (∀ w : World, Calls Tryz.prog 202 #[.agg (cells64 (addL (setL x) fiveL 5)).toArray] w fun e w' => e = .returned (.tuple #[.agg (cells64 (carL (addL (setL x) fiveL 5) 5)).toArray, .int .u64 (carO (addL (setL x) fiveL 5) 5)]) ∧ Below w.heap.size w w') := fun w => onetime_carry _ w hsl (allB_mono hsb (by decide))
  have hll : (carL (addL (setL x) fiveL 5) 5).length = 5 := by rw [carL_len, hsl]
  have HZ : Hid (Fair z ∧ valN z = valN x % p130) := ⟨hzf, hzv⟩
  have ho := carO_bd (addL (setL x) fiveL 5) (allB_mono hsb (by decide)) 5
  have ho0 := ho.1
  have ho1 := ho.2
  clear hxb hyb hfb hsb h hzf hzv hsl ho
  have hlx : (cells64 x).length = 5 := by rw [cells64_len, hxl]
  clear hxl
  generalize carO (addL (setL x) fiveL 5) 5 = O at *
  generalize carL (addL (setL x) fiveL 5) 5 = l at *
  generalize addL (setL x) fiveL 5 = s at *
  generalize setL x = y at *
  have hly : (cells64 y).length = 5 := by rw [cells64_len, hyl]
  have hoy := all_oneCell_toArray (cells64_one y)
  have hlc : (cells64 l).length = 5 := by rw [cells64_len, hll]
  have hol := all_oneCell_toArray (cells64_one l)
  have hz5 : (cells64 z5).length = 5 := rfl
  obtain ⟨cx, hcx⟩ : ∃ cx, cx = cells64 x := ⟨_, rfl⟩
  rw [← hcx] at r1 HW2 hs1 HSE hlx ⊢
  have HZV : Hid (valN x = valN x) := rfl
  clear hcx
  have HP : Hid (∀ k : Nat, ∃ A B, bits BinOp.andNot IntKind.u64 (y.getD k 0) T = A ∧ bits BinOp.and IntKind.u64 (l.getD k 0) T = B ∧ bits BinOp.or IntKind.u64 A B = z.getD k 0) := hpick
  clear hpick
  go_enter Tryz.func179, Tryz.ntmps179
  go_wp2_with (first | (refine wpList_boxN (z := cx.toArray) rfl rfl rfl w.heap.size rfl ?_) | (refine wpList_allocN rfl rfl run_alloc5 (w.heap.size + 1) hs1 ?_; rw [HW2.out]) | (refine wpList_load_mid rfl 220 _ rfl w.heap.size 0 rfl cx _ r1.all Tryz.underlying220 rfl (by rw [size5, hlx]) ?_))
  refine (HSE.out _).mono ?_
  rintro e w3 ⟨rfl, b2⟩
  have p1 : RowIs w3 w.heap.size 220 cx := r1.below b2 (by omega)
  have p2 : RowIs w3 (w.heap.size + 1) 220 (cells64 z5) := r2.below b2 (by omega)
  have b3 : Below w.heap.size w w3 := b1.trans (b2.mono b1.size)
  have s3 : w.heap.size + 1 + 1 ≤ w3.heap.size := by have := b2.size; omega
  clear r1 r2 b1 b2 s2 HW2 hs1
  have HT : Hid (w3.there w.heap.size 0 (cells64 y).toArray.size) := p1.there (by simp [hly, hlx])
  generalize hw4 : w3.setCells w.heap.size 0 (cells64 y) = w4
  have q1 : RowIs w4 w.heap.size 220 (cells64 y) := hw4 ▸ p1.putAll (by rw [hly, hlx])
  have q2 : RowIs w4 (w.heap.size + 1) 220 (cells64 z5) := (hw4 ▸ (Upon.refl w.heap.size _).setCells 0 (cells64 y) : Upon w.heap.size _ w4).row p2 (by simp)
  have q3 : Below w.heap.size w w4 := hw4 ▸ bel_setCells b3 (Nat.le_refl _) 0 (cells64 y)
  have s4 : w.heap.size + 1 + 1 ≤ w4.heap.size := by rw [← hw4, size_setCells]; exact s3
  have HW4 : Hid (w3.setCells w.heap.size 0 (cells64 y).toArray.toList = w4) := hw4
  clear hw4 p1 p2 b3 s3
  have hys : (Tryz.prog.info? 220).map (·.size) = some (cells64 y).toArray.size := by rw [size5]; simp [hly]
  have Q1 : Hid _ := q1.all
  go_wp2_with (first | (refine wpList_store_mid rfl 220 _ _ rfl w.heap.size 0 (cells64 y).toArray rfl rfl ?_ hys hoy ?_; exact HT.out; rw [HW4.out]) | (refine wpList_load_mid rfl 220 _ rfl w.heap.size 0 rfl (cells64 y) _ ?_ Tryz.underlying220 rfl (by rw [size5, hly]) ?_; exact Q1.out) | (refine wpList_build rfl 220 _ rfl (cells64 fiveL).toArray (by kernel_rfl) ?_))
  refine (HPL.out _).mono ?_
  rintro e w5 ⟨rfl, b5⟩
  go_wp2_with fail
  refine (HCA.out _).mono ?_
  rintro e w6 ⟨rfl, b6⟩
  have p1 : RowIs w6 w.heap.size 220 (cells64 y) := (q1.below b5 (by omega)).below b6 (by have := b5.size; omega)
  have p2 : RowIs w6 (w.heap.size + 1) 220 (cells64 z5) := (q2.below b5 (by omega)).below b6 (by have := b5.size; omega)
  have b7 : Below w.heap.size w w6 := (q3.trans (b5.mono q3.size)).trans (b6.mono (by have := q3.size; have := b5.size; omega))
  have s6 : w.heap.size + 1 + 1 ≤ w6.heap.size := by have := b5.size; have := b6.size; omega
  clear q1 q2 q3 b5 b6 s4 Q1 HT HW4 hys hoy
  have HW7 : Hid (∃ g, g = w6.heap.size) := ⟨_, rfl⟩
  obtain ⟨g, hg⟩ := HW7.out
  have HG : Hid (w6.heap.size = g) := hg.symm
  rw [← hg] at s6
  obtain ⟨w7, hw7⟩ : ∃ w7, w7 = w6.alloc (.cells (cells64 z5).toArray 220) := ⟨_, rfl⟩
  have t1 : RowIs w7 w.heap.size 220 (cells64 y) := hw7 ▸ p1.alloc _
  have t2 : RowIs w7 (w.heap.size + 1) 220 (cells64 z5) := hw7 ▸ p2.alloc _
  have t3 : RowIs w7 g 220 (cells64 z5) := by
    have := RowIs.new w6 220 (cells64 z5)
    rw [← hw7, ← hg] at this
    exact this
  have b8 : Below w.heap.size w w7 := hw7 ▸ b7.alloc (by omega) _
  have HA : Hid (w6.alloc (.cells (cells64 z5).toArray 220) = w7) := hw7.symm
  clear hw7 hg HW7 p1 p2 b7
  have HT : Hid (w7.there g 0 (cells64 l).toArray.size) := t3.there (by simp [hlc, hz5])
  generalize hw8 : w7.setCells g 0 (cells64 l) = w8
  have u1 : RowIs w8 w.heap.size 220 (cells64 (mixL y z 0)) := (hw8 ▸ (Upon.refl g _).setCells 0 (cells64 l) : Upon g _ w8).row t1 (by omega)
  have u2 : RowIs w8 (w.heap.size + 1) 220 (cells64 z5) := (hw8 ▸ (Upon.refl g _).setCells 0 (cells64 l) : Upon g _ w8).row t2 (by omega)
  have u3 : RowIs w8 g 220 (cells64 l) := hw8 ▸ t3.putAll (by rw [hlc, hz5])
  have b9 : Below w.heap.size w w8 := hw8 ▸ bel_setCells b8 (by omega) 0 (cells64 l)
  have HW8 : Hid (w7.setCells g 0 (cells64 l).toArray.toList = w8) := hw8
  clear hw8 t1 t2 t3 b8
  have hls : (Tryz.prog.info? 220).map (·.size) = some (cells64 l).toArray.size := by rw [size5]; simp [hlc]
  go_wp2_with (first | (refine wpList_allocN rfl rfl run_alloc5 g HG.out ?_; rw [HA.out]) | (refine wpList_store_mid rfl 220 _ _ rfl g 0 (cells64 l).toArray rfl rfl ?_ hls hol ?_; exact HT.out; rw [HW8.out]))
  clear HT HW8 hls hol HA HG HCA HPL HSE hT ho0 ho1
  go_loopw [18] (fun i wr => ∃ k : Nat, k ≤ 5 ∧ i = .int .i64 k ∧ RowIs wr w.heap.size 220 (cells64 (mixL y z k)) ∧ RowIs wr (w.heap.size + 1) 220 (cells64 z5) ∧ RowIs wr g 220 (cells64 l) ∧ Below w.heap.size w wr) (fun i _ => 5 - (intOf i).toNat)
  case atStart => exact ⟨0, by omega, rfl, u1, u2, u3, b9⟩
  case round =>
    clear u1 u2 u3 b9
    obtain ⟨k, hk, rfl, q1, q2, q3, hbel⟩ := hrel
    by_cases hlt : k < 5
    · have hc := q1.cellAt (cells64_at (mixL y z k) k (by rw [mixL_len]; omega))
      rw [mixL_at y z k k (Nat.le_refl _)] at hc
      have hz := q1.frozen k
      have hc2 := q3.cellAt (cells64_at l k (by omega))
      obtain ⟨A, B, hA, hB, hAB⟩ := HP.out k
      have HN : Hid (RowIs (wr.setCell ⟨w.heap.size, k, none⟩ (.int .u64 (z.getD k 0))) w.heap.size 220 (cells64 (mixL y z (k + 1)))) := by
        have := q1.set k (.int .u64 (z.getD k 0))
        rw [cells64_set] at this
        exact this
      have Q2 : Hid _ := q2
      have Q3 : Hid _ := q3
      clear q1 q2 q3
      have hne : w.heap.size ≠ g := by omega
      generalize y.getD k 0 = X at *
      generalize l.getD k 0 = L at *
      generalize z.getD k 0 = Z at *
      go_wp2
      go_region
      go_wp2
      go_roundw
      case rel => exact ⟨k + 1, by omega, by go_num, HN.out, RowIs.setOther Q2.out (by show w.heap.size + 1 ≠ w.heap.size; omega) _, RowIs.setOther Q3.out (by show g ≠ w.heap.size; omega) _, (hbel.setCell (Nat.le_refl _) _).drew⟩
      case measure => simp [intOf]; omega
    · obtain rfl : k = 5 := by omega
      rw [mixL_all y z hyl hzl] at q1
      have hlen : (cells64 z).length = 5 := by rw [cells64_len, hzl]
      have hone := all_oneCell_toArray (cells64_one z)
      obtain ⟨cs, hcs⟩ : ∃ cs, cs = cells64 z := ⟨_, rfl⟩
      rw [← hcs] at q1 hlen hone
      have HE : Hid (cs = cells64 z) := hcs
      clear hcs
      go_wp2_with (first | (refine wpList_load_mid rfl 220 _ rfl w.heap.size 0 rfl cs _ q1.all Tryz.underlying220 rfl (by rw [size5, hlen]) ?_) | (refine wpList_store_mid rfl 220 _ _ rfl (w.heap.size + 1) 0 cs.toArray rfl rfl (q2.there (by simp [hlen, hz5])) (by rw [size5]; simp [hlen]) hone ?_))
      refine bodyPost_ret (v := .agg cs.toArray) (results_row rfl _ _ (w.heap.size + 1) cs _ (by simp [Act.put]) ?_ Tryz.underlying220 rfl (by rw [size5, hlen])) rfl ⟨⟨z, HZ.out.1, HZ.out.2, by rw [HE.out]⟩, bel_setCells hbel (by omega) _ _⟩
      exact World.rangeAt_setCells_same _ _ _ _ (q2.there (by simp [hlen, hz5]))

end Go.Proofs.YtanghehmfagmfaaGreatDoor
