/-
  Numbers of five limbs of 26 bits: plain facts, and the contracts of package onetime's carry and plus.
-/
import Derived.Test.YtjccdfnhcifgiaaPoly0
import Derived.Test.YtjccdfnhcifgiaaSha2
import Derived.Test.YtjccdfnhcifgiaaOct4
import Derived.RegionTactic
namespace Go.Proofs.Ytjccdfnhcifgiaa
open Go.RowKit
set_option linter.unusedVariables false
set_option maxRecDepth 100000

def cells64 (l : List Int) : List Value := l.map (Value.int .u64)
theorem cells64_len (l : List Int) : (cells64 l).length = l.length := by simp [cells64]
theorem cells64_one (l : List Int) : ∀ v ∈ cells64 l, v.oneCell' = true := by
  intro v hv
  obtain ⟨x, _, rfl⟩ := List.mem_map.1 hv
  rfl
theorem cells64_at (l : List Int) (j : Nat) (h : j < l.length) : (cells64 l)[j]? = some (.int .u64 (l.getD j 0)) := by
  simp [cells64, h, List.getD_eq_getElem?_getD]
theorem cells64_set (l : List Int) (j : Nat) (v : Int) : (cells64 l).set j (.int .u64 v) = cells64 (l.set j v) := by simp [cells64, List.map_set]
def z5 : List Int := List.replicate 5 0
theorem z5_len : z5.length = 5 := rfl
theorem size5 : (Try.prog.info? 37).map (·.size) = some 5 := by kernel_rfl
theorem zero5 : (Try.prog.info? 37).map (·.zero) = some (some (.agg (cells64 z5).toArray)) := by kernel_rfl
theorem run_alloc5 (w : World) : (Instr.alloc 37 true (.tuple #[])).run Try.prog w = .ok (.pointer (some ⟨w.heap.size, 0, none⟩)) (w.alloc (.cells (cells64 z5).toArray 37)) := by
  obtain ⟨i, hi, hz⟩ := zero_parts zero5
  exact run_alloc_zero _ i _ hi hz w
/-- A variable that holds an array handed over. -/
theorem wpList_boxN {P : Program} {ops : Array Oper} {rest : List Oper} {op : Oper} {a : Act} {w : World} {Q : Exit → Act → World → Prop} {t : TypeId} {x : Operand} {z : Array Value} (hgd : op.guard = none) (ho : op.op = .box t x)
    (hx : a.eval x = .agg z) (n : Nat) (hn : w.heap.size = n)
    (h : wpList P ops Q rest (a.put op.dst (.pointer (some ⟨n, 0, none⟩))) (w.alloc (.cells z t))) : wpList P ops Q (op :: rest) a w := by
  subst hn
  refine wpList_plain hgd fun K hK => ?_
  unfold Oper.wp execOp
  simp only [ho, hx, Value.cells, Sem.run_bind, Instr.box, newVar, newRow, run_newObj_alloc, Sem.run_pure, Result.andThen_ok]
  exact hK _ _ h
theorem RowIs.all {w : World} {g : Nat} {t : TypeId} {l : List Value} (h : RowIs w g t l) : w.rangeAt g 0 l := h.range (by rw [List.drop_zero, List.take_length])
theorem RowIs.putAll {w : World} {g : Nat} {t : TypeId} {l vs : List Value} (h : RowIs w g t l) (hv : vs.length = l.length) : RowIs (w.setCells g 0 vs) g t vs := by
  have := h.sets vs 0 (by omega)
  have e : putAt l 0 vs = vs := by unfold putAt; rw [List.take_zero, List.nil_append, Nat.zero_add, List.drop_of_length_le (by omega), List.append_nil]
  rwa [e] at this
/-- A number and a word, told together. -/
theorem results_row_tmp {P : Program} {fn : Func} {p q : Tmp} {ty : TypeId} (h : fn.results = #[.cell p ty, .tmp q]) (tmps : Array Value) (w : World) (g : Nat) (cs : List Value) (d : TypeDesc)
    (hp : tmps[p]?.getD undef = .pointer (some ⟨g, 0, none⟩)) (u : Value) (hq : tmps[q]?.getD undef = u) (hc : w.rangeAt g 0 cs) (hu : P.underlying ty = some d) (hd : d.isRow = true) (hi : (P.info? ty).map (·.size) = some cs.length) :
    (results fn tmps).run P w = .ok (.tuple #[.agg cs.toArray, u]) w := by
  simp [results, h, hp, hq, asAddr, run_loadVar_mid w g 0 ty cs d hc hu hd hi]

theorem and26 (v : Int) (h0 : 0 ≤ v) (h1 : v < 18446744073709551616) : bits BinOp.and IntKind.u64 v 67108863 = v % 67108864 := by
  rw [u64_and _ _ h0 h1 (by omega) (by omega), show (67108863 : Int).toNat = 67108863 from rfl, nat_mask26]
  omega

/-- What is carried into limb k. -/
def carO (x : List Int) : Nat → Int
  | 0 => 0
  | k + 1 => (carO x k + x.getD k 0) / 67108864
/-- The limbs, the first k of them settled. -/
def carL (x : List Int) : Nat → List Int
  | 0 => x
  | k + 1 => (carL x k).set k ((carO x k + x.getD k 0) % 67108864)
theorem carL_len (x : List Int) : ∀ k, (carL x k).length = x.length
  | 0 => rfl
  | k + 1 => by rw [carL, List.length_set, carL_len x k]
theorem carL_at (x : List Int) (j : Nat) : ∀ k, k ≤ j → (carL x k).getD j 0 = x.getD j 0
  | 0, _ => rfl
  | k + 1, h => by
    rw [carL, List.getD_eq_getElem?_getD, List.getElem?_set_ne (by omega), ← List.getD_eq_getElem?_getD]
    exact carL_at x j k (by omega)
/-- Limbs below 2^63. -/
def allB (x : List Int) (n : Int) : Prop := ∀ j, 0 ≤ x.getD j 0 ∧ x.getD j 0 < n
theorem carO_bd (x : List Int) (h : allB x 9223372036854775808) : ∀ k, 0 ≤ carO x k ∧ carO x k < 274877906944
  | 0 => ⟨Int.le_refl 0, show (0 : Int) < 274877906944 by decide⟩
  | k + 1 => by
    have h1 := carO_bd x h k
    have h2 := h k
    simp only [carO]
    omega

set_option maxHeartbeats 1000000 in
theorem onetime_carry (x : List Int) (w : World) (hl : x.length = 5) (hb : allB x 9223372036854775808) :
    Calls Try.prog 32 #[.agg (cells64 x).toArray] w fun e w' => e = .returned (.tuple #[.agg (cells64 (carL x 5)).toArray, .int .u64 (carO x 5)]) ∧ Below w.heap.size w w' := by
  have r1 : RowIs ((w.alloc (.cells (cells64 x).toArray 37)).alloc (.cells (cells64 z5).toArray 37)) w.heap.size 37 (cells64 (carL x 0)) := (RowIs.new w _ _).alloc _
  have r2 : RowIs ((w.alloc (.cells (cells64 x).toArray 37)).alloc (.cells (cells64 z5).toArray 37)) (w.heap.size + 1) 37 (cells64 z5) := by
    have := RowIs.new (w.alloc (.cells (cells64 x).toArray 37)) 37 (cells64 z5)
    simpa using this
  have b1 : Below w.heap.size w ((w.alloc (.cells (cells64 x).toArray 37)).alloc (.cells (cells64 z5).toArray 37)) := ((Below.refl _ _).alloc (Nat.le_refl _) _).alloc (by simp) _
  obtain ⟨cx, hcx⟩ : ∃ cx, cx = (cells64 x).toArray := ⟨_, rfl⟩
  rw [← hcx] at r1 r2 b1 ⊢
  clear hcx
  go_enter Try.func32, Try.ntmps32
  go_wp2_with (first | (refine wpList_boxN (z := cx) rfl rfl rfl w.heap.size rfl ?_) | (refine wpList_allocN rfl rfl run_alloc5 (w.heap.size + 1) (by simp) ?_))
  generalize (w.alloc (.cells cx 37)).alloc (.cells (cells64 z5).toArray 37) = w2 at *
  go_loopw [4, 6] (fun c i wr => ∃ k : Nat, k ≤ 5 ∧ i = .int .i64 k ∧ c = .int .u64 (carO x k) ∧ RowIs wr w.heap.size 37 (cells64 (carL x k)) ∧ RowIs wr (w.heap.size + 1) 37 (cells64 z5) ∧ Below w.heap.size w wr) (fun _ i _ => 5 - (intOf i).toNat)
  case atStart => exact ⟨0, by omega, rfl, rfl, r1, r2, b1⟩
  case round =>
    clear r1 r2 b1
    obtain ⟨k, hk, rfl, rfl, q1, q2, hbel⟩ := hrel
    by_cases hlt : k < 5
    · have hc := q1.cellAt (cells64_at (carL x k) k (by rw [carL_len]; omega))
      rw [carL_at x k k (Nat.le_refl _)] at hc
      have hz := q1.frozen k
      have hB := hb k
      have hO := carO_bd x hb k
      have hx0 := hB.1
      have hx1 := hB.2
      have ho0 := hO.1
      have ho1 := hO.2
      have ha := and26 (carO x k + x.getD k 0) (by omega) (by omega)
      have HN : Hid (RowIs (wr.setCell ⟨w.heap.size, k, none⟩ (.int .u64 ((carO x k + x.getD k 0) % 67108864))) w.heap.size 37 (cells64 (carL x (k + 1)))) := by
        have := q1.set k (.int .u64 ((carO x k + x.getD k 0) % 67108864))
        rw [cells64_set] at this
        exact this
      have HO : Hid ((carO x k + x.getD k 0) / 67108864 = carO x (k + 1)) := rfl
      clear hB hO
      have HQ2 : Hid (RowIs wr (w.heap.size + 1) 37 (cells64 z5)) := q2
      clear q1 q2
      generalize carO x k = C at *
      generalize x.getD k 0 = X at *
      go_wp2
      go_roundw
      case rel => exact ⟨k + 1, by omega, by go_num, by rw [← HO.out], HN.out, HQ2.out.setOther (by simp) _, hbel.setCell (Nat.le_refl _) _⟩
      case measure => simp [intOf]; omega
    · obtain rfl : k = 5 := by omega
      have hlen : (cells64 (carL x 5)).length = 5 := by rw [cells64_len, carL_len, hl]
      have hone := all_oneCell_toArray (cells64_one (carL x 5))
      obtain ⟨cs, hcs⟩ : ∃ cs, cs = cells64 (carL x 5) := ⟨_, rfl⟩
      rw [← hcs] at q1 hlen hone
      have HE : Hid (cs = cells64 (carL x 5)) := hcs
      clear hcs
      have HC : Hid (carO x 5 = carO x 5) := rfl
      generalize hC : carO x 5 = C at HC ⊢
      replace HC : Hid (C = carO x 5) := hC.symm
      clear hC
      have hz5 : (cells64 z5).length = 5 := rfl
      go_wp2_with (first | (refine wpList_load_mid rfl 37 _ rfl w.heap.size 0 rfl cs _ q1.all Try.underlying37 rfl (by rw [size5, hlen]) ?_) | (refine wpList_store_mid rfl 37 _ _ rfl (w.heap.size + 1) 0 cs.toArray rfl rfl (q2.there (by simp [hlen, hz5])) (by rw [size5]; simp [hlen]) hone ?_))
      refine bodyPost_ret (v := .tuple #[.agg cs.toArray, .int .u64 C]) (results_row_tmp rfl _ _ (w.heap.size + 1) cs _ (by simp) (.int .u64 C) (by simp) ?_ Try.underlying37 rfl (by rw [size5, hlen])) rfl ⟨by rw [HE.out, HC.out], bel_setCells hbel (by omega) _ _⟩
      exact World.rangeAt_setCells_same _ _ _ _ (q2.there (by simp [hlen, hz5]))

end Go.Proofs.Ytjccdfnhcifgiaa
