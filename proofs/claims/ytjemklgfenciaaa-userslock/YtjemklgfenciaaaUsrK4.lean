/-
  Package users: a user is put into the map: New's region that draws its order.
-/
import Derived.Test.YtjemklgfenciaaaUsrK2
import Derived.Test.YtjemklgfenciaaaReg2
import Derived.Test.YtjemklgfenciaaaReg8
namespace Go.Proofs.Ytjemklgfenciaaa
open Go.RowKit
set_option linter.unusedVariables false
set_option maxRecDepth 100000
set_option linter.unusedSimpArgs false

theorem run_moveK {P : Program} {a : Act} {o : Oper} {x : Operand} {v : Value} (ho : o.op = .move x) (hx : a.eval x = v) (w : World) : (execOp a.eval o).run P w = .ok (.value v) w := by
  subst hx
  unfold execOp
  simp [ho]
theorem run_buildK {P : Program} {a : Act} {o : Oper} {t : TypeId} {parts : Array (Nat × Operand)} {cells : Array Value} (ho : o.op = .build t parts) (w : World) (h : P.built t (parts.map fun (i, x) => (i, a.eval x)).toList = some cells) : (execOp a.eval o).run P w = .ok (.value (.agg cells)) w := by
  unfold execOp
  simp only [ho, Sem.run_bind, run_build w t _ cells h, Result.andThen_ok]
  rfl
theorem run_boxK {P : Program} {a : Act} {o : Oper} {t : TypeId} {x : Operand} {z : Array Value} (ho : o.op = .box t x) (hx : a.eval x = .agg z) (w : World) : (execOp a.eval o).run P w = .ok (.value (.pointer (some ⟨w.heap.size, 0, none⟩))) (w.alloc (.cells z t)) := by
  unfold execOp
  simp only [ho, hx, Value.cells, Sem.run_bind, Instr.box, newVar, newRow, run_newObj_alloc, Sem.run_pure, Result.andThen_ok]
theorem run_updateK {P : Program} {a : Act} {o : Oper} {t : TypeId} {m x v : Operand} {mv xv vv : Value} {w w' : World} (ho : o.op = .mapUpdate t m x v) (hm : a.eval m = mv) (hx : a.eval x = xv) (hv : a.eval v = vv) (h : (Instr.mapUpdate t mv xv vv).run P w = .ok () w') :
    (execOp a.eval o).run P w = .ok .skip w' := by
  unfold execOp
  simp only [ho, hm, hx, hv, Sem.run_bind, h]
  rfl
theorem builtAcc (S : ByteArray) : Try.prog.built 58 [(0, .string S)] = some #[.string S, .int .i64 0, .int .u32 0, .int .i64 0] := by kernel_rfl
def newL : List (Option Tmp × Op) :=
  [(some 32, .move (.tmp 4)), (some 33, .nilCheck (.tmp 32)), (some 34, .fieldAddr 45 (.tmp 33) 0), (some 35, .load 43 (.tmp 34)),
   (some 36, .fieldAddr 29 (.tmp 6) 0), (some 37, .load 9 (.tmp 36)), (some 38, .call { callee := .value (.func 17), args := #[.tmp 37], argTypes := #[9] }),
   (some 39, .fieldAddr 29 (.tmp 6) 1), (some 40, .load 9 (.tmp 39)), (some 41, .call { callee := .value (.func 17), args := #[.tmp 40], argTypes := #[9] }),
   (some 42, .build 58 #[(0, .tmp 41)]), (some 43, .box 58 (.tmp 42)), (none, .mapUpdate 43 (.tmp 35) (.tmp 38) (.tmp 43))]
def newW : List (List Nat) := [[], [0], [1], [2], [], [4], [5], [], [7], [6, 8], [9], [10], [0, 1, 2, 3, 4, 5, 6, 7, 8, 9, 10, 11]]

set_option maxHeartbeats 2000000 in
theorem new_region {id : Nat} {ops : Array Oper} {Q : Exit → Act → World → Prop} {a0 : Act} {w : World} {p m g nn : Nat} {D : DataW Unit} {A S : ByteArray} (hok : regOk ops 46 = true) (hk : kinds ops = newL) (hL : waitsL ops = newW) (hsz : a0.tmps.size = 46)
    (h4 : a0.eval (.tmp 4) = .pointer (some ⟨p, 0, none⟩)) (h6 : a0.eval (.tmp 6) = .pointer (some ⟨g, 0, none⟩))
    (hp : RowIs w p 45 [.map (some m)]) (hg : RowIs w g 29 [.string A, .string S]) (hmp : w.ownsMap Try.prog 9 RefB0 m nn D) (hnn : nn < 20) (hA : A.size ≤ 1000000) (hS : S.size ≤ 1000000)
    (hend : ∀ v1 v2 v3 v4 v5 v6 v7 v8 v9 v10 v11 v12 w1 w2 q, Below w.heap.size w w1 → w.heap.size ≤ q → RowIs w1 q 58 (accRow ⟨A, S, 0, false, 0⟩) → w2.ownsMap Try.prog 9 RefB0 m (nn + 1) (D.put (keyB A) (.lit (.int .i64 (q : Int)))) → w1.grownBy w2 (some m) →
      Q .normal ((((((((((((a0.put (some 32) v1).put (some 33) v2).put (some 34) v3).put (some 35) v4).put (some 36) v5).put (some 37) v6).put (some 38) v7).put (some 39) v8).put (some 40) v9).put (some 41) v10).put (some 42) v11).put (some 43) v12) w2) :
    (Code.region id ops true).wp Try.prog Q a0 w := by
  obtain ⟨R, hRd⟩ : ∃ R : World → Prop, R = fun w5 => Below w.heap.size w w5 := ⟨_, rfl⟩
  obtain ⟨F, hF⟩ : ∃ F : List (Value → World → Prop), F = [fun v _ => v = .pointer (some ⟨p, 0, none⟩), fun v _ => v = .pointer (some ⟨p, 0, none⟩), fun v _ => v = .pointer (some ⟨p, 0, none⟩), fun v _ => v = .map (some m),
    fun v _ => v = .pointer (some ⟨g, 0, none⟩), fun v _ => v = .string A, fun v _ => v = .string A, fun v _ => v = .pointer (some ⟨g, 1, none⟩), fun v _ => v = .string S, fun v _ => v = .string S,
    fun v _ => v = .agg (accRow ⟨A, S, 0, false, 0⟩).toArray, fun v w5 => ∃ q, v = .pointer (some ⟨q, 0, none⟩) ∧ w.heap.size ≤ q ∧ RowIs w5 q 58 (accRow ⟨A, S, 0, false, 0⟩), fun _ _ => True] := ⟨_, rfl⟩
  have st0 : StepP Try.prog Q newL newW F R a0 0 := by
    subst hF hRd
    intro o hd ho a w5 hR hout hJ
    exact st_v hd (run_moveK ho ((hout 4 (by decide)).trans h4) w5) rfl
  have st1 : StepP Try.prog Q newL newW F R a0 1 := by
    subst hF hRd
    intro o hd ho a w5 hR hout hJ
    exact st_v hd (run_nil' ho (show a.eval (.tmp 32) = .pointer (some ⟨p, 0, none⟩) from hJ 0 (by decide)) w5) rfl
  have st2 : StepP Try.prog Q newL newW F R a0 2 := by
    subst hF hRd
    intro o hd ho a w5 hR hout hJ
    exact st_v hd (run_field' ho (show a.eval (.tmp 33) = .pointer (some ⟨p, 0, none⟩) from hJ 1 (by decide)) Try.underlying45 rfl (n := 0) (by kernel_rfl) w5) rfl
  have st3 : StepP Try.prog Q newL newW F R a0 3 := by
    subst hF hRd
    intro o hd ho a w5 hR hout hJ
    exact st_v hd (run_load1' ho (show a.eval (.tmp 34) = .pointer (some ⟨p, 0, none⟩) from hJ 2 (by decide)) Try.underlying43 rfl w5 ((RowIs.below hp hR hp.lt).cellAt rfl)) rfl
  have st4 : StepP Try.prog Q newL newW F R a0 4 := by
    subst hF hRd
    intro o hd ho a w5 hR hout hJ
    exact st_v hd (run_field' ho ((hout 6 (by decide)).trans h6) Try.underlying29 rfl (n := 0) (by kernel_rfl) w5) rfl
  have st5 : StepP Try.prog Q newL newW F R a0 5 := by
    subst hF hRd
    intro o hd ho a w5 hR hout hJ
    exact st_v hd (run_loadS' ho (show a.eval (.tmp 36) = .pointer (some ⟨g, 0, none⟩) from hJ 4 (by decide)) Try.underlying9 w5 ((RowIs.below hg hR hg.lt).cellAt rfl)) rfl
  have st6 : StepP Try.prog Q newL newW F R a0 6 := by
    subst hF hRd
    intro o hd ho a w5 hR hout hJ
    have hx : a.eval (.tmp 37) = .string A := hJ 5 (by decide)
    refine st_c hd ho (vs := #[.string A]) (by simp [hx]) (by kernel_rfl) ((strings_cloneU A w5 hA).mono ?_)
    rintro e w' ⟨rfl, b⟩
    exact ⟨_, rfl, b, rfl⟩
  have st7 : StepP Try.prog Q newL newW F R a0 7 := by
    subst hF hRd
    intro o hd ho a w5 hR hout hJ
    exact st_v hd (run_field' ho ((hout 6 (by decide)).trans h6) Try.underlying29 rfl (n := 0) (by kernel_rfl) w5) rfl
  have st8 : StepP Try.prog Q newL newW F R a0 8 := by
    subst hF hRd
    intro o hd ho a w5 hR hout hJ
    exact st_v hd (run_loadS' ho (show a.eval (.tmp 39) = .pointer (some ⟨g, 1, none⟩) from hJ 7 (by decide)) Try.underlying9 w5 ((RowIs.below hg hR hg.lt).cellAt rfl)) rfl
  have st9 : StepP Try.prog Q newL newW F R a0 9 := by
    subst hF hRd
    intro o hd ho a w5 hR hout hJ
    have hx : a.eval (.tmp 40) = .string S := hJ 8 (by decide)
    refine st_c hd ho (vs := #[.string S]) (by simp [hx]) (by kernel_rfl) ((strings_cloneU S w5 hS).mono ?_)
    rintro e w' ⟨rfl, b⟩
    exact ⟨_, rfl, b, rfl⟩
  have st10 : StepP Try.prog Q newL newW F R a0 10 := by
    subst hF hRd
    intro o hd ho a w5 hR hout hJ
    have hx : a.eval (.tmp 41) = .string S := hJ 9 (by decide)
    refine st_v hd (run_buildK ho w5 (cells := (accRow ⟨A, S, 0, false, 0⟩).toArray) ?_) rfl
    simp only [List.map_toArray, List.map_cons, List.map_nil]
    rw [hx]
    exact builtAcc S
  have st11 : StepP Try.prog Q newL newW F R a0 11 := by
    subst hF hRd
    intro o hd ho a w5 hR hout hJ
    have hx : a.eval (.tmp 42) = .agg (accRow ⟨A, S, 0, false, 0⟩).toArray := hJ 10 (by decide)
    exact st_m hd (run_boxK ho hx w5) ((Below.refl _ _).alloc (Nat.le_refl _) _) ⟨w5.heap.size, rfl, hR.size, RowIs.new w5 _ _⟩
  refine wp_region_Q newL newW F R (by kernel_rfl) hok hk hL (n := 13) (q := 12) rfl hsz (by decide) ?_ ?_ ?_ ?_ ?_ ?_
  · intro L _ hq j hj hne
    exact hq j (by
      show j ∈ [0, 1, 2, 3, 4, 5, 6, 7, 8, 9, 10, 11]
      simp
      omega)
  · subst hRd; exact (Below.refl _ _).drew
  · subst hRd; intro u u2 hu hb; exact hu.trans (hb.mono hu.size)
  · subst hF; exact ⟨fun _ _ _ _ h => h, fun _ _ _ _ h => h, fun _ _ _ _ h => h, fun _ _ _ _ h => h, fun _ _ _ _ h => h, fun _ _ _ _ h => h, fun _ _ _ _ h => h, fun _ _ _ _ h => h, fun _ _ _ _ h => h, fun _ _ _ _ h => h, fun _ _ _ _ h => h, fun _ _ _ hb ⟨q, e, h1, h2⟩ => ⟨q, e, h1, RowIs.below h2 hb h2.lt⟩, fun _ _ _ _ h => h, True.intro⟩
  · intro i hi hm
    match i, hi, hm with
    | 0, _, _ => exact st0
    | 1, _, _ => exact st1
    | 2, _, _ => exact st2
    | 3, _, _ => exact st3
    | 4, _, _ => exact st4
    | 5, _, _ => exact st5
    | 6, _, _ => exact st6
    | 7, _, _ => exact st7
    | 8, _, _ => exact st8
    | 9, _, _ => exact st9
    | 10, _, _ => exact st10
    | 11, _, _ => exact st11
    | 12, _, h => exact absurd rfl h
    | k + 13, h, _ => exact absurd h (by omega)
  · subst hF hRd
    intro o hd ho a w5 hR hs hdf hout hJ
    have x1 : a.eval (.tmp 35) = .map (some m) := hJ 3 (by decide) (by decide)
    have x2 : a.eval (.tmp 38) = .string A := hJ 6 (by decide) (by decide)
    obtain ⟨q, x3, hq, hr⟩ := hJ 11 (by decide) (by decide)
    have x3' : a.eval (.tmp 43) = .pointer (some ⟨q, 0, none⟩) := x3
    have hown : w5.ownsMap Try.prog 9 RefB0 m nn D := by
      have hl := hmp.lt
      obtain ⟨es, clock, hbl, r⟩ := hmp
      exact ⟨es, clock, (hR.block m hl).trans hbl, r⟩
    obtain ⟨w2, hrun, h1, h2⟩ := hown.update lawU Try.underlying43 (by unfold maxLen; omega) (keyB_of (n := A) (by unfold maxLen; omega)) (refB_mk q)
    have hEqA := act_puts a a0 [32, 33, 34, 35, 36, 37, 38, 39, 40, 41, 42, 43] (by rw [hs, hsz]) hdf (by rw [hs]; decide) (fun t ht => hout t (fun h => ht (by simpa [newL] using h)))
    simp only [List.foldl] at hEqA
    have hd' : o.dst = none := hd
    unfold Oper.wp
    rw [run_updateK (P := Try.prog) ho x1 x2 x3' hrun]
    show Q .normal (a.put o.dst undef) w2
    rw [hd']
    show Q .normal a w2
    rw [hEqA]
    exact hend _ _ _ _ _ _ _ _ _ _ _ _ w5 w2 q hR hq hr h1 h2

end Go.Proofs.Ytjemklgfenciaaa
