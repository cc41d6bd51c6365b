/- Promise P501: for all words a, b, c and d the law StreamQuarters answers true at the landed code: from what stream.Quarter tells, the four words that it was told are reckoned back. No condition. -/
import Derived.Test.YtckcfgbcnefbhaaRows
import Derived.WalkKit
import Derived.ProofKit
import Derived.OpenShut
import Derived.ShutString
import Derived.Test.YtckcfgbcnefbhaaStr5
namespace Go.Proofs.Ytckcfgbcnefbhaa.streamQuarters
open Go.ChangeShapes Go.WideShapes Go.ChangeAt Go.RowKit
open Go.ChangeMaps (open_string shut_string)
set_option linter.unusedVariables false      -- a walk need not use every 'w<i>' (that an integer argument fits its kind)

theorem own : ownKnob Try.prog.godebug = none := by kernel_rfl

set_option maxHeartbeats 4000000 in
set_option maxRecDepth 100000 in
theorem walk (a0 : Int) (a1 : Int) (a2 : Int) (a3 : Int) (w0 : (Lit.int .u32 a0).wf = true) (w1 : (Lit.int .u32 a1).wf = true) (w2 : (Lit.int .u32 a2).wf = true) (w3 : (Lit.int .u32 a3).wf = true) (w : World) :
    Calls Try.prog 5 #[.int .u32 a0, .int .u32 a1, .int .u32 a2, .int .u32 a3] w fun e w' => e = .returned (.bool true) ∧ Below w.heap.size w w' := by
  have wa : W32 a0 := by have := bounds_u32 w0; unfold W32; omega
  have wb : W32 a1 := by have := bounds_u32 w1; unfold W32; omega
  have wc : W32 a2 := by have := bounds_u32 w2; unfold W32; omega
  have wd : W32 a3 := by have := bounds_u32 w3; unfold W32; omega
  clear w0 w1 w2 w3
  have pq := fun w => stream_quarter a0 a1 a2 a3 w wa wb wc wd
  have PL : Hid (∀ (x n : Int) (w : World), W32 x → Calls Try.prog 16 #[.int .u32 x, .int .i64 n] w fun e w' => e = .returned (.int .u32 (rotl x n)) ∧ w = w') := fun x n w h => ref_left x n w h.1 h.2
  have vA := qA_w a0 a1 a2 a3
  have vB := qB_w (a := a0) (c := a2) (d := a3) wb
  have vC := qC_w a0 a1 a2 a3
  have vD := qD_w (a := a0) (b := a1) (c := a2) wd
  have vB1 := qB1_w (a := a0) (c := a2) (d := a3) wb
  have vC1 := qC1_w a0 a1 a2 a3
  have vD1 := qD1_w (a := a0) (b := a1) wd
  have vA1 := addI_w a0 a1
  have x1 := bxor_eq (rotl_w (-7) vB) vC
  rw [back_b1 wb] at x1
  have x2 := back_c1 a0 a1 a2 a3
  have x3 := bxor_eq (rotl_w (-8) vD) vA
  rw [back_d1 wd] at x3
  have x4 := back_a1 a0 a1 a2 a3
  have x5 := bxor_eq (rotl_w (-12) vB1) vC1
  rw [back_b wb] at x5
  have x6 := back_c (a := a0) (b := a1) (d := a3) wc
  have x7 := bxor_eq (rotl_w (-16) vD1) vA1
  rw [back_d wd] at x7
  have x8 := back_a (b := a1) wa
  generalize qA a0 a1 a2 a3 = A at *
  generalize qB a0 a1 a2 a3 = B at *
  generalize qC a0 a1 a2 a3 = C at *
  generalize qD a0 a1 a2 a3 = D at *
  generalize qB1 a0 a1 a2 a3 = B1 at *
  generalize qC1 a0 a1 a2 a3 = C1 at *
  generalize qD1 a0 a1 a3 = D1 at *
  generalize addI a0 a1 = A1 at *
  have PQ : Hid _ := pq
  clear pq
  go_enter Try.func5, Try.ntmps5
  go_wp2_with fail
  refine (alive5_any _).mono ?_
  rintro e w1 ⟨rfl, b1⟩
  go_wp2_with fail
  with_reducible refine (PQ.out _).mono ?_
  rintro e w' ⟨rfl, rfl⟩
  go_wp2_with (go_at_call 16; refine (PL.out _ _ _ (by assumption)).mono ?_; rintro e w' ⟨rfl, rfl⟩)
  go_ret
  exact ⟨by simp, b1⟩

set_option maxRecDepth 100000 in
theorem lifted (os : Os) (started : os.Started) (H : Type) (enc : TypeId × Value → H) :
    ReturnsInHanded {} Try.checked os 5 .any (Rows.streamQuartersSpec.pre6 enc Try.prog Try.f5 Rows.streamQuartersRow.domain false) (Rows.streamQuartersSpec.post enc Try.prog Try.f5 false true false false) := by
  refine returnsInHanded_of_change (C := Try.checked) own started (by kernel_rfl) Try.func5
    (ChangeSpec.witness6 (enc := enc) (C := Try.checked) false ⟨#[], #[.int .u32 0, .int .u32 0, .int .u32 0, .int .u32 0], []⟩ 8 (by kernel_rfl) (by kernel_rfl) (by kernel_rfl) (by kernel_rfl)) ?_
  intro W base args ds gs before hval0 hW hcnd _
  have hval : ∀ (j : Nat) t v, Try.f5.params[j]? = some t → args[j]? = some v → Value.okWide Try.prog W .any base t v := hval0
  have hW' := hW
  obtain ⟨p, q, hA0, hV, rfl, hfz, hnd⟩ := hW
  have hA : DataW.TrodAll enc Try.prog W 0 (fun _ => true) true Try.f5.params.toList args.toList ds p := hA0
  rw [Try.params5] at hA hval
  obtain ⟨v0, vs0, d0, ds0, p0, q0, hargs, rfl, rfl, h0, r0⟩ := trodAll_cons hA
  obtain ⟨v1, vs1, d1, ds1, p1, q1, rfl, rfl, rfl, h1, r1⟩ := trodAll_cons r0
  obtain ⟨v2, vs2, d2, ds2, p2, q2, rfl, rfl, rfl, h2, r2⟩ := trodAll_cons r1
  obtain ⟨v3, vs3, d3, ds3, p3, q3, rfl, rfl, rfl, h3, r3⟩ := trodAll_cons r2
  obtain ⟨rfl, rfl, rfl⟩ := trodAll_nil r3
  obtain rfl : args = #[v0, v1, v2, v3] := by cases args; simp_all
  obtain ⟨rfl, rfl⟩ := trodVars_none hV
  obtain ⟨a0, rfl, rfl, rfl, w0⟩ := open_int Try.underlying22 (hval 0 22 v0 rfl rfl) h0
  obtain ⟨a1, rfl, rfl, rfl, w1⟩ := open_int Try.underlying22 (hval 1 22 v1 rfl rfl) h1
  obtain ⟨a2, rfl, rfl, rfl, w2⟩ := open_int Try.underlying22 (hval 2 22 v2 rfl rfl) h2
  obtain ⟨a3, rfl, rfl, rfl, w3⟩ := open_int Try.underlying22 (hval 3 22 v3 rfl rfl) h3
  clear hA0 hval0
  simp only [List.append_nil] at hW'
  refine (walk a0 a1 a2 a3 w0 w1 w2 w3 W).mono fun e W' ⟨he, hg⟩ => ?_
  subst he
  exact ⟨_, rfl, _, _, _, [], [], [], hW', (trodAll_cons_mk (shut_bool Try.underlying4 _) trodAll_mk0), (trodAll_cons_mk (shut_int Try.underlying22 w0) (trodAll_cons_mk (shut_int Try.underlying22 w1) (trodAll_cons_mk (shut_int Try.underlying22 w2) (trodAll_cons_mk (shut_int Try.underlying22 w3) trodAll_mk0)))), rfl, hg.frame _, fun h => by cases h⟩

theorem over : Rows.streamQuartersRow.holds Try.pinned (OpenSpec.ofChange Rows.streamQuartersSpec) :=
  OpenClaim.holds_of_wide 5 Try.f5 rfl rfl rfl rfl rfl rfl rfl ⟨rfl, rfl, rfl, rfl, rfl⟩ rfl rfl rfl rfl rfl (by kernel_rfl) Try.func5 (by kernel_rfl)
    (of_decide_eq_true (by kernel_rfl)) (by unfold Func.isWrapper; first | (rw [if_pos (by decide +kernel)]; kernel_rfl) | (rw [if_neg (by decide +kernel)]; exact ⟨rfl, rfl⟩))
    (fun os started H enc _ => lifted os started H enc)

theorem proved : Rows.StreamQuartersSaid :=
  over
#print axioms proved
end Go.Proofs.Ytckcfgbcnefbhaa.streamQuarters
