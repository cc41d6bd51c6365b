/- Promise P101: for every word x and every two numbers a and b the law OctetTurns answers true at the landed code: turned by a and then by b a word is turned by a + b, by 32 it is what it was, by a + 32 as by a. No condition. -/
import Derived.Test.YtgbdcgebbfcpoaaRows
import Derived.WalkKit
import Derived.ProofKit
import Derived.OpenShut
import Derived.ShutString
import Derived.Test.YtgbdcgebbfcpoaaOct10
namespace Go.Proofs.Ytgbdcgebbfcpoaa.octetTurns
open Go.ChangeShapes Go.WideShapes Go.ChangeAt Go.RowKit
open Go.ChangeMaps (open_string shut_string)
set_option linter.unusedVariables false      -- a walk need not use every 'w<i>' (that an integer argument fits its kind)

theorem own : ownKnob Try.prog.godebug = none := by kernel_rfl

set_option maxHeartbeats 4000000 in
set_option maxRecDepth 100000 in
theorem walk (a0 : Int) (a1 : Int) (a2 : Int) (w0 : (Lit.int .u32 a0).wf = true) (w1 : (Lit.int .i64 a1).wf = true) (w2 : (Lit.int .i64 a2).wf = true) (w : World) :
    Calls Try.prog 8 #[.int .u32 a0, .int .i64 a1, .int .i64 a2] w fun e w' => e = .returned (.bool true) ∧ Below w.heap.size w w' := by
  have hx := bounds_u32 w0
  have hx0 := hx.1
  have hx1 : a0 < 4294967296 := by omega
  clear hx
  have hr1 := rotl_bd a0 a1 hx0 hx1
  have hr10 := hr1.1
  have hr11 := hr1.2
  clear hr1
  have e1 : rotl (rotl a0 a1) a2 = rotl a0 (a1 + a2) := rotl_rotl a0 a1 a2 hx0 hx1
  have e2 : rotl a0 32 = a0 := rotl_zero a0 32 hx0 hx1 rfl
  have e3 : rotl a0 a1 = rotl a0 (a1 + 32) := rotl_mod a0 a1 (a1 + 32) (by omega)
  have E3 : Hid (rotl a0 a1 = rotl a0 (a1 + 32)) := e3
  have E1 : Hid (rotl (rotl a0 a1) a2 = rotl a0 (a1 + a2)) := e1
  have E2 : Hid (rotl a0 32 = a0) := e2
  clear e1 e2 e3
  by_cases hin : -1000 ≤ a1 ∧ a1 ≤ 1000 ∧ -1000 ≤ a2 ∧ a2 ≤ 1000
  · obtain ⟨c1, c2, c3, c4⟩ := hin
    have d1 : decide (a1 < -1000) = false := decide_eq_false (by omega)
    have d2 : decide (1000 < a1) = false := decide_eq_false (by omega)
    have d3 : decide (a2 < -1000) = false := decide_eq_false (by omega)
    have d4 : decide (1000 < a2) = false := decide_eq_false (by omega)
    go_enter Try.func8, Try.ntmps8
    go_wp2_with fail
    refine (alive_any _).mono ?_
    rintro e w1 ⟨rfl, b1⟩
    go_wp2_with fail
    refine (octet_left _ _ _ hx0 hx1).mono ?_
    rintro e w' ⟨rfl, rfl⟩
    go_wp2_with fail
    refine (octet_left _ _ _ hr10 hr11).mono ?_
    rintro e w' ⟨rfl, rfl⟩
    rw [E1.out]
    go_wp2_with fail
    refine (octet_left _ _ _ hx0 hx1).mono ?_
    rintro e w' ⟨rfl, rfl⟩
    go_wp2_with fail
    refine (octet_left _ _ _ hx0 hx1).mono ?_
    rintro e w' ⟨rfl, rfl⟩
    rw [E2.out]
    go_wp2_with fail
    refine (octet_left _ _ _ hx0 hx1).mono ?_
    rintro e w' ⟨rfl, rfl⟩
    rw [E3.out]
    go_wp2_with fail
    refine (octet_left _ _ _ hx0 hx1).mono ?_
    rintro e w' ⟨rfl, rfl⟩
    go_wp2
    go_ret
    exact ⟨rfl, b1⟩
  · cases d1 : decide (a1 < -1000)
    cases d2 : decide (1000 < a1)
    cases d3 : decide (a2 < -1000)
    cases d4 : decide (1000 < a2)
    · rw [decide_eq_false_iff_not] at d1 d2 d3 d4
      omega
    all_goals
      clear hin
      go_enter Try.func8, Try.ntmps8
      go_wp2_with fail
      refine (alive_any _).mono ?_
      rintro e w1 ⟨rfl, b1⟩
      go_wp2
      go_ret
      exact ⟨rfl, b1⟩

set_option maxRecDepth 100000 in
theorem lifted (os : Os) (started : os.Started) (H : Type) (enc : TypeId × Value → H) :
    ReturnsInHanded {} Try.checked os 8 .any (Rows.octetTurnsSpec.pre6 enc Try.prog Try.f8 Rows.octetTurnsRow.domain false) (Rows.octetTurnsSpec.post enc Try.prog Try.f8 false true false false) := by
  refine returnsInHanded_of_change (C := Try.checked) own started (by kernel_rfl) Try.func8
    (ChangeSpec.witness6 (enc := enc) (C := Try.checked) false ⟨#[], #[.int .u32 0, .int .i64 0, .int .i64 0], []⟩ 8 (by kernel_rfl) (by kernel_rfl) (by kernel_rfl) (by kernel_rfl)) ?_
  intro W base args ds gs before hval0 hW hcnd _
  have hval : ∀ (j : Nat) t v, Try.f8.params[j]? = some t → args[j]? = some v → Value.okWide Try.prog W .any base t v := hval0
  have hW' := hW
  obtain ⟨p, q, hA0, hV, rfl, hfz, hnd⟩ := hW
  have hA : DataW.TrodAll enc Try.prog W 0 (fun _ => true) true Try.f8.params.toList args.toList ds p := hA0
  rw [Try.params8] at hA hval
  obtain ⟨v0, vs0, d0, ds0, p0, q0, hargs, rfl, rfl, h0, r0⟩ := trodAll_cons hA
  obtain ⟨v1, vs1, d1, ds1, p1, q1, rfl, rfl, rfl, h1, r1⟩ := trodAll_cons r0
  obtain ⟨v2, vs2, d2, ds2, p2, q2, rfl, rfl, rfl, h2, r2⟩ := trodAll_cons r1
  obtain ⟨rfl, rfl, rfl⟩ := trodAll_nil r2
  obtain rfl : args = #[v0, v1, v2] := by cases args; simp_all
  obtain ⟨rfl, rfl⟩ := trodVars_none hV
  obtain ⟨a0, rfl, rfl, rfl, w0⟩ := open_int Try.underlying22 (hval 0 22 v0 rfl rfl) h0
  obtain ⟨a1, rfl, rfl, rfl, w1⟩ := open_int Try.underlying3 (hval 1 3 v1 rfl rfl) h1
  obtain ⟨a2, rfl, rfl, rfl, w2⟩ := open_int Try.underlying3 (hval 2 3 v2 rfl rfl) h2
  clear hA0 hval0
  simp only [List.append_nil] at hW'
  refine (walk a0 a1 a2 w0 w1 w2 W).mono fun e W' ⟨he, hg⟩ => ?_
  subst he
  exact ⟨_, rfl, _, _, _, [], [], [], hW', (trodAll_cons_mk (shut_bool Try.underlying4 _) trodAll_mk0), (trodAll_cons_mk (shut_int Try.underlying22 w0) (trodAll_cons_mk (shut_int Try.underlying3 w1) (trodAll_cons_mk (shut_int Try.underlying3 w2) trodAll_mk0))), rfl, hg.frame _, fun h => by cases h⟩

theorem over : Rows.octetTurnsRow.holds Try.pinned (OpenSpec.ofChange Rows.octetTurnsSpec) :=
  OpenClaim.holds_of_wide 8 Try.f8 rfl rfl rfl rfl rfl rfl rfl ⟨rfl, rfl, rfl, rfl, rfl⟩ rfl rfl rfl rfl rfl (by kernel_rfl) Try.func8 (by kernel_rfl)
    (of_decide_eq_true (by kernel_rfl)) (by unfold Func.isWrapper; first | (rw [if_pos (by decide +kernel)]; kernel_rfl) | (rw [if_neg (by decide +kernel)]; exact ⟨rfl, rfl⟩))
    (fun os started H enc _ => lifted os started H enc)

theorem proved : Rows.OctetTurnsSaid :=
  over
#print axioms proved
end Go.Proofs.Ytgbdcgebbfcpoaa.octetTurns
