/- Promise P1001: for all numbers a and b the law CommandNames answers true at the landed code: each of the thirteen operations has a class and a name, no other number has either, and two operations have two names. No condition. -/
import Derived.Test.YtogfobmbmimpgaaRows
import Derived.WalkKit
import Derived.ProofKit
import Derived.OpenShut
import Derived.ShutString
import Derived.Carry
import Derived.Test.YtogfobmbmimpgaaStrs0
import Derived.Test.YtogfobmbmimpgaaAlive10
namespace Go.Proofs.Ytogfobmbmimpgaa.commandNames
open Go.ChangeShapes Go.WideShapes Go.ChangeAt Go.RowKit
open Go.ChangeMaps (open_string shut_string)
set_option linter.unusedVariables false
set_option maxRecDepth 100000

theorem own : ownKnob Try.prog.godebug = none := by kernel_rfl
theorem laidOut : laidOutB Try.prog = true := by kernel_rfl

set_option maxHeartbeats 4000000 in
set_option maxRecDepth 100000 in
theorem walk (a0 : Int) (w0 : (Lit.int .i64 a0).wf = true) (a1 : Int) (w1 : (Lit.int .i64 a1).wf = true) (w : World) :
    Calls Try.prog 5 #[.int .i64 a0, .int .i64 a1] w fun e w' => e = .returned (.bool true) ∧ Below w.heap.size w w' := by
  have PC : Hid _ := fun w => command_class a0 w
  have PN : Hid _ := fun w => command_name a0 w
  have PM : Hid _ := fun w => command_name a1 w
  have hbel : Below w.heap.size w w := Below.refl _ _
  by_cases h : IsOp a0
  · have hc : decide (0 < classN a0) = true := by rw [classN_pos]; exact decide_eq_true h
    have hn := nameS_ne a0 h
    have hd : a0 ≠ a1 → (nameS a0).toList ≠ (nameS a1).toList := fun hne e => names_apart a0 a1 h hne (by
      rw [ByteArray.toList_eq, ByteArray.toList_eq] at e
      rw [← str_back (nameS a0), e, str_back])
    have d1 : decide (1 ≤ a0) = true := decide_eq_true h.1
    have d2 : decide (a0 ≤ 13) = true := decide_eq_true h.2
    have e1 := str_full _ hn
    have e2 : ¬ (nameS a0).toList = [] := fun e => by rw [e] at e1; cases e1
    have e3 : decide (nameS a0 = ByteArray.empty) = false := decide_eq_false hn
    clear h hn
    generalize nameS a0 = S at *
    generalize nameS a1 = S2 at *
    generalize classN a0 = C at *
    have hcase : (a0 == a1) = true ∨ (a0 == a1) = false ∧ (S.toList == S2.toList) = false := by
      by_cases he : a0 = a1
      · exact Or.inl (by simpa using he)
      · exact Or.inr ⟨by simpa using he, by simpa using hd he⟩
    clear hd
    go_enter Try.func5, Try.ntmps5
    go_wp2_with fail
    with_reducible refine (alive10 _).mono ?_
    rintro e w1 ⟨rfl, b1⟩
    go_wp2_with fail
    with_reducible refine (PC.out _).mono ?_
    rintro e w2 ⟨rfl, rfl⟩
    go_wp2_with fail
    with_reducible refine (PN.out _).mono ?_
    rintro e w2 ⟨rfl, b2⟩
    replace b1 := bel_chain8 b1 b2
    rcases hcase with hcase | ⟨hcase, hcase2⟩
    · go_wp2
      go_ret
      exact ⟨rfl, b1⟩
    · go_wp2_with fail
      with_reducible refine (PN.out _).mono ?_
      rintro e w3 ⟨rfl, b3⟩
      replace b1 := bel_chain8 b1 b3
      go_wp2_with fail
      with_reducible refine (PM.out _).mono ?_
      rintro e w4 ⟨rfl, b4⟩
      replace b1 := bel_chain8 b1 b4
      go_wp2
      go_ret
      exact ⟨rfl, b1⟩
  · have hc : decide (0 < classN a0) = false := by rw [classN_pos]; exact decide_eq_false h
    have hn := nameS_out a0 h
    have e1 : (nameS a0).toList.isEmpty = true := by rw [hn]; exact empty_list
    have e2 : (nameS a0).toList = [] := by simpa using e1
    have e3 : decide (nameS a0 = ByteArray.empty) = true := decide_eq_true hn
    have hin : decide (1 ≤ a0) = false ∨ decide (1 ≤ a0) = true ∧ decide (a0 ≤ 13) = false := by
      unfold IsOp at h
      by_cases h1 : 1 ≤ a0
      · exact Or.inr ⟨decide_eq_true h1, decide_eq_false (by omega)⟩
      · exact Or.inl (decide_eq_false h1)
    clear h hn
    generalize nameS a0 = S at *
    generalize classN a0 = C at *
    go_enter Try.func5, Try.ntmps5
    go_wp2_with fail
    with_reducible refine (alive10 _).mono ?_
    rintro e w1 ⟨rfl, b1⟩
    rcases hin with hin | ⟨hin, hin2⟩
    all_goals
      go_wp2_with fail
      with_reducible refine (PC.out _).mono ?_
      rintro e w2 ⟨rfl, rfl⟩
      go_wp2_with fail
      with_reducible refine (PN.out _).mono ?_
      rintro e w2 ⟨rfl, b2⟩
      replace b1 := bel_chain8 b1 b2
      go_wp2
      go_ret
      exact ⟨rfl, b1⟩

set_option maxRecDepth 100000 in
theorem lifted (os : Os) (started : os.Started) (H : Type) (enc : TypeId × Value → H) :
    ReturnsInHanded {} Try.checked os 5 .any (Rows.commandNamesSpec.pre6 enc Try.prog Try.f5 Rows.commandNamesRow.domain false) (Rows.commandNamesSpec.post enc Try.prog Try.f5 false true false false) := by
  refine returnsInHanded_of_change (C := Try.checked) own started (by kernel_rfl) Try.func5
    (ChangeSpec.witness6 (enc := enc) (C := Try.checked) false ⟨#[], #[.int .i64 0, .int .i64 0], []⟩ 8 (by kernel_rfl) (by kernel_rfl) (by kernel_rfl) (by kernel_rfl)) ?_
  intro W base args ds gs before hval0 hW hcnd _
  have hval : ∀ (j : Nat) t v, Try.f5.params[j]? = some t → args[j]? = some v → Value.okWide Try.prog W .any base t v := hval0
  have hW' := hW
  obtain ⟨p, q, hA0, hV, rfl, hfz, hnd⟩ := hW
  have hA : DataW.TrodAll enc Try.prog W 0 (fun _ => true) true Try.f5.params.toList args.toList ds p := hA0
  rw [Try.params5] at hA hval
  obtain ⟨v0, vs0, d0, ds0, p0, q0, hargs, rfl, rfl, h0, r0⟩ := trodAll_cons hA
  obtain ⟨v1, vs1, d1, ds1, p1, q1, rfl, rfl, rfl, h1, r1⟩ := trodAll_cons r0
  obtain ⟨rfl, rfl, rfl⟩ := trodAll_nil r1
  obtain rfl : args = #[v0, v1] := by cases args; simp_all
  obtain ⟨rfl, rfl⟩ := trodVars_none hV
  obtain ⟨a0, rfl, rfl, rfl, w0⟩ := open_int Try.underlying3 (hval 0 3 v0 rfl rfl) h0
  obtain ⟨a1, rfl, rfl, rfl, w1⟩ := open_int Try.underlying3 (hval 1 3 v1 rfl rfl) h1
  clear hA0 hval0
  simp only [List.append_nil] at hW'
  refine (walk a0 w0 a1 w1 W ).mono fun e W' ⟨he, hg⟩ => ?_
  subst he
  exact ⟨_, rfl, _, _, _, _, _, _, hW', (trodAll_cons_mk (shut_bool Try.underlying4 _) trodAll_mk0), (trodAll_cons_mk (shut_int Try.underlying3 w0) (trodAll_cons_mk (shut_int Try.underlying3 w1) trodAll_mk0)), rfl, hg.frame _, fun h => by cases h⟩

theorem over : Rows.commandNamesRow.holds Try.pinned (OpenSpec.ofChange Rows.commandNamesSpec) :=
  OpenClaim.holds_of_wide 5 Try.f5 rfl rfl rfl rfl rfl rfl rfl ⟨rfl, rfl, rfl, rfl, rfl⟩ rfl rfl rfl rfl rfl (by kernel_rfl) Try.func5 (by kernel_rfl)
    (of_decide_eq_true (by kernel_rfl)) (by unfold Func.isWrapper; first | (rw [if_pos (by decide +kernel)]; kernel_rfl) | (rw [if_neg (by decide +kernel)]; exact ⟨rfl, rfl⟩))
    (fun os started H enc _ => lifted os started H enc)

theorem proved : Rows.CommandNamesSaid :=
  over
#print axioms proved
end Go.Proofs.Ytogfobmbmimpgaa.commandNames
