/- Promise P301: for every two texts a and b the law MacSames answers true at the landed code: whether two are alike does not hang on which comes first; each is like itself, and like nothing longer; what is told to be alike is alike. No condition; longer texts the law itself lets by. -/
import Derived.Test.YtbnhahbnggojiaaRows
import Derived.WalkKit
import Derived.ProofKit
import Derived.OpenShut
import Derived.ShutString
import Derived.Test.YtbnhahbnggojiaaAlive3
namespace Go.Proofs.Ytbnhahbnggojiaa.macSames
open Go.ChangeShapes Go.WideShapes Go.ChangeAt Go.RowKit
open Go.ChangeMaps (open_string shut_string)
set_option linter.unusedVariables false      -- a walk need not use every 'w<i>' (that an integer argument fits its kind)

theorem own : ownKnob Try.prog.godebug = none := by kernel_rfl

set_option maxHeartbeats 4000000 in
set_option maxRecDepth 100000 in
theorem walk (a0 : ByteArray) (a1 : ByteArray) (w0 : a0.size ≤ maxLen) (w1 : a1.size ≤ maxLen) (w : World) :
    Calls Try.prog 6 #[.string a0, .string a1] w fun e w' => e = .returned (.bool true) ∧ Below w.heap.size w w' := by
  unfold maxLen at w0 w1
  cases d1 : decide (200 < (a0.size : Int))
  cases d2 : decide (200 < (a1.size : Int))
  · have h1 : a0.size ≤ 200 := by rw [decide_eq_false_iff_not] at d1; omega
    have h2 : a1.size ≤ 200 := by rw [decide_eq_false_iff_not] at d2; omega
    clear w0 w1
    have z1 : (a0 ++ ⟨#[120]⟩ : ByteArray).size = a0.size + 1 := by rw [ByteArray.size_append]; rfl
    have ne : ¬ a0 = a0 ++ ⟨#[120]⟩ := by
      intro e
      have := congrArg ByteArray.size e
      omega
    have p1 := fun w => mac_same a0 a1 w (by omega) (by omega)
    have p2 := fun w => mac_same a1 a0 w (by omega) (by omega)
    have p3 := fun w => mac_same a0 a0 w (by omega) (by omega)
    have p4 := fun w => mac_same a0 (a0 ++ ⟨#[120]⟩) w (by omega) (by omega)
    rw [show decide (a0 = a0) = true from decide_eq_true rfl] at p3
    rw [show decide (a0 = a0 ++ ⟨#[120]⟩) = false from decide_eq_false ne] at p4
    have hx' : decide (a1 = a0) = decide (a0 = a1) := decide_eq_decide.2 eq_comm
    rw [hx'] at p2
    have P1 : Hid _ := p1
    have P2 : Hid _ := p2
    have P3 : Hid _ := p3
    have P4 : Hid _ := p4
    clear p1 p2 p3 p4 ne hx' z1
    by_cases hx : a0 = a1
    case' pos =>
      rw [show decide (a0 = a1) = true from decide_eq_true hx] at P1 P2
      have hx2 : (a0.toList == a1.toList) = true := by rw [str_beq]; exact decide_eq_true hx
    case' neg =>
      rw [show decide (a0 = a1) = false from decide_eq_false hx] at P1 P2
      have hx2 : (a0.toList == a1.toList) = false := by rw [str_beq]; exact decide_eq_false hx
    all_goals
      clear hx
      go_enter Try.func6, Try.ntmps6
      go_wp2_with fail
      refine (alive3_any _).mono ?_
      rintro e w1 ⟨rfl, b⟩
      go_wp2_with fail
      refine (P1.out _).mono ?_
      rintro e w' ⟨rfl, b'⟩
      replace b := bel_chain b b'
      clear b'
      go_wp2_with fail
      refine (P2.out _).mono ?_
      rintro e w' ⟨rfl, b'⟩
      replace b := bel_chain b b'
      clear b'
      go_wp2_with fail
      refine (P3.out _).mono ?_
      rintro e w' ⟨rfl, b'⟩
      replace b := bel_chain b b'
      clear b'
      go_wp2_with fail
      refine (P4.out _).mono ?_
      rintro e w' ⟨rfl, b'⟩
      replace b := bel_chain b b'
      clear b'
      go_wp2_with fail
      refine (P1.out _).mono ?_
      rintro e w' ⟨rfl, b'⟩
      replace b := bel_chain b b'
      clear b'
      go_wp2
      go_ret
      exact ⟨rfl, b⟩
  all_goals
    go_enter Try.func6, Try.ntmps6
    go_wp2_with fail
    refine (alive3_any _).mono ?_
    rintro e w1 ⟨rfl, b1⟩
    go_wp2
    go_ret
    exact ⟨rfl, b1⟩

set_option maxRecDepth 100000 in
theorem lifted (os : Os) (started : os.Started) (H : Type) (enc : TypeId × Value → H) :
    ReturnsInHanded {} Try.checked os 6 .any (Rows.macSamesSpec.pre6 enc Try.prog Try.f6 Rows.macSamesRow.domain false) (Rows.macSamesSpec.post enc Try.prog Try.f6 false true false false) := by
  refine returnsInHanded_of_change (C := Try.checked) own started (by kernel_rfl) Try.func6
    (ChangeSpec.witness6 (enc := enc) (C := Try.checked) false ⟨#[], #[.string ByteArray.empty, .string ByteArray.empty], []⟩ 8 (by kernel_rfl) (by kernel_rfl) (by kernel_rfl) (by kernel_rfl)) ?_
  intro W base args ds gs before hval0 hW hcnd _
  have hval : ∀ (j : Nat) t v, Try.f6.params[j]? = some t → args[j]? = some v → Value.okWide Try.prog W .any base t v := hval0
  have hW' := hW
  obtain ⟨p, q, hA0, hV, rfl, hfz, hnd⟩ := hW
  have hA : DataW.TrodAll enc Try.prog W 0 (fun _ => true) true Try.f6.params.toList args.toList ds p := hA0
  rw [Try.params6] at hA hval
  obtain ⟨v0, vs0, d0, ds0, p0, q0, hargs, rfl, rfl, h0, r0⟩ := trodAll_cons hA
  obtain ⟨v1, vs1, d1, ds1, p1, q1, rfl, rfl, rfl, h1, r1⟩ := trodAll_cons r0
  obtain ⟨rfl, rfl, rfl⟩ := trodAll_nil r1
  obtain rfl : args = #[v0, v1] := by cases args; simp_all
  obtain ⟨rfl, rfl⟩ := trodVars_none hV
  obtain ⟨a0, rfl, rfl, rfl, w0⟩ := open_string Try.underlying9 (hval 0 9 v0 rfl rfl) h0
  obtain ⟨a1, rfl, rfl, rfl, w1⟩ := open_string Try.underlying9 (hval 1 9 v1 rfl rfl) h1
  clear hA0 hval0
  simp only [List.append_nil] at hW'
  refine (walk a0 a1 w0 w1 W).mono fun e W' ⟨he, hg⟩ => ?_
  subst he
  exact ⟨_, rfl, _, _, _, [], [], [], hW', (trodAll_cons_mk (shut_bool Try.underlying4 _) trodAll_mk0), (trodAll_cons_mk (shut_string Try.underlying9 w0) (trodAll_cons_mk (shut_string Try.underlying9 w1) trodAll_mk0)), rfl, hg.frame _, fun h => by cases h⟩

theorem over : Rows.macSamesRow.holds Try.pinned (OpenSpec.ofChange Rows.macSamesSpec) :=
  OpenClaim.holds_of_wide 6 Try.f6 rfl rfl rfl rfl rfl rfl rfl ⟨rfl, rfl, rfl, rfl, rfl⟩ rfl rfl rfl rfl rfl (by kernel_rfl) Try.func6 (by kernel_rfl)
    (of_decide_eq_true (by kernel_rfl)) (by unfold Func.isWrapper; first | (rw [if_pos (by decide +kernel)]; kernel_rfl) | (rw [if_neg (by decide +kernel)]; exact ⟨rfl, rfl⟩))
    (fun os started H enc _ => lifted os started H enc)

theorem proved : Rows.MacSamesSaid :=
  over
#print axioms proved
end Go.Proofs.Ytbnhahbnggojiaa.macSames
