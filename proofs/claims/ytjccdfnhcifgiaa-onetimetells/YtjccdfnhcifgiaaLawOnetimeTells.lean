/- Promise P601: for all texts key and b and either way of raw the law OnetimeTells answers true at the landed code: onetime.Tag and onetime.Clamp tell the document's own reckoning (the reference), or, where a key has not 32 bytes, that they may not be. No condition; longer texts the law itself lets by. -/
import Derived.Test.YtjccdfnhcifgiaaRows
import Derived.WalkKit
import Derived.ProofKit
import Derived.OpenShut
import Derived.ShutString
import Derived.Test.YtjccdfnhcifgiaaRefQ
namespace Go.Proofs.Ytjccdfnhcifgiaa.onetimeTells
open Go.ChangeShapes Go.WideShapes Go.ChangeAt Go.RowKit
open Go.ChangeMaps (open_string shut_string)
set_option linter.unusedVariables false      -- a walk need not use every 'w<i>' (that an integer argument fits its kind)

theorem own : ownKnob Try.prog.godebug = none := by kernel_rfl

set_option maxHeartbeats 4000000 in
set_option maxRecDepth 100000 in
theorem walk (a0 : ByteArray) (a1 : ByteArray) (a2 : Bool) (w0 : a0.size ≤ maxLen) (w1 : a1.size ≤ maxLen) (w : World) :
    Calls Try.prog 3 #[.string a0, .string a1, .bool a2] w fun e w' => e = .returned (.bool true) ∧ Below w.heap.size w w' := by
  unfold maxLen at w0 w1
  cases d1 : decide (100 < (a0.size : Int))
  cases d2 : decide (500 < (a1.size : Int))
  · have g1 : a0.size ≤ 100 := by rw [decide_eq_false_iff_not] at d1; omega
    have g2 : a1.size ≤ 500 := by rw [decide_eq_false_iff_not] at d2; omega
    clear w0 w1
    cases a2
    · have f1 := fun w => law5_fill32 a0 w (by omega)
      have h32 := fillS_size a0 32
      generalize fillS a0 32 = K at *
      have p1 := fun w => onetime_tag_yes K a1 w h32 (by omega)
      have p2 := fun w => onetime_clamp_yes K w h32
      have p3 := fun w => ref_tag K a1 w h32 (by omega)
      have p4 := fun w => ref_clamp K w h32
      have e1 := str_beq_self (tagS K a1)
      have e2 := str_beq_self (clampS K)
      generalize tagS K a1 = T at *
      generalize clampS K = c at *
      have P1 : Hid _ := p1
      have P2 : Hid _ := p2
      have P3 : Hid _ := p3
      have P4 : Hid _ := p4
      have F1 : Hid _ := f1
      clear f1
      clear p1 p2 p3 p4
      go_enter Try.func3, Try.ntmps3
      go_wp2_with fail
      refine (alive6_any _).mono ?_
      rintro e w1 ⟨rfl, b⟩
      go_wp2_with fail
      with_reducible refine (F1.out _).mono ?_
      rintro e w' ⟨rfl, rfl⟩
      go_wp2_with fail
      with_reducible refine (P1.out _).mono ?_
      rintro e w' ⟨rfl, b'⟩
      replace b := bel_on b b'
      clear b'
      go_wp2_with fail
      with_reducible refine (P2.out _).mono ?_
      rintro e w' ⟨rfl, b'⟩
      replace b := bel_on b b'
      clear b'
      go_wp2_with fail
      with_reducible refine (P3.out _).mono ?_
      rintro e w' ⟨rfl, b'⟩
      replace b := bel_on b b'
      clear b'
      go_wp2_with fail
      with_reducible refine (P4.out _).mono ?_
      rintro e w' ⟨rfl, b'⟩
      replace b := bel_on b b'
      clear b'
      go_wp2
      go_ret
      exact ⟨rfl, b⟩
    · by_cases h32 : a0.size = 32
      · have p1 := fun w => onetime_tag_yes a0 a1 w h32 (by omega)
        have p2 := fun w => onetime_clamp_yes a0 w h32
        have p3 := fun w => ref_tag a0 a1 w h32 (by omega)
        have p4 := fun w => ref_clamp a0 w h32
        have e1 := str_beq_self (tagS a0 a1)
        have e2 := str_beq_self (clampS a0)
        generalize tagS a0 a1 = T at *
        generalize clampS a0 = c at *
        have P1 : Hid _ := p1
        have P2 : Hid _ := p2
        have P3 : Hid _ := p3
        have P4 : Hid _ := p4
        clear p1 p2 p3 p4
        go_enter Try.func3, Try.ntmps3
        go_wp2_with fail
        refine (alive6_any _).mono ?_
        rintro e w1 ⟨rfl, b⟩
        go_wp2_with fail
        with_reducible refine (P1.out _).mono ?_
        rintro e w' ⟨rfl, b'⟩
        replace b := bel_on b b'
        clear b'
        go_wp2_with fail
        with_reducible refine (P2.out _).mono ?_
        rintro e w' ⟨rfl, b'⟩
        replace b := bel_on b b'
        clear b'
        go_wp2_with fail
        with_reducible refine (P3.out _).mono ?_
        rintro e w' ⟨rfl, b'⟩
        replace b := bel_on b b'
        clear b'
        go_wp2_with fail
        with_reducible refine (P4.out _).mono ?_
        rintro e w' ⟨rfl, b'⟩
        replace b := bel_on b b'
        clear b'
        go_wp2
        go_ret
        exact ⟨rfl, b⟩
      · have n32 : ((a0.size : Int) != 32) = true := by simp; omega
        have p1 := fun w => onetime_tag_no a0 a1 w h32
        have p2 := fun w => onetime_clamp_no a0 w h32
        have P1 : Hid _ := p1
        have P2 : Hid _ := p2
        clear p1 p2
        go_enter Try.func3, Try.ntmps3
        go_wp2_with fail
        refine (alive6_any _).mono ?_
        rintro e w1 ⟨rfl, b⟩
        go_wp2_with fail
        with_reducible refine (P1.out _).mono ?_
        rintro e w' ⟨rfl, rfl⟩
        go_wp2_with fail
        with_reducible refine (P2.out _).mono ?_
        rintro e w' ⟨rfl, rfl⟩
        go_wp2
        go_ret
        exact ⟨rfl, b⟩
  all_goals
    go_enter Try.func3, Try.ntmps3
    go_wp2_with fail
    refine (alive6_any _).mono ?_
    rintro e w1 ⟨rfl, b⟩
    go_wp2
    go_ret
    exact ⟨rfl, b⟩

set_option maxRecDepth 100000 in
theorem lifted (os : Os) (started : os.Started) (H : Type) (enc : TypeId × Value → H) :
    ReturnsInHanded {} Try.checked os 3 .any (Rows.onetimeTellsSpec.pre6 enc Try.prog Try.f3 Rows.onetimeTellsRow.domain false) (Rows.onetimeTellsSpec.post enc Try.prog Try.f3 false true false false) := by
  refine returnsInHanded_of_change (C := Try.checked) own started (by kernel_rfl) Try.func3
    (ChangeSpec.witness6 (enc := enc) (C := Try.checked) false ⟨#[], #[.string ByteArray.empty, .string ByteArray.empty, .bool false], []⟩ 8 (by kernel_rfl) (by kernel_rfl) (by kernel_rfl) (by kernel_rfl)) ?_
  intro W base args ds gs before hval0 hW hcnd _
  have hval : ∀ (j : Nat) t v, Try.f3.params[j]? = some t → args[j]? = some v → Value.okWide Try.prog W .any base t v := hval0
  have hW' := hW
  obtain ⟨p, q, hA0, hV, rfl, hfz, hnd⟩ := hW
  have hA : DataW.TrodAll enc Try.prog W 0 (fun _ => true) true Try.f3.params.toList args.toList ds p := hA0
  rw [Try.params3] at hA hval
  obtain ⟨v0, vs0, d0, ds0, p0, q0, hargs, rfl, rfl, h0, r0⟩ := trodAll_cons hA
  obtain ⟨v1, vs1, d1, ds1, p1, q1, rfl, rfl, rfl, h1, r1⟩ := trodAll_cons r0
  obtain ⟨v2, vs2, d2, ds2, p2, q2, rfl, rfl, rfl, h2, r2⟩ := trodAll_cons r1
  obtain ⟨rfl, rfl, rfl⟩ := trodAll_nil r2
  obtain rfl : args = #[v0, v1, v2] := by cases args; simp_all
  obtain ⟨rfl, rfl⟩ := trodVars_none hV
  obtain ⟨a0, rfl, rfl, rfl, w0⟩ := open_string Try.underlying9 (hval 0 9 v0 rfl rfl) h0
  obtain ⟨a1, rfl, rfl, rfl, w1⟩ := open_string Try.underlying9 (hval 1 9 v1 rfl rfl) h1
  obtain ⟨a2, rfl, rfl, rfl⟩ := open_bool Try.underlying4 (hval 2 4 v2 rfl rfl) h2
  clear hA0 hval0
  simp only [List.append_nil] at hW'
  refine (walk a0 a1 a2 w0 w1 W).mono fun e W' ⟨he, hg⟩ => ?_
  subst he
  exact ⟨_, rfl, _, _, _, [], [], [], hW', (trodAll_cons_mk (shut_bool Try.underlying4 _) trodAll_mk0), (trodAll_cons_mk (shut_string Try.underlying9 w0) (trodAll_cons_mk (shut_string Try.underlying9 w1) (trodAll_cons_mk (shut_bool Try.underlying4 _) trodAll_mk0))), rfl, hg.frame _, fun h => by cases h⟩

theorem over : Rows.onetimeTellsRow.holds Try.pinned (OpenSpec.ofChange Rows.onetimeTellsSpec) :=
  OpenClaim.holds_of_wide 3 Try.f3 rfl rfl rfl rfl rfl rfl rfl ⟨rfl, rfl, rfl, rfl, rfl⟩ rfl rfl rfl rfl rfl (by kernel_rfl) Try.func3 (by kernel_rfl)
    (of_decide_eq_true (by kernel_rfl)) (by unfold Func.isWrapper; first | (rw [if_pos (by decide +kernel)]; kernel_rfl) | (rw [if_neg (by decide +kernel)]; exact ⟨rfl, rfl⟩))
    (fun os started H enc _ => lifted os started H enc)

theorem proved : Rows.OnetimeTellsSaid :=
  over
#print axioms proved
end Go.Proofs.Ytjccdfnhcifgiaa.onetimeTells
