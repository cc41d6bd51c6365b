/- Promise P601: for all texts r, s, t and b the law OnetimeShifts answers true at the landed code: the second half of a key is added at the end, so the tags under two of them differ as they do. No condition; longer texts the law itself lets by. -/
import Derived.Test.YtjccdfnhcifgiaaRows
import Derived.WalkKit
import Derived.ProofKit
import Derived.OpenShut
import Derived.ShutString
import Derived.Test.YtjccdfnhcifgiaaStr6
namespace Go.Proofs.Ytjccdfnhcifgiaa.onetimeShifts
open Go.ChangeShapes Go.WideShapes Go.ChangeAt Go.RowKit
open Go.ChangeMaps (open_string shut_string)
set_option linter.unusedVariables false      -- a walk need not use every 'w<i>' (that an integer argument fits its kind)

theorem own : ownKnob Try.prog.godebug = none := by kernel_rfl

set_option maxHeartbeats 4000000 in
set_option maxRecDepth 100000 in
theorem walk (a0 : ByteArray) (a1 : ByteArray) (a2 : ByteArray) (a3 : ByteArray) (w0 : a0.size ≤ maxLen) (w1 : a1.size ≤ maxLen) (w2 : a2.size ≤ maxLen) (w3 : a3.size ≤ maxLen) (w : World) :
    Calls Try.prog 6 #[.string a0, .string a1, .string a2, .string a3] w fun e w' => e = .returned (.bool true) ∧ Below w.heap.size w w' := by
  unfold maxLen at w0 w1 w2 w3
  cases d1 : decide (300 < (a3.size : Int))
  · have g1 : a3.size ≤ 300 := by rw [decide_eq_false_iff_not] at d1; omega
    have f1 := fun w => law5_fill16 a0 w (by omega)
    have f2 := fun w => law5_fill16 a1 w (by omega)
    have f3 := fun w => law5_fill16 a2 w (by omega)
    have z1 := fillS_size a0 16
    have z2 := fillS_size a1 16
    have z3 := fillS_size a2 16
    generalize fillS a0 16 = r at *
    generalize fillS a1 16 = s at *
    generalize fillS a2 16 = t at *
    have hrs : (r ++ s).size = 32 := by rw [ByteArray.size_append, z1, z2]
    have hrt : (r ++ t).size = 32 := by rw [ByteArray.size_append, z1, z3]
    have p1 := fun w => onetime_tag_yes (r ++ s) a3 w hrs (by omega)
    have p2 := fun w => onetime_tag_yes (r ++ t) a3 w hrt (by omega)
    have y1 := tagS_size (r ++ s) a3
    have y2 := tagS_size (r ++ t) a3
    have q1 := fun w => law6_sum (tagS (r ++ s) a3) t w y1 z3
    have q2 := fun w => law6_sum (tagS (r ++ t) a3) s w y2 z2
    rw [tag_shift r s t a3 z1 z2] at q1
    rw [tag_shift r t s a3 z1 z3, Int.add_assoc, Int.add_comm (leV t.data.toList), ← Int.add_assoc] at q2
    generalize put16S (accTo (leV (clampL r.data.toList)) a3.data.toList ((a3.size + 15) / 16) + leV s.data.toList + leV t.data.toList) = S at *
    have hself := str_beq_self S
    generalize tagS (r ++ s) a3 = X at *
    generalize tagS (r ++ t) a3 = Y at *
    have F1 : Hid _ := f1
    have F2 : Hid _ := f2
    have F3 : Hid _ := f3
    have P1 : Hid _ := p1
    have P2 : Hid _ := p2
    have Q1 : Hid _ := q1
    have Q2 : Hid _ := q2
    clear f1 f2 f3 p1 p2 q1 q2 hrs hrt w0 w1 w2 w3
    go_enter Try.func6, Try.ntmps6
    go_wp2_with fail
    refine (alive6_any _).mono ?_
    rintro e w1 ⟨rfl, b⟩
    go_wp2_with fail
    with_reducible refine (F1.out _).mono ?_
    rintro e w' ⟨rfl, rfl⟩
    go_wp2_with fail
    with_reducible refine (F2.out _).mono ?_
    rintro e w' ⟨rfl, rfl⟩
    go_wp2_with fail
    with_reducible refine (F3.out _).mono ?_
    rintro e w' ⟨rfl, rfl⟩
    go_wp2_with fail
    with_reducible refine (P1.out _).mono ?_
    rintro e w' ⟨rfl, b'⟩
    replace b := bel_on b b'
    clear b'
    go_wp2_with fail
    with_reducible refine (P2.out _).mono ?_
    rintro e w' ⟨rfl, b'⟩
    replace b := bel_on b b'
    clear b'
    go_wp2_with fail
    with_reducible refine (Q1.out _).mono ?_
    rintro e w' ⟨rfl, b'⟩
    replace b := bel_on b b'
    clear b'
    go_wp2_with fail
    with_reducible refine (Q2.out _).mono ?_
    rintro e w' ⟨rfl, b'⟩
    replace b := bel_on b b'
    clear b'
    go_wp2
    go_ret
    exact ⟨rfl, b⟩
  all_goals
    go_enter Try.func6, Try.ntmps6
    go_wp2_with fail
    refine (alive6_any _).mono ?_
    rintro e w1 ⟨rfl, b⟩
    go_wp2
    go_ret
    exact ⟨rfl, b⟩

set_option maxRecDepth 100000 in
theorem lifted (os : Os) (started : os.Started) (H : Type) (enc : TypeId × Value → H) :
    ReturnsInHanded {} Try.checked os 6 .any (Rows.onetimeShiftsSpec.pre6 enc Try.prog Try.f6 Rows.onetimeShiftsRow.domain false) (Rows.onetimeShiftsSpec.post enc Try.prog Try.f6 false true false false) := by
  refine returnsInHanded_of_change (C := Try.checked) own started (by kernel_rfl) Try.func6
    (ChangeSpec.witness6 (enc := enc) (C := Try.checked) false ⟨#[], #[.string ByteArray.empty, .string ByteArray.empty, .string ByteArray.empty, .string ByteArray.empty], []⟩ 8 (by kernel_rfl) (by kernel_rfl) (by kernel_rfl) (by kernel_rfl)) ?_
  intro W base args ds gs before hval0 hW hcnd _
  have hval : ∀ (j : Nat) t v, Try.f6.params[j]? = some t → args[j]? = some v → Value.okWide Try.prog W .any base t v := hval0
  have hW' := hW
  obtain ⟨p, q, hA0, hV, rfl, hfz, hnd⟩ := hW
  have hA : DataW.TrodAll enc Try.prog W 0 (fun _ => true) true Try.f6.params.toList args.toList ds p := hA0
  rw [Try.params6] at hA hval
  obtain ⟨v0, vs0, d0, ds0, p0, q0, hargs, rfl, rfl, h0, r0⟩ := trodAll_cons hA
  obtain ⟨v1, vs1, d1, ds1, p1, q1, rfl, rfl, rfl, h1, r1⟩ := trodAll_cons r0
  obtain ⟨v2, vs2, d2, ds2, p2, q2, rfl, rfl, rfl, h2, r2⟩ := trodAll_cons r1
  obtain ⟨v3, vs3, d3, ds3, p3, q3, rfl, rfl, rfl, h3, r3⟩ := trodAll_cons r2
  obtain ⟨rfl, rfl, rfl⟩ := trodAll_nil r3
  obtain rfl : args = #[v0, v1, v2, v3] := by cases args; simp_all
  obtain ⟨rfl, rfl⟩ := trodVars_none hV
  obtain ⟨a0, rfl, rfl, rfl, w0⟩ := open_string Try.underlying9 (hval 0 9 v0 rfl rfl) h0
  obtain ⟨a1, rfl, rfl, rfl, w1⟩ := open_string Try.underlying9 (hval 1 9 v1 rfl rfl) h1
  obtain ⟨a2, rfl, rfl, rfl, w2⟩ := open_string Try.underlying9 (hval 2 9 v2 rfl rfl) h2
  obtain ⟨a3, rfl, rfl, rfl, w3⟩ := open_string Try.underlying9 (hval 3 9 v3 rfl rfl) h3
  clear hA0 hval0
  simp only [List.append_nil] at hW'
  refine (walk a0 a1 a2 a3 w0 w1 w2 w3 W).mono fun e W' ⟨he, hg⟩ => ?_
  subst he
  exact ⟨_, rfl, _, _, _, [], [], [], hW', (trodAll_cons_mk (shut_bool Try.underlying4 _) trodAll_mk0), (trodAll_cons_mk (shut_string Try.underlying9 w0) (trodAll_cons_mk (shut_string Try.underlying9 w1) (trodAll_cons_mk (shut_string Try.underlying9 w2) (trodAll_cons_mk (shut_string Try.underlying9 w3) trodAll_mk0)))), rfl, hg.frame _, fun h => by cases h⟩

theorem over : Rows.onetimeShiftsRow.holds Try.pinned (OpenSpec.ofChange Rows.onetimeShiftsSpec) :=
  OpenClaim.holds_of_wide 6 Try.f6 rfl rfl rfl rfl rfl rfl rfl ⟨rfl, rfl, rfl, rfl, rfl⟩ rfl rfl rfl rfl rfl (by kernel_rfl) Try.func6 (by kernel_rfl)
    (of_decide_eq_true (by kernel_rfl)) (by unfold Func.isWrapper; first | (rw [if_pos (by decide +kernel)]; kernel_rfl) | (rw [if_neg (by decide +kernel)]; exact ⟨rfl, rfl⟩))
    (fun os started H enc _ => lifted os started H enc)

theorem proved : Rows.OnetimeShiftsSaid :=
  over
#print axioms proved
end Go.Proofs.Ytjccdfnhcifgiaa.onetimeShifts
