/- Promise P601: for all texts key and b the law OnetimeClamped answers true at the landed code: of the first half of a key the clamped bits alone count, for the tag and for Clamp itself. No condition; longer texts the law itself lets by. -/
import Derived.Test.YtjccdfnhcifgiaaRows
import Derived.WalkKit
import Derived.ProofKit
import Derived.OpenShut
import Derived.ShutString
import Derived.Test.YtjccdfnhcifgiaaStr6
namespace Go.Proofs.Ytjccdfnhcifgiaa.onetimeClamped
open Go.ChangeShapes Go.WideShapes Go.ChangeAt Go.RowKit
open Go.ChangeMaps (open_string shut_string)
set_option linter.unusedVariables false      -- a walk need not use every 'w<i>' (that an integer argument fits its kind)

theorem own : ownKnob Try.prog.godebug = none := by kernel_rfl

set_option maxHeartbeats 4000000 in
set_option maxRecDepth 100000 in
theorem walk (a0 : ByteArray) (a1 : ByteArray) (w0 : a0.size ≤ maxLen) (w1 : a1.size ≤ maxLen) (w : World) :
    Calls Try.prog 7 #[.string a0, .string a1] w fun e w' => e = .returned (.bool true) ∧ Below w.heap.size w w' := by
  unfold maxLen at w0 w1
  cases d1 : decide (300 < (a1.size : Int))
  · have g1 : a1.size ≤ 300 := by rw [decide_eq_false_iff_not] at d1; omega
    have f1 := fun w => law5_fill32 a0 w (by omega)
    have z1 := fillS_size a0 32
    generalize fillS a0 32 = key at *
    have yc := clampS_size key
    have hck : (clampS key ++ key.extract 16 32).size = 32 := by rw [ByteArray.size_append, yc, ByteArray.size_extract, z1]; rfl
    have p1 := fun w => onetime_clamp_yes key w z1
    have p2 := fun w => onetime_tag_yes key a1 w z1 (by omega)
    have p3 := fun w => onetime_tag_yes (clampS key ++ key.extract 16 32) a1 w hck (by omega)
    have p4 := fun w => onetime_clamp_yes (clampS key ++ key.extract 16 32) w hck
    rw [tag_clamped key a1 z1] at p3
    rw [clamp_again key z1] at p4
    have h1 := str_beq_self (tagS key a1)
    have h2 := str_beq_self (clampS key)
    have hx : (key.extract 16 32).size = 16 := by rw [ByteArray.size_extract, z1]; rfl
    generalize tagS key a1 = T at *
    generalize clampS key = c at *
    have F1 : Hid _ := f1
    have P1 : Hid _ := p1
    have P2 : Hid _ := p2
    have P3 : Hid _ := p3
    have P4 : Hid _ := p4
    clear f1 p1 p2 p3 p4 hck w0 w1
    go_enter Try.func7, Try.ntmps7
    go_wp2_with fail
    refine (alive6_any _).mono ?_
    rintro e w1 ⟨rfl, b⟩
    go_wp2_with fail
    with_reducible refine (F1.out _).mono ?_
    rintro e w' ⟨rfl, rfl⟩
    go_wp2_with fail
    with_reducible refine (P1.out _).mono ?_
    rintro e w' ⟨rfl, b'⟩
    replace b := bel_on b b'
    clear b'
    go_wp2_with fail
    with_reducible refine (P2.out _).mono ?_
    rintro e w' ⟨rfl, b'⟩
    replace b := bel_on b b'
    clear b'
    go_wp2_with fail
    with_reducible refine (P3.out _).mono ?_
    rintro e w' ⟨rfl, b'⟩
    replace b := bel_on b b'
    clear b'
    go_wp2_with fail
    with_reducible refine (P4.out _).mono ?_
    rintro e w' ⟨rfl, b'⟩
    replace b := bel_on b b'
    clear b'
    go_wp2
    go_ret
    exact ⟨rfl, b⟩
  all_goals
    go_enter Try.func7, Try.ntmps7
    go_wp2_with fail
    refine (alive6_any _).mono ?_
    rintro e w1 ⟨rfl, b⟩
    go_wp2
    go_ret
    exact ⟨rfl, b⟩

set_option maxRecDepth 100000 in
theorem lifted (os : Os) (started : os.Started) (H : Type) (enc : TypeId × Value → H) :
    ReturnsInHanded {} Try.checked os 7 .any (Rows.onetimeClampedSpec.pre6 enc Try.prog Try.f7 Rows.onetimeClampedRow.domain false) (Rows.onetimeClampedSpec.post enc Try.prog Try.f7 false true false false) := by
  refine returnsInHanded_of_change (C := Try.checked) own started (by kernel_rfl) Try.func7
    (ChangeSpec.witness6 (enc := enc) (C := Try.checked) false ⟨#[], #[.string ByteArray.empty, .string ByteArray.empty], []⟩ 8 (by kernel_rfl) (by kernel_rfl) (by kernel_rfl) (by kernel_rfl)) ?_
  intro W base args ds gs before hval0 hW hcnd _
  have hval : ∀ (j : Nat) t v, Try.f7.params[j]? = some t → args[j]? = some v → Value.okWide Try.prog W .any base t v := hval0
  have hW' := hW
  obtain ⟨p, q, hA0, hV, rfl, hfz, hnd⟩ := hW
  have hA : DataW.TrodAll enc Try.prog W 0 (fun _ => true) true Try.f7.params.toList args.toList ds p := hA0
  rw [Try.params7] at hA hval
  obtain ⟨v0, vs0, d0, ds0, p0, q0, hargs, rfl, rfl, h0, r0⟩ := trodAll_cons hA
  obtain ⟨v1, vs1, d1, ds1, p1, q1, rfl, rfl, rfl, h1, r1⟩ := trodAll_cons r0
  obtain ⟨rfl, rfl, rfl⟩ := trodAll_nil r1
  obtain rfl : args = #[v0, v1] := by cases args; simp_all
  obtain ⟨rfl, rfl⟩ := trodVars_none hV
  obtain ⟨a0, rfl, rfl, rfl, w0⟩ := open_string Try.underlying9 (hval 0 9 v0 rfl rfl) h0
  obtain ⟨a1, rfl, rfl, rfl, w1⟩ := open_string Try.underlying9 (hval 1 9 v1 rfl rfl) h1
  clear hA0 hval0
  simp only [List.append_nil] at hW'
  refine (walk a0 a1 w0 w1 W).mono fun e W' ⟨he, hg⟩ => ?_
  subst he
  exact ⟨_, rfl, _, _, _, [], [], [], hW', (trodAll_cons_mk (shut_bool Try.underlying4 _) trodAll_mk0), (trodAll_cons_mk (shut_string Try.underlying9 w0) (trodAll_cons_mk (shut_string Try.underlying9 w1) trodAll_mk0)), rfl, hg.frame _, fun h => by cases h⟩

theorem over : Rows.onetimeClampedRow.holds Try.pinned (OpenSpec.ofChange Rows.onetimeClampedSpec) :=
  OpenClaim.holds_of_wide 7 Try.f7 rfl rfl rfl rfl rfl rfl rfl ⟨rfl, rfl, rfl, rfl, rfl⟩ rfl rfl rfl rfl rfl (by kernel_rfl) Try.func7 (by kernel_rfl)
    (of_decide_eq_true (by kernel_rfl)) (by unfold Func.isWrapper; first | (rw [if_pos (by decide +kernel)]; kernel_rfl) | (rw [if_neg (by decide +kernel)]; exact ⟨rfl, rfl⟩))
    (fun os started H enc _ => lifted os started H enc)

theorem proved : Rows.OnetimeClampedSaid :=
  over
#print axioms proved
end Go.Proofs.Ytjccdfnhcifgiaa.onetimeClamped
