/- Promise P601: for all texts half and b the law OnetimeOne answers true at the landed code: multiplied by 1, a block is told as it is, with the key's second half. No condition. -/
import Derived.Test.YtjccdfnhcifgiaaRows
import Derived.WalkKit
import Derived.ProofKit
import Derived.OpenShut
import Derived.ShutString
import Derived.Test.YtjccdfnhcifgiaaStr6
namespace Go.Proofs.Ytjccdfnhcifgiaa.onetimeOne
open Go.ChangeShapes Go.WideShapes Go.ChangeAt Go.RowKit
open Go.ChangeMaps (open_string shut_string)
set_option linter.unusedVariables false      -- a walk need not use every 'w<i>' (that an integer argument fits its kind)

theorem own : ownKnob Try.prog.godebug = none := by kernel_rfl

set_option maxHeartbeats 4000000 in
set_option maxRecDepth 100000 in
theorem walk (a0 : ByteArray) (a1 : ByteArray) (w0 : a0.size ≤ maxLen) (w1 : a1.size ≤ maxLen) (w : World) :
    Calls Try.prog 8 #[.string a0, .string a1] w fun e w' => e = .returned (.bool true) ∧ Below w.heap.size w w' := by
  unfold maxLen at w0 w1
  · have f1 := fun w => law5_fill16 a0 w (by omega)
    have f2 := fun w => law5_fill16 a1 w (by omega)
    have z1 := fillS_size a0 16
    have z2 := fillS_size a1 16
    generalize fillS a0 16 = half at *
    generalize fillS a1 16 = bb at *
    have hz := zeros_size 15
    have hy : (⟨#[1]⟩ ++ zeros 15 : ByteArray).size = 16 := by rw [ByteArray.size_append, hz]; rfl
    have hzh : (⟨#[1]⟩ ++ zeros 15 ++ half).size = 32 := by rw [ByteArray.size_append, hy, z1]
    have p1 := fun w => onetime_tag_yes (⟨#[1]⟩ ++ zeros 15 ++ half) bb w hzh (by omega)
    rw [tag_one half bb z1 z2] at p1
    have q1 := fun w => law6_sum bb half w z2 z1
    have h1 := str_beq_self (put16S (leV bb.data.toList + leV half.data.toList))
    have hmk : ∀ w, (Instr.makeSlice 30 (.int .i64 15) (.int .i64 15)).run Try.prog w = .ok (.slice (some ⟨w.heap.size, 0, none⟩) 15 15) (w.alloc (zeroRow 15)) := make8 15 (by decide)
    have hcv := conv_new 15 (by omega)
    generalize put16S (leV bb.data.toList + leV half.data.toList) = S at *
    generalize zeros 15 = Z at *
    have hy2 : (⟨#[1]⟩ : ByteArray).size = 1 := rfl
    have F1 : Hid _ := f1
    have F2 : Hid _ := f2
    have P1 : Hid _ := p1
    have Q1 : Hid _ := q1
    clear f1 f2 p1 q1 hzh w0 w1
    go_enter Try.func8, Try.ntmps8
    go_wp2_with fail
    refine (alive6_any _).mono ?_
    rintro e w1 ⟨rfl, b⟩
    go_wp2_with fail
    with_reducible refine (F1.out _).mono ?_
    rintro e w' ⟨rfl, rfl⟩
    go_wp2_with fail
    with_reducible refine (F2.out _).mono ?_
    rintro e w' ⟨rfl, rfl⟩
    replace b := b.alloc b.size (zeroRow 15)
    go_wp2_with fail
    with_reducible refine (P1.out _).mono ?_
    rintro e w' ⟨rfl, b'⟩
    replace b := bel_on b b'
    clear b'
    go_wp2_with fail
    with_reducible refine (Q1.out _).mono ?_
    rintro e w' ⟨rfl, b'⟩
    replace b := bel_on b b'
    clear b'
    go_wp2
    go_ret
    exact ⟨rfl, b⟩

set_option maxRecDepth 100000 in
theorem lifted (os : Os) (started : os.Started) (H : Type) (enc : TypeId × Value → H) :
    ReturnsInHanded {} Try.checked os 8 .any (Rows.onetimeOneSpec.pre6 enc Try.prog Try.f8 Rows.onetimeOneRow.domain false) (Rows.onetimeOneSpec.post enc Try.prog Try.f8 false true false false) := by
  refine returnsInHanded_of_change (C := Try.checked) own started (by kernel_rfl) Try.func8
    (ChangeSpec.witness6 (enc := enc) (C := Try.checked) false ⟨#[], #[.string ByteArray.empty, .string ByteArray.empty], []⟩ 8 (by kernel_rfl) (by kernel_rfl) (by kernel_rfl) (by kernel_rfl)) ?_
  intro W base args ds gs before hval0 hW hcnd _
  have hval : ∀ (j : Nat) t v, Try.f8.params[j]? = some t → args[j]? = some v → Value.okWide Try.prog W .any base t v := hval0
  have hW' := hW
  obtain ⟨p, q, hA0, hV, rfl, hfz, hnd⟩ := hW
  have hA : DataW.TrodAll enc Try.prog W 0 (fun _ => true) true Try.f8.params.toList args.toList ds p := hA0
  rw [Try.params8] at hA hval
  obtain ⟨v0, vs0, d0, ds0, p0, q0, hargs, rfl, rfl, h0, r0⟩ := trodAll_cons hA
  obtain ⟨v1, vs1, d1, ds1, p1, q1, rfl, rfl, rfl, h1, r1⟩ := trodAll_cons r0
  obtain ⟨rfl, rfl, rfl⟩ := trodAll_nil r1
  obtain rfl : args = #[v0, v1] := by cases args; simp_all
  obtain ⟨rfl, rfl⟩ := trodVars_none hV
  obtain ⟨a0, rfl, rfl, rfl, w0⟩ := open_string Try.underlying9 (hval 0 9 v0 rfl rfl) h0
  obtain ⟨a1, rfl, rfl, rfl, w1⟩ := open_string Try.underlying9 (hval 1 9 v1 rfl rfl) h1
  clear hA0 hval0
  simp only [List.append_nil] at hW'
  refine (walk a0 a1 w0 w1 W).mono fun e W' ⟨he, hg⟩ => ?_
  subst he
  exact ⟨_, rfl, _, _, _, [], [], [], hW', (trodAll_cons_mk (shut_bool Try.underlying4 _) trodAll_mk0), (trodAll_cons_mk (shut_string Try.underlying9 w0) (trodAll_cons_mk (shut_string Try.underlying9 w1) trodAll_mk0)), rfl, hg.frame _, fun h => by cases h⟩

theorem over : Rows.onetimeOneRow.holds Try.pinned (OpenSpec.ofChange Rows.onetimeOneSpec) :=
  OpenClaim.holds_of_wide 8 Try.f8 rfl rfl rfl rfl rfl rfl rfl ⟨rfl, rfl, rfl, rfl, rfl⟩ rfl rfl rfl rfl rfl (by kernel_rfl) Try.func8 (by kernel_rfl)
    (of_decide_eq_true (by kernel_rfl)) (by unfold Func.isWrapper; first | (rw [if_pos (by decide +kernel)]; kernel_rfl) | (rw [if_neg (by decide +kernel)]; exact ⟨rfl, rfl⟩))
    (fun os started H enc _ => lifted os started H enc)

theorem proved : Rows.OnetimeOneSaid :=
  over
#print axioms proved
end Go.Proofs.Ytjccdfnhcifgiaa.onetimeOne
