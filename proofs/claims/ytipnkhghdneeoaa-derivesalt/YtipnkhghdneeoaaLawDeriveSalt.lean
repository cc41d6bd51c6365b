/- Promise P401: for all texts secret, salt and info the law DeriveSalt answers true at the landed code: no salt counts as 32 zeros, and a key is what is expanded of the extracted one, which has 32 bytes. No condition; longer texts the law itself lets by. -/
import Derived.Test.YtipnkhghdneeoaaRows
import Derived.WalkKit
import Derived.ProofKit
import Derived.OpenShut
import Derived.ShutString
import Derived.Test.YtipnkhghdneeoaaConv0
namespace Go.Proofs.Ytipnkhghdneeoaa.deriveSalt
open Go.ChangeShapes Go.WideShapes Go.ChangeAt Go.RowKit
open Go.ChangeMaps (open_string shut_string)
set_option linter.unusedVariables false      -- a walk need not use every 'w<i>' (that an integer argument fits its kind)

theorem own : ownKnob Try.prog.godebug = none := by kernel_rfl

set_option maxHeartbeats 4000000 in
set_option maxRecDepth 100000 in
theorem walk (a0 : ByteArray) (a1 : ByteArray) (a2 : ByteArray) (w0 : a0.size ≤ maxLen) (w1 : a1.size ≤ maxLen) (w2 : a2.size ≤ maxLen) (w : World) :
    Calls Try.prog 5 #[.string a0, .string a1, .string a2] w fun e w' => e = .returned (.bool true) ∧ Below w.heap.size w w' := by
  unfold maxLen at w0 w1 w2
  cases d1 : decide (100 < (a0.size : Int))
  cases d2 : decide (100 < (a1.size : Int))
  cases d3 : decide (100 < (a2.size : Int))
  · have h1 : a0.size ≤ 100 := by rw [decide_eq_false_iff_not] at d1; omega
    have h2 : a1.size ≤ 100 := by rw [decide_eq_false_iff_not] at d2; omega
    have h3 : a2.size ≤ 100 := by rw [decide_eq_false_iff_not] at d3; omega
    clear w0 w1 w2
    have hzs := zeros_size 32
    have hk := extS_size a1 a0
    have px : Hid (∀ w, Calls Try.prog 11 #[.string a1, .string a0] w fun e w' => e = .returned (.string (extS a1 a0)) ∧ Below w.heap.size w w') := fun w => derive_extract a1 a0 w (by omega) (by omega)
    have pe : Hid (∀ w, Calls Try.prog 11 #[.string ⟨#[]⟩, .string a0] w fun e w' => e = .returned (.string (extS ⟨#[]⟩ a0)) ∧ Below w.heap.size w w') := fun w => derive_extract ⟨#[]⟩ a0 w (by decide) (by omega)
    have pz : Hid (∀ w, Calls Try.prog 11 #[.string (zeros 32), .string a0] w fun e w' => e = .returned (.string (extS ⟨#[]⟩ a0)) ∧ Below w.heap.size w w') := fun w => by
      have := derive_extract (zeros 32) a0 w (by omega) (by omega)
      rwa [extS_zeros] at this
    have pp : Hid (∀ w, Calls Try.prog 9 #[.string (extS a1 a0), .string a2, .int .i64 32] w fun e w' => e = .returned (.tuple #[.string (expS (extS a1 a0) a2 32), .bool true]) ∧ Below w.heap.size w w') := fun w => derive_expand (extS a1 a0) a2 32 w (by omega) (by omega) (by decide)
    have pk : Hid (∀ w, Calls Try.prog 13 #[.string a0, .string a1, .string a2] w fun e w' => e = .returned (.string (expS (extS a1 a0) a2 32)) ∧ Below w.heap.size w w') := fun w => derive_key a0 a1 a2 w (by omega) (by omega) (by omega)
    have s1 := str_beq_self (extS ⟨#[]⟩ a0)
    have s2 := str_beq_self (expS (extS a1 a0) a2 32)
    generalize expS (extS a1 a0) a2 32 = k at *
    generalize extS ⟨#[]⟩ a0 = e0 at *
    generalize extS a1 a0 = x at *
    have hmk : ∀ w, (Instr.makeSlice 29 (.int .i64 32) (.int .i64 32)).run Try.prog w = .ok (.slice (some ⟨w.heap.size, 0, none⟩) 32 32) (w.alloc (zeroRow 32)) := make8 32 (by decide)
    have hcv := conv_new 32 (by omega)
    have hcvd := conv_new_drew 32 (by omega)
    obtain ⟨Z, hZ⟩ : ∃ Z, Z = zeros 32 := ⟨_, rfl⟩
    rw [← hZ] at hcv hcvd pz hzs
    have HZ : Hid (Z = zeros 32) := hZ
    clear hZ
    have h32 : 32 ≤ 140737488355328 := by omega
    go_enter Try.func5, Try.ntmps5
    go_wp2_with fail
    refine (alive4_any _).mono ?_
    rintro e w1 ⟨rfl, b3⟩
    go_wp2_with fail
    refine (px.out _).mono ?_
    rintro e w' ⟨rfl, b'⟩
    replace b3 := bel_chain b3 b'
    clear b'
    go_wp2_with fail
    refine (pp.out _).mono ?_
    rintro e w' ⟨rfl, b'⟩
    replace b3 := bel_chain b3 b'
    clear b'
    go_wp2_with fail
    replace b3 := b3.drew
    simp only [opConv_is]
    have hop := opConv_back
    go_region_held3 (fun w' => True) (exact True.intro) (first | (go_at_call 11; (first | with_reducible refine (px.out _).mono ?_ | with_reducible refine (pe.out _).mono ?_ | with_reducible refine (pz.out _).mono ?_); rintro e w' ⟨rfl, b⟩; (first | (with_reducible (replace b3 := bel_chain b3 b)) | replace b3 := bel_chain (b3.alloc b3.size _) b | replace b3 := bel_chain b3 b); (try (first | have hcx := conv_after h32 HZ.out b | have hcx := conv_after_drew h32 HZ.out b)); clear b) | (go_at_call 13; with_reducible refine (pk.out _).mono ?_; rintro e w' ⟨rfl, b⟩; (first | (with_reducible (replace b3 := bel_chain b3 b)) | replace b3 := bel_chain (b3.alloc b3.size _) b | replace b3 := bel_chain b3 b); clear b))
    all_goals
      go_wp2
      go_ret
      exact ⟨rfl, by first | exact b3 | exact b3.alloc b3.size _ | exact (b3.alloc b3.size _).drew⟩
  all_goals
    go_enter Try.func5, Try.ntmps5
    go_wp2_with fail
    refine (alive4_any _).mono ?_
    rintro e w1 ⟨rfl, b1⟩
    go_wp2
    go_ret
    exact ⟨rfl, b1⟩

set_option maxRecDepth 100000 in
theorem lifted (os : Os) (started : os.Started) (H : Type) (enc : TypeId × Value → H) :
    ReturnsInHanded {} Try.checked os 5 .any (Rows.deriveSaltSpec.pre6 enc Try.prog Try.f5 Rows.deriveSaltRow.domain false) (Rows.deriveSaltSpec.post enc Try.prog Try.f5 false true false false) := by
  refine returnsInHanded_of_change (C := Try.checked) own started (by kernel_rfl) Try.func5
    (ChangeSpec.witness6 (enc := enc) (C := Try.checked) false ⟨#[], #[.string ByteArray.empty, .string ByteArray.empty, .string ByteArray.empty], []⟩ 8 (by kernel_rfl) (by kernel_rfl) (by kernel_rfl) (by kernel_rfl)) ?_
  intro W base args ds gs before hval0 hW hcnd _
  have hval : ∀ (j : Nat) t v, Try.f5.params[j]? = some t → args[j]? = some v → Value.okWide Try.prog W .any base t v := hval0
  have hW' := hW
  obtain ⟨p, q, hA0, hV, rfl, hfz, hnd⟩ := hW
  have hA : DataW.TrodAll enc Try.prog W 0 (fun _ => true) true Try.f5.params.toList args.toList ds p := hA0
  rw [Try.params5] at hA hval
  obtain ⟨v0, vs0, d0, ds0, p0, q0, hargs, rfl, rfl, h0, r0⟩ := trodAll_cons hA
  obtain ⟨v1, vs1, d1, ds1, p1, q1, rfl, rfl, rfl, h1, r1⟩ := trodAll_cons r0
  obtain ⟨v2, vs2, d2, ds2, p2, q2, rfl, rfl, rfl, h2, r2⟩ := trodAll_cons r1
  obtain ⟨rfl, rfl, rfl⟩ := trodAll_nil r2
  obtain rfl : args = #[v0, v1, v2] := by cases args; simp_all
  obtain ⟨rfl, rfl⟩ := trodVars_none hV
  obtain ⟨a0, rfl, rfl, rfl, w0⟩ := open_string Try.underlying9 (hval 0 9 v0 rfl rfl) h0
  obtain ⟨a1, rfl, rfl, rfl, w1⟩ := open_string Try.underlying9 (hval 1 9 v1 rfl rfl) h1
  obtain ⟨a2, rfl, rfl, rfl, w2⟩ := open_string Try.underlying9 (hval 2 9 v2 rfl rfl) h2
  clear hA0 hval0
  simp only [List.append_nil] at hW'
  refine (walk a0 a1 a2 w0 w1 w2 W).mono fun e W' ⟨he, hg⟩ => ?_
  subst he
  exact ⟨_, rfl, _, _, _, [], [], [], hW', (trodAll_cons_mk (shut_bool Try.underlying4 _) trodAll_mk0), (trodAll_cons_mk (shut_string Try.underlying9 w0) (trodAll_cons_mk (shut_string Try.underlying9 w1) (trodAll_cons_mk (shut_string Try.underlying9 w2) trodAll_mk0))), rfl, hg.frame _, fun h => by cases h⟩

theorem over : Rows.deriveSaltRow.holds Try.pinned (OpenSpec.ofChange Rows.deriveSaltSpec) :=
  OpenClaim.holds_of_wide 5 Try.f5 rfl rfl rfl rfl rfl rfl rfl ⟨rfl, rfl, rfl, rfl, rfl⟩ rfl rfl rfl rfl rfl (by kernel_rfl) Try.func5 (by kernel_rfl)
    (of_decide_eq_true (by kernel_rfl)) (by unfold Func.isWrapper; first | (rw [if_pos (by decide +kernel)]; kernel_rfl) | (rw [if_neg (by decide +kernel)]; exact ⟨rfl, rfl⟩))
    (fun os started H enc _ => lifted os started H enc)

theorem proved : Rows.DeriveSaltSaid :=
  over
#print axioms proved
end Go.Proofs.Ytipnkhghdneeoaa.deriveSalt
