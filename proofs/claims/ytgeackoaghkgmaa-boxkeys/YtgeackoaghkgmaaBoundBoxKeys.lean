/- Promise P701: for all texts key, other, nonce, second and plain the law BoxKeys answers true at the landed code: what was sealed is opened under another key, or another nonce, just if the document opens it (the reference), and under the same ones it is. No condition; longer texts the law itself lets by. -/
import Derived.Test.YtgeackoaghkgmaaRows
import Derived.WalkKit
import Derived.ProofKit
import Derived.OpenShut
import Derived.ShutString
import Derived.Test.YtgeackoaghkgmaaBun26
import Derived.Test.YtgeackoaghkgmaaBun27
namespace Go.Proofs.Ytgeackoaghkgmaa.boxKeys
open Go.ChangeShapes Go.WideShapes Go.ChangeAt Go.RowKit
open Go.ChangeMaps (open_string shut_string)
set_option linter.unusedVariables false      -- a walk need not use every 'w<i>' (that an integer argument fits its kind)

theorem own : ownKnob Try.prog.godebug = none := by kernel_rfl

set_option maxHeartbeats 4000000 in
set_option maxRecDepth 100000 in
theorem walk (a0 : ByteArray) (a1 : ByteArray) (a2 : ByteArray) (a3 : ByteArray) (a4 : ByteArray) (w0 : a0.size ≤ maxLen) (w1 : a1.size ≤ maxLen) (w2 : a2.size ≤ maxLen) (w3 : a3.size ≤ maxLen) (w4 : a4.size ≤ maxLen) (w : World) :
    Calls Try.prog 7 #[.string a0, .string a1, .string a2, .string a3, .string a4] w fun e w' => e = .returned (.bool true) ∧ Below w.heap.size w w' := by
  unfold maxLen at w0 w1 w2 w3 w4
  cases d1 : decide (200 < (a4.size : Int))
  · have g1 : a4.size ≤ 200 := by rw [decide_eq_false_iff_not] at d1; omega
    have F1 : Hid _ := fun w => law5_fill32 a0 w (by omega)
    have F2 : Hid _ := fun w => law5_fill32 a1 w (by omega)
    have F3 : Hid _ := fun w => law5_fill12 a2 w (by omega)
    have F4 : Hid _ := fun w => law5_fill12 a3 w (by omega)
    clear w0 w1 w2 w3 w4
    have h1 := fillS_size a0 32
    have h2 := fillS_size a1 32
    have h3 := fillS_size a2 12
    have h4 := fillS_size a3 12
    generalize fillS a0 32 = K at *
    generalize fillS a1 32 = K2 at *
    generalize fillS a2 12 = N at *
    generalize fillS a3 12 = N2 at *
    have hsz := sealS_size K N a4 ⟨#[]⟩
    have P1 : Hid _ := fun w => box_seal_yes K N a4 ⟨#[]⟩ w h1 h3 (by omega) (by decide)
    have P2 : Hid _ := fun w => box_open_yes K2 N (sealS K N a4 ⟨#[]⟩) ⟨#[]⟩ w h2 h3 (by omega) (by decide)
    have P3 : Hid _ := fun w => ref_unbox_yes K2 N (sealS K N a4 ⟨#[]⟩) ⟨#[]⟩ w h2 h3 (by omega) (by decide)
    have P4 : Hid _ := fun w => box_open_yes K N2 (sealS K N a4 ⟨#[]⟩) ⟨#[]⟩ w h1 h4 (by omega) (by decide)
    have P5 : Hid _ := fun w => ref_unbox_yes K N2 (sealS K N a4 ⟨#[]⟩) ⟨#[]⟩ w h1 h4 (by omega) (by decide)
    have k1 : (K.toList == K2.toList) = true → openOk K2 N (sealS K N a4 ⟨#[]⟩) ⟨#[]⟩ = true := by
      rw [str_beq, decide_eq_true_iff]; rintro rfl; exact (open_sealed K N a4 ⟨#[]⟩).1
    have k2 : (N.toList == N2.toList) = true → openOk K N2 (sealS K N a4 ⟨#[]⟩) ⟨#[]⟩ = true := by
      rw [str_beq, decide_eq_true_iff]; rintro rfl; exact (open_sealed K N a4 ⟨#[]⟩).1
    have e1 := str_beq_self (openS K2 N (sealS K N a4 ⟨#[]⟩) ⟨#[]⟩)
    have e2 := str_beq_self (openS K N2 (sealS K N a4 ⟨#[]⟩) ⟨#[]⟩)
    generalize openS K2 N (sealS K N a4 ⟨#[]⟩) ⟨#[]⟩ = O1 at *
    generalize openS K N2 (sealS K N a4 ⟨#[]⟩) ⟨#[]⟩ = O2 at *
    generalize openOk K2 N (sealS K N a4 ⟨#[]⟩) ⟨#[]⟩ = o1 at *
    generalize openOk K N2 (sealS K N a4 ⟨#[]⟩) ⟨#[]⟩ = o2 at *
    generalize sealS K N a4 ⟨#[]⟩ = S at *
    have f1 : (o1 == o1) = true := by cases o1 <;> rfl
    have f2 : (o2 == o2) = true := by cases o2 <;> rfl
    clear h1 h2 h3 h4
    cases q1 : (K.toList == K2.toList) <;> cases q2 : (N.toList == N2.toList)
    all_goals
      simp only [q1, q2, forall_const, Bool.false_eq_true, false_imp_iff] at k1 k2
      try subst k1
      try subst k2
      go_enter Try.func7, Try.ntmps7
      go_wp2_with fail
      refine (alive7_any _).mono ?_
      rintro e w1 ⟨rfl, b⟩
      go_wp2_with fail
      with_reducible refine (F1.out _).mono ?_
      rintro e w' ⟨rfl, rfl⟩
      go_wp2_with fail
      with_reducible refine (F2.out _).mono ?_
      rintro e w' ⟨rfl, rfl⟩
      go_wp2_with fail
      with_reducible refine (F3.out _).mono ?_
      rintro e w' ⟨rfl, rfl⟩
      go_wp2_with fail
      with_reducible refine (F4.out _).mono ?_
      rintro e w' ⟨rfl, rfl⟩
      go_wp2_with fail
      with_reducible refine (P1.out _).mono ?_
      rintro e w' ⟨rfl, b'⟩
      replace b := bel_chain' b b'
      clear b'
      go_wp2_with fail
      with_reducible refine (P2.out _).mono ?_
      rintro e w' ⟨rfl, b'⟩
      replace b := bel_chain' b b'
      clear b'
      go_wp2_with fail
      with_reducible refine (P3.out _).mono ?_
      rintro e w' ⟨rfl, b'⟩
      replace b := bel_chain' b b'
      clear b'
      go_wp2_with fail
      with_reducible refine (P4.out _).mono ?_
      rintro e w' ⟨rfl, b'⟩
      replace b := bel_chain' b b'
      clear b'
      go_wp2_with fail
      with_reducible refine (P5.out _).mono ?_
      rintro e w' ⟨rfl, b'⟩
      replace b := bel_chain' b b'
      clear b'
      go_wp2
      go_ret
      exact ⟨rfl, b⟩
  all_goals
    go_enter Try.func7, Try.ntmps7
    go_wp2_with fail
    refine (alive7_any _).mono ?_
    rintro e w1 ⟨rfl, b⟩
    go_wp2
    go_ret
    exact ⟨rfl, b⟩

set_option maxRecDepth 100000 in
theorem lifted (os : Os) (started : os.Started) (H : Type) (enc : TypeId × Value → H) :
    ReturnsInHanded {} Try.checked os 7 .any (Rows.boxKeysSpec.pre6 enc Try.prog Try.f7 Rows.boxKeysRow.domain false) (Rows.boxKeysSpec.post enc Try.prog Try.f7 false true false false) := by
  refine returnsInHanded_of_change (C := Try.checked) own started (by kernel_rfl) Try.func7
    (ChangeSpec.witness6 (enc := enc) (C := Try.checked) false ⟨#[], #[.string ByteArray.empty, .string ByteArray.empty, .string ByteArray.empty, .string ByteArray.empty, .string ByteArray.empty], []⟩ 8 (by kernel_rfl) (by kernel_rfl) (by kernel_rfl) (by kernel_rfl)) ?_
  intro W base args ds gs before hval0 hW hcnd _
  have hval : ∀ (j : Nat) t v, Try.f7.params[j]? = some t → args[j]? = some v → Value.okWide Try.prog W .any base t v := hval0
  have hW' := hW
  obtain ⟨p, q, hA0, hV, rfl, hfz, hnd⟩ := hW
  have hA : DataW.TrodAll enc Try.prog W 0 (fun _ => true) true Try.f7.params.toList args.toList ds p := hA0
  rw [Try.params7] at hA hval
  obtain ⟨v0, vs0, d0, ds0, p0, q0, hargs, rfl, rfl, h0, r0⟩ := trodAll_cons hA
  obtain ⟨v1, vs1, d1, ds1, p1, q1, rfl, rfl, rfl, h1, r1⟩ := trodAll_cons r0
  obtain ⟨v2, vs2, d2, ds2, p2, q2, rfl, rfl, rfl, h2, r2⟩ := trodAll_cons r1
  obtain ⟨v3, vs3, d3, ds3, p3, q3, rfl, rfl, rfl, h3, r3⟩ := trodAll_cons r2
  obtain ⟨v4, vs4, d4, ds4, p4, q4, rfl, rfl, rfl, h4, r4⟩ := trodAll_cons r3
  obtain ⟨rfl, rfl, rfl⟩ := trodAll_nil r4
  obtain rfl : args = #[v0, v1, v2, v3, v4] := by cases args; simp_all
  obtain ⟨rfl, rfl⟩ := trodVars_none hV
  obtain ⟨a0, rfl, rfl, rfl, w0⟩ := open_string Try.underlying9 (hval 0 9 v0 rfl rfl) h0
  obtain ⟨a1, rfl, rfl, rfl, w1⟩ := open_string Try.underlying9 (hval 1 9 v1 rfl rfl) h1
  obtain ⟨a2, rfl, rfl, rfl, w2⟩ := open_string Try.underlying9 (hval 2 9 v2 rfl rfl) h2
  obtain ⟨a3, rfl, rfl, rfl, w3⟩ := open_string Try.underlying9 (hval 3 9 v3 rfl rfl) h3
  obtain ⟨a4, rfl, rfl, rfl, w4⟩ := open_string Try.underlying9 (hval 4 9 v4 rfl rfl) h4
  clear hA0 hval0
  simp only [List.append_nil] at hW'
  refine (walk a0 a1 a2 a3 a4 w0 w1 w2 w3 w4 W).mono fun e W' ⟨he, hg⟩ => ?_
  subst he
  exact ⟨_, rfl, _, _, _, [], [], [], hW', (trodAll_cons_mk (shut_bool Try.underlying4 _) trodAll_mk0), (trodAll_cons_mk (shut_string Try.underlying9 w0) (trodAll_cons_mk (shut_string Try.underlying9 w1) (trodAll_cons_mk (shut_string Try.underlying9 w2) (trodAll_cons_mk (shut_string Try.underlying9 w3) (trodAll_cons_mk (shut_string Try.underlying9 w4) trodAll_mk0))))), rfl, hg.frame _, fun h => by cases h⟩

theorem over : Rows.boxKeysRow.holds Try.pinned (OpenSpec.ofChange Rows.boxKeysSpec) :=
  OpenClaim.holds_of_wide 7 Try.f7 rfl rfl rfl rfl rfl rfl rfl ⟨rfl, rfl, rfl, rfl, rfl⟩ rfl rfl rfl rfl rfl (by kernel_rfl) Try.func7 (by kernel_rfl)
    (of_decide_eq_true (by kernel_rfl)) (by unfold Func.isWrapper; first | (rw [if_pos (by decide +kernel)]; kernel_rfl) | (rw [if_neg (by decide +kernel)]; exact ⟨rfl, rfl⟩))
    (fun os started H enc _ => lifted os started H enc)

theorem proved : Rows.BoxKeysSaid :=
  over
#print axioms proved
end Go.Proofs.Ytgeackoaghkgmaa.boxKeys
