/- Promise P701: for all texts key, nonce, plain, more and other the law BoxMore answers true at the landed code: what box.Seal tells is opened beside another text just if the document opens it (the reference), and beside the same one it is. No condition; longer texts the law itself lets by. -/
import Derived.Test.YtgeackoaghkgmaaRows
import Derived.WalkKit
import Derived.ProofKit
import Derived.OpenShut
import Derived.ShutString
import Derived.Test.YtgeackoaghkgmaaBun26
import Derived.Test.YtgeackoaghkgmaaBun27
namespace Go.Proofs.Ytgeackoaghkgmaa.boxMore
open Go.ChangeShapes Go.WideShapes Go.ChangeAt Go.RowKit
open Go.ChangeMaps (open_string shut_string)
set_option linter.unusedVariables false      -- a walk need not use every 'w<i>' (that an integer argument fits its kind)

theorem own : ownKnob Try.prog.godebug = none := by kernel_rfl

set_option maxHeartbeats 4000000 in
set_option maxRecDepth 100000 in
theorem walk (a0 : ByteArray) (a1 : ByteArray) (a2 : ByteArray) (a3 : ByteArray) (a4 : ByteArray) (w0 : a0.size ≤ maxLen) (w1 : a1.size ≤ maxLen) (w2 : a2.size ≤ maxLen) (w3 : a3.size ≤ maxLen) (w4 : a4.size ≤ maxLen) (w : World) :
    Calls Try.prog 6 #[.string a0, .string a1, .string a2, .string a3, .string a4] w fun e w' => e = .returned (.bool true) ∧ Below w.heap.size w w' := by
  unfold maxLen at w0 w1 w2 w3 w4
  cases d1 : decide (200 < (a2.size : Int))
  cases d2 : decide (100 < (a3.size : Int))
  cases d3 : decide (100 < (a4.size : Int))
  · have g1 : a2.size ≤ 200 := by rw [decide_eq_false_iff_not] at d1; omega
    have g2 : a3.size ≤ 100 := by rw [decide_eq_false_iff_not] at d2; omega
    have g3 : a4.size ≤ 100 := by rw [decide_eq_false_iff_not] at d3; omega
    have F1 : Hid _ := fun w => law5_fill32 a0 w (by omega)
    have F2 : Hid _ := fun w => law5_fill12 a1 w (by omega)
    clear w0 w1 w2 w3 w4
    have h32 := fillS_size a0 32
    have h12 := fillS_size a1 12
    generalize fillS a0 32 = K at *
    generalize fillS a1 12 = N at *
    have hsz := sealS_size K N a2 a3
    have P1 : Hid _ := fun w => box_seal_yes K N a2 a3 w h32 h12 (by omega) (by omega)
    have p2 := fun w => box_open_yes K N (sealS K N a2 a3) a4 w h32 h12 (by omega) (by omega)
    have p3 := fun w => ref_unbox_yes K N (sealS K N a2 a3) a4 w h32 h12 (by omega) (by omega)
    by_cases hm : a3 = a4
    · subst hm
      rw [(open_sealed K N a2 a3).1, (open_sealed K N a2 a3).2] at p2 p3
      have P2 : Hid _ := p2
      have P3 : Hid _ := p3
      clear p2 p3
      have e1 := str_beq_self a2
      have e2 := str_beq_self a3
      generalize sealS K N a2 a3 = S at *
      clear h32 h12
      go_enter Try.func6, Try.ntmps6
      go_wp2_with fail
      refine (alive7_any _).mono ?_
      rintro e w1 ⟨rfl, b⟩
      go_wp2_with fail
      with_reducible refine (F1.out _).mono ?_
      rintro e w' ⟨rfl, rfl⟩
      go_wp2_with fail
      with_reducible refine (F2.out _).mono ?_
      rintro e w' ⟨rfl, rfl⟩
      go_wp2_with fail
      with_reducible refine (P1.out _).mono ?_
      rintro e w' ⟨rfl, b'⟩
      replace b := bel_chain' b b'
      clear b'
      go_wp2_with fail
      with_reducible refine (P2.out _).mono ?_
      rintro e w' ⟨rfl, b'⟩
      replace b := bel_chain' b b'
      clear b'
      go_wp2_with fail
      with_reducible refine (P3.out _).mono ?_
      rintro e w' ⟨rfl, b'⟩
      replace b := bel_chain' b b'
      clear b'
      go_wp2
      go_ret
      exact ⟨rfl, b⟩
    · have P2 : Hid _ := p2
      have P3 : Hid _ := p3
      clear p2 p3
      have e2 : (a3.toList == a4.toList) = false := by rw [str_beq]; exact decide_eq_false hm
      clear hm
      have e1 := str_beq_self (openS K N (sealS K N a2 a3) a4)
      generalize openS K N (sealS K N a2 a3) a4 = O at *
      generalize openOk K N (sealS K N a2 a3) a4 = o at *
      generalize sealS K N a2 a3 = S at *
      have eo : (o == o) = true := by cases o <;> rfl
      clear h32 h12
      go_enter Try.func6, Try.ntmps6
      go_wp2_with fail
      refine (alive7_any _).mono ?_
      rintro e w1 ⟨rfl, b⟩
      go_wp2_with fail
      with_reducible refine (F1.out _).mono ?_
      rintro e w' ⟨rfl, rfl⟩
      go_wp2_with fail
      with_reducible refine (F2.out _).mono ?_
      rintro e w' ⟨rfl, rfl⟩
      go_wp2_with fail
      with_reducible refine (P1.out _).mono ?_
      rintro e w' ⟨rfl, b'⟩
      replace b := bel_chain' b b'
      clear b'
      go_wp2_with fail
      with_reducible refine (P2.out _).mono ?_
      rintro e w' ⟨rfl, b'⟩
      replace b := bel_chain' b b'
      clear b'
      go_wp2_with fail
      with_reducible refine (P3.out _).mono ?_
      rintro e w' ⟨rfl, b'⟩
      replace b := bel_chain' b b'
      clear b'
      go_wp2
      go_ret
      exact ⟨rfl, b⟩
  all_goals
    go_enter Try.func6, Try.ntmps6
    go_wp2_with fail
    refine (alive7_any _).mono ?_
    rintro e w1 ⟨rfl, b⟩
    go_wp2
    go_ret
    exact ⟨rfl, b⟩

set_option maxRecDepth 100000 in
theorem lifted (os : Os) (started : os.Started) (H : Type) (enc : TypeId × Value → H) :
    ReturnsInHanded {} Try.checked os 6 .any (Rows.boxMoreSpec.pre6 enc Try.prog Try.f6 Rows.boxMoreRow.domain false) (Rows.boxMoreSpec.post enc Try.prog Try.f6 false true false false) := by
  refine returnsInHanded_of_change (C := Try.checked) own started (by kernel_rfl) Try.func6
    (ChangeSpec.witness6 (enc := enc) (C := Try.checked) false ⟨#[], #[.string ByteArray.empty, .string ByteArray.empty, .string ByteArray.empty, .string ByteArray.empty, .string ByteArray.empty], []⟩ 8 (by kernel_rfl) (by kernel_rfl) (by kernel_rfl) (by kernel_rfl)) ?_
  intro W base args ds gs before hval0 hW hcnd _
  have hval : ∀ (j : Nat) t v, Try.f6.params[j]? = some t → args[j]? = some v → Value.okWide Try.prog W .any base t v := hval0
  have hW' := hW
  obtain ⟨p, q, hA0, hV, rfl, hfz, hnd⟩ := hW
  have hA : DataW.TrodAll enc Try.prog W 0 (fun _ => true) true Try.f6.params.toList args.toList ds p := hA0
  rw [Try.params6] at hA hval
  obtain ⟨v0, vs0, d0, ds0, p0, q0, hargs, rfl, rfl, h0, r0⟩ := trodAll_cons hA
  obtain ⟨v1, vs1, d1, ds1, p1, q1, rfl, rfl, rfl, h1, r1⟩ := trodAll_cons r0
  obtain ⟨v2, vs2, d2, ds2, p2, q2, rfl, rfl, rfl, h2, r2⟩ := trodAll_cons r1
  obtain ⟨v3, vs3, d3, ds3, p3, q3, rfl, rfl, rfl, h3, r3⟩ := trodAll_cons r2
  obtain ⟨v4, vs4, d4, ds4, p4, q4, rfl, rfl, rfl, h4, r4⟩ := trodAll_cons r3
  obtain ⟨rfl, rfl, rfl⟩ := trodAll_nil r4
  obtain rfl : args = #[v0, v1, v2, v3, v4] := by cases args; simp_all
  obtain ⟨rfl, rfl⟩ := trodVars_none hV
  obtain ⟨a0, rfl, rfl, rfl, w0⟩ := open_string Try.underlying9 (hval 0 9 v0 rfl rfl) h0
  obtain ⟨a1, rfl, rfl, rfl, w1⟩ := open_string Try.underlying9 (hval 1 9 v1 rfl rfl) h1
  obtain ⟨a2, rfl, rfl, rfl, w2⟩ := open_string Try.underlying9 (hval 2 9 v2 rfl rfl) h2
  obtain ⟨a3, rfl, rfl, rfl, w3⟩ := open_string Try.underlying9 (hval 3 9 v3 rfl rfl) h3
  obtain ⟨a4, rfl, rfl, rfl, w4⟩ := open_string Try.underlying9 (hval 4 9 v4 rfl rfl) h4
  clear hA0 hval0
  simp only [List.append_nil] at hW'
  refine (walk a0 a1 a2 a3 a4 w0 w1 w2 w3 w4 W).mono fun e W' ⟨he, hg⟩ => ?_
  subst he
  exact ⟨_, rfl, _, _, _, [], [], [], hW', (trodAll_cons_mk (shut_bool Try.underlying4 _) trodAll_mk0), (trodAll_cons_mk (shut_string Try.underlying9 w0) (trodAll_cons_mk (shut_string Try.underlying9 w1) (trodAll_cons_mk (shut_string Try.underlying9 w2) (trodAll_cons_mk (shut_string Try.underlying9 w3) (trodAll_cons_mk (shut_string Try.underlying9 w4) trodAll_mk0))))), rfl, hg.frame _, fun h => by cases h⟩

theorem over : Rows.boxMoreRow.holds Try.pinned (OpenSpec.ofChange Rows.boxMoreSpec) :=
  OpenClaim.holds_of_wide 6 Try.f6 rfl rfl rfl rfl rfl rfl rfl ⟨rfl, rfl, rfl, rfl, rfl⟩ rfl rfl rfl rfl rfl (by kernel_rfl) Try.func6 (by kernel_rfl)
    (of_decide_eq_true (by kernel_rfl)) (by unfold Func.isWrapper; first | (rw [if_pos (by decide +kernel)]; kernel_rfl) | (rw [if_neg (by decide +kernel)]; exact ⟨rfl, rfl⟩))
    (fun os started H enc _ => lifted os started H enc)

theorem proved : Rows.BoxMoreSaid :=
  over
#print axioms proved
end Go.Proofs.Ytgeackoaghkgmaa.boxMore
