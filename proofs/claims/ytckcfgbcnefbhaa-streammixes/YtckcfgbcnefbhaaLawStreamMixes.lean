/- Promise P502: for all texts key, nonce, a and b and every counter the law StreamMixes answers true at the landed code: two texts of one length that stream.Xor hides by the same key, nonce and counter differ as the texts do. No condition; longer texts, and texts of two lengths, the law itself lets by. -/
import Derived.Test.YtckcfgbcnefbhaaRows
import Derived.WalkKit
import Derived.ProofKit
import Derived.OpenShut
import Derived.ShutString
import Derived.Test.YtckcfgbcnefbhaaStr5
namespace Go.Proofs.Ytckcfgbcnefbhaa.streamMixes
open Go.ChangeShapes Go.WideShapes Go.ChangeAt Go.RowKit
open Go.ChangeMaps (open_string shut_string)
set_option linter.unusedVariables false      -- a walk need not use every 'w<i>' (that an integer argument fits its kind)

theorem own : ownKnob Try.prog.godebug = none := by kernel_rfl

set_option maxHeartbeats 4000000 in
set_option maxRecDepth 100000 in
theorem walk (a0 : ByteArray) (a1 : ByteArray) (a2 : ByteArray) (a3 : ByteArray) (a4 : Int) (w0 : a0.size ≤ maxLen) (w1 : a1.size ≤ maxLen) (w2 : a2.size ≤ maxLen) (w3 : a3.size ≤ maxLen) (w4 : (Lit.int .u32 a4).wf = true) (w : World) :
    Calls Try.prog 7 #[.string a0, .string a1, .string a2, .string a3, .int .u32 a4] w fun e w' => e = .returned (.bool true) ∧ Below w.heap.size w w' := by
  unfold maxLen at w0 w1 w2 w3
  have hc : W32 a4 := by have := bounds_u32 w4; unfold W32; omega
  clear w4
  by_cases d1 : a2.size = a3.size
  · by_cases d2 : a2.size ≤ 300
    · have f1 := fun w => law5_fill32 a0 w (by omega)
      have f2 := fun w => law5_fill12 a1 w (by omega)
      have h32 := fillS_size a0 32
      have h12 := fillS_size a1 12
      have p1 := fun w => stream_xor_yes (fillS a0 32) a4 (fillS a1 12) a2 w h32 h12 hc (by omega)
      have p2 := fun w => stream_xor_yes (fillS a0 32) a4 (fillS a1 12) a3 w h32 h12 hc (by omega)
      have s1 := hideS_size (fillS a0 32) a4 (fillS a1 12) a2
      have s2 := hideS_size (fillS a0 32) a4 (fillS a1 12) a3
      have q1 := fun w => ref_xor (hideS (fillS a0 32) a4 (fillS a1 12) a2) (hideS (fillS a0 32) a4 (fillS a1 12) a3) w (by omega) (by omega)
      have q2 := fun w => ref_xor a2 a3 w (by omega) (by omega)
      rw [hide_mix _ _ _ _ _ d1] at q1
      have hself := str_beq_self (xorS a2 a3)
      generalize xorS a2 a3 = X at *
      generalize hideS (fillS a0 32) a4 (fillS a1 12) a2 = U at *
      generalize hideS (fillS a0 32) a4 (fillS a1 12) a3 = V at *
      generalize fillS a0 32 = K at *
      generalize fillS a1 12 = N at *
      have hne : ((a2.size : Int) != (a3.size : Int)) = false := by simp [d1]
      have hgt : decide (300 < (a2.size : Int)) = false := by simp; omega
      have F1 : Hid _ := f1
      have F2 : Hid _ := f2
      have P1 : Hid _ := p1
      have P2 : Hid _ := p2
      have Q1 : Hid _ := q1
      have Q2 : Hid _ := q2
      clear f1 f2 p1 p2 q1 q2
      go_enter Try.func7, Try.ntmps7
      go_wp2_with fail
      refine (alive5_any _).mono ?_
      rintro e w1 ⟨rfl, b⟩
      go_wp2_with fail
      with_reducible refine (F1.out _).mono ?_
      rintro e w' ⟨rfl, rfl⟩
      go_wp2_with fail
      with_reducible refine (F2.out _).mono ?_
      rintro e w' ⟨rfl, rfl⟩
      go_wp2_with fail
      with_reducible refine (P1.out _).mono ?_
      rintro e w' ⟨rfl, b'⟩
      replace b := bel_chain' b b'
      clear b'
      go_wp2_with fail
      with_reducible refine (P2.out _).mono ?_
      rintro e w' ⟨rfl, b'⟩
      replace b := bel_chain' b b'
      clear b'
      go_wp2_with fail
      with_reducible refine (Q1.out _).mono ?_
      rintro e w' ⟨rfl, b'⟩
      replace b := bel_chain' b b'
      clear b'
      go_wp2_with fail
      with_reducible refine (Q2.out _).mono ?_
      rintro e w' ⟨rfl, b'⟩
      replace b := bel_chain' b b'
      clear b'
      go_wp2
      go_ret
      exact ⟨rfl, b⟩
    · have hne : ((a2.size : Int) != (a3.size : Int)) = false := by simp [d1]
      have hgt : decide (300 < (a2.size : Int)) = true := by simp; omega
      go_enter Try.func7, Try.ntmps7
      go_wp2_with fail
      refine (alive5_any _).mono ?_
      rintro e w1 ⟨rfl, b⟩
      go_wp2
      go_ret
      exact ⟨rfl, b⟩
  · have hne : ((a2.size : Int) != (a3.size : Int)) = true := by simp; omega
    go_enter Try.func7, Try.ntmps7
    go_wp2_with fail
    refine (alive5_any _).mono ?_
    rintro e w1 ⟨rfl, b⟩
    go_wp2
    go_ret
    exact ⟨rfl, b⟩

set_option maxRecDepth 100000 in
theorem lifted (os : Os) (started : os.Started) (H : Type) (enc : TypeId × Value → H) :
    ReturnsInHanded {} Try.checked os 7 .any (Rows.streamMixesSpec.pre6 enc Try.prog Try.f7 Rows.streamMixesRow.domain false) (Rows.streamMixesSpec.post enc Try.prog Try.f7 false true false false) := by
  refine returnsInHanded_of_change (C := Try.checked) own started (by kernel_rfl) Try.func7
    (ChangeSpec.witness6 (enc := enc) (C := Try.checked) false ⟨#[], #[.string ByteArray.empty, .string ByteArray.empty, .string ByteArray.empty, .string ByteArray.empty, .int .u32 0], []⟩ 8 (by kernel_rfl) (by kernel_rfl) (by kernel_rfl) (by kernel_rfl)) ?_
  intro W base args ds gs before hval0 hW hcnd _
  have hval : ∀ (j : Nat) t v, Try.f7.params[j]? = some t → args[j]? = some v → Value.okWide Try.prog W .any base t v := hval0
  have hW' := hW
  obtain ⟨p, q, hA0, hV, rfl, hfz, hnd⟩ := hW
  have hA : DataW.TrodAll enc Try.prog W 0 (fun _ => true) true Try.f7.params.toList args.toList ds p := hA0
  rw [Try.params7] at hA hval
  obtain ⟨v0, vs0, d0, ds0, p0, q0, hargs, rfl, rfl, h0, r0⟩ := trodAll_cons hA
  obtain ⟨v1, vs1, d1, ds1, p1, q1, rfl, rfl, rfl, h1, r1⟩ := trodAll_cons r0
  obtain ⟨v2, vs2, d2, ds2, p2, q2, rfl, rfl, rfl, h2, r2⟩ := trodAll_cons r1
  obtain ⟨v3, vs3, d3, ds3, p3, q3, rfl, rfl, rfl, h3, r3⟩ := trodAll_cons r2
  obtain ⟨v4, vs4, d4, ds4, p4, q4, rfl, rfl, rfl, h4, r4⟩ := trodAll_cons r3
  obtain ⟨rfl, rfl, rfl⟩ := trodAll_nil r4
  obtain rfl : args = #[v0, v1, v2, v3, v4] := by cases args; simp_all
  obtain ⟨rfl, rfl⟩ := trodVars_none hV
  obtain ⟨a0, rfl, rfl, rfl, w0⟩ := open_string Try.underlying9 (hval 0 9 v0 rfl rfl) h0
  obtain ⟨a1, rfl, rfl, rfl, w1⟩ := open_string Try.underlying9 (hval 1 9 v1 rfl rfl) h1
  obtain ⟨a2, rfl, rfl, rfl, w2⟩ := open_string Try.underlying9 (hval 2 9 v2 rfl rfl) h2
  obtain ⟨a3, rfl, rfl, rfl, w3⟩ := open_string Try.underlying9 (hval 3 9 v3 rfl rfl) h3
  obtain ⟨a4, rfl, rfl, rfl, w4⟩ := open_int Try.underlying22 (hval 4 22 v4 rfl rfl) h4
  clear hA0 hval0
  simp only [List.append_nil] at hW'
  refine (walk a0 a1 a2 a3 a4 w0 w1 w2 w3 w4 W).mono fun e W' ⟨he, hg⟩ => ?_
  subst he
  exact ⟨_, rfl, _, _, _, [], [], [], hW', (trodAll_cons_mk (shut_bool Try.underlying4 _) trodAll_mk0), (trodAll_cons_mk (shut_string Try.underlying9 w0) (trodAll_cons_mk (shut_string Try.underlying9 w1) (trodAll_cons_mk (shut_string Try.underlying9 w2) (trodAll_cons_mk (shut_string Try.underlying9 w3) (trodAll_cons_mk (shut_int Try.underlying22 w4) trodAll_mk0))))), rfl, hg.frame _, fun h => by cases h⟩

theorem over : Rows.streamMixesRow.holds Try.pinned (OpenSpec.ofChange Rows.streamMixesSpec) :=
  OpenClaim.holds_of_wide 7 Try.f7 rfl rfl rfl rfl rfl rfl rfl ⟨rfl, rfl, rfl, rfl, rfl⟩ rfl rfl rfl rfl rfl (by kernel_rfl) Try.func7 (by kernel_rfl)
    (of_decide_eq_true (by kernel_rfl)) (by unfold Func.isWrapper; first | (rw [if_pos (by decide +kernel)]; kernel_rfl) | (rw [if_neg (by decide +kernel)]; exact ⟨rfl, rfl⟩))
    (fun os started H enc _ => lifted os started H enc)

theorem proved : Rows.StreamMixesSaid :=
  over
#print axioms proved
end Go.Proofs.Ytckcfgbcnefbhaa.streamMixes
