/- Promise P102: for every two texts a and b the law OctetXors answers true at the landed code: Xor's answer is as long as the shorter text, the order does not count, with zeros it is the text itself, with itself zeros. No condition. -/
import Derived.Test.YtgbdcgebbfcpoaaRows
import Derived.WalkKit
import Derived.ProofKit
import Derived.OpenShut
import Derived.ShutString
import Derived.Test.YtgbdcgebbfcpoaaOct10
import Derived.Test.YtgbdcgebbfcpoaaOct12
import Derived.Deep.RegionWith
namespace Go.Proofs.Ytgbdcgebbfcpoaa.octetXors
open Go.ChangeShapes Go.WideShapes Go.ChangeAt Go.RowKit
open Go.ChangeMaps (open_string shut_string)
set_option linter.unusedVariables false      -- a walk need not use every 'w<i>' (that an integer argument fits its kind)

theorem own : ownKnob Try.prog.godebug = none := by kernel_rfl

set_option maxHeartbeats 4000000 in
set_option maxRecDepth 100000 in
theorem walk (a0 : ByteArray) (a1 : ByteArray) (w0 : a0.size ≤ maxLen) (w1 : a1.size ≤ maxLen) (w : World) :
    Calls Try.prog 5 #[.string a0, .string a1] w fun e w' => e = .returned (.bool true) ∧ Below w.heap.size w w' := by
  unfold maxLen at w0 w1
  cases d1 : decide (300 < (a0.size : Int))
  cases d2 : decide (300 < (a1.size : Int))
  · have h1 : a0.size ≤ 300 := by rw [decide_eq_false_iff_not] at d1; omega
    have h2 : a1.size ≤ 300 := by rw [decide_eq_false_iff_not] at d2; omega
    clear w0 w1
    have e1 : xorS a1 a0 = xorS a0 a1 := xorS_comm a1 a0
    have e2 : xorS a0 (zeros a0.size) = a0 := xorS_zeros a0
    have e3 : xorS a0 a0 = zeros a0.size := xorS_self a0
    have z1 : (xorS a0 a1).size = min a0.size a1.size := xorS_size a0 a1
    have z2 : (zeros a0.size).size ≤ 300 := by rw [zeros_size]; omega
    have hmk := make8 a0.size (by omega)
    have hcv := conv_new a0.size (by omega)
    obtain ⟨Z, hZ⟩ : ∃ Z, Z = zeros a0.size := ⟨_, rfl⟩
    rw [← hZ] at e2 e3 z2 hcv
    have HZ : Hid (Z = zeros a0.size) := hZ
    clear hZ
    have E1 : Hid _ := e1
    have E2 : Hid _ := e2
    have E3 : Hid _ := e3
    clear e1 e2 e3
    rcases Nat.lt_or_ge a1.size a0.size with hm | hm
    · have z3 : (((xorS a0 a1).size : Int) == (a1.size : Int)) = true := by rw [beq_iff_eq, z1]; omega
      clear z1
      go_enter Try.func5, Try.ntmps5
      go_wp2_with fail
      refine (alive_any _).mono ?_
      rintro e w1 ⟨rfl, b1⟩
      go_wp2_with fail
      refine (octet_xor _ _ _ (by omega) (by omega)).mono ?_
      rintro e w2 ⟨rfl, b2⟩
      have b3 := bel_chain b1 b2
      clear b1 b2
      go_wp2
      go_region_with (first | (go_at_call 22; refine (octet_xor _ _ _ ?_ ?_).mono ?_; omega; omega; rintro e w' ⟨rfl, b⟩; (first | replace b3 := bel_chain b3 b | replace b3 := bel_chain b3.drew b | replace b3 := bel_chain (b3.alloc b3.size _) b | replace b3 := bel_chain (b3.alloc b3.size _).drew b); (try have hcx := conv_after (show a0.size ≤ 140737488355328 from by omega) HZ.out b); (try rw [E1.out]); (try rw [E2.out]); (try rw [E3.out])))
      all_goals
        go_wp2
        go_ret
        exact ⟨rfl, by first | exact b3 | exact b3.alloc b3.size _ | exact (b3.alloc b3.size _).drew⟩
    · have z3 : (((xorS a0 a1).size : Int) == (a0.size : Int)) = true := by rw [beq_iff_eq, z1]; omega
      have hm' : ¬ a1.size < a0.size := by omega
      clear z1
      go_enter Try.func5, Try.ntmps5
      go_wp2_with fail
      refine (alive_any _).mono ?_
      rintro e w1 ⟨rfl, b1⟩
      go_wp2_with fail
      refine (octet_xor _ _ _ (by omega) (by omega)).mono ?_
      rintro e w2 ⟨rfl, b2⟩
      have b3 := bel_chain b1 b2
      clear b1 b2
      go_wp2
      go_region_with (first | (go_at_call 22; refine (octet_xor _ _ _ ?_ ?_).mono ?_; omega; omega; rintro e w' ⟨rfl, b⟩; (first | replace b3 := bel_chain b3 b | replace b3 := bel_chain b3.drew b | replace b3 := bel_chain (b3.alloc b3.size _) b | replace b3 := bel_chain (b3.alloc b3.size _).drew b); (try have hcx := conv_after (show a0.size ≤ 140737488355328 from by omega) HZ.out b); (try rw [E1.out]); (try rw [E2.out]); (try rw [E3.out])))
      all_goals
        go_wp2
        go_ret
        exact ⟨rfl, by first | exact b3 | exact b3.alloc b3.size _ | exact (b3.alloc b3.size _).drew⟩
  all_goals
    go_enter Try.func5, Try.ntmps5
    go_wp2_with fail
    refine (alive_any _).mono ?_
    rintro e w1 ⟨rfl, b1⟩
    go_wp2
    go_ret
    exact ⟨rfl, b1⟩

set_option maxRecDepth 100000 in
theorem lifted (os : Os) (started : os.Started) (H : Type) (enc : TypeId × Value → H) :
    ReturnsInHanded {} Try.checked os 5 .any (Rows.octetXorsSpec.pre6 enc Try.prog Try.f5 Rows.octetXorsRow.domain false) (Rows.octetXorsSpec.post enc Try.prog Try.f5 false true false false) := by
  refine returnsInHanded_of_change (C := Try.checked) own started (by kernel_rfl) Try.func5
    (ChangeSpec.witness6 (enc := enc) (C := Try.checked) false ⟨#[], #[.string ByteArray.empty, .string ByteArray.empty], []⟩ 8 (by kernel_rfl) (by kernel_rfl) (by kernel_rfl) (by kernel_rfl)) ?_
  intro W base args ds gs before hval0 hW hcnd _
  have hval : ∀ (j : Nat) t v, Try.f5.params[j]? = some t → args[j]? = some v → Value.okWide Try.prog W .any base t v := hval0
  have hW' := hW
  obtain ⟨p, q, hA0, hV, rfl, hfz, hnd⟩ := hW
  have hA : DataW.TrodAll enc Try.prog W 0 (fun _ => true) true Try.f5.params.toList args.toList ds p := hA0
  rw [Try.params5] at hA hval
  obtain ⟨v0, vs0, d0, ds0, p0, q0, hargs, rfl, rfl, h0, r0⟩ := trodAll_cons hA
  obtain ⟨v1, vs1, d1, ds1, p1, q1, rfl, rfl, rfl, h1, r1⟩ := trodAll_cons r0
  obtain ⟨rfl, rfl, rfl⟩ := trodAll_nil r1
  obtain rfl : args = #[v0, v1] := by cases args; simp_all
  obtain ⟨rfl, rfl⟩ := trodVars_none hV
  obtain ⟨a0, rfl, rfl, rfl, w0⟩ := open_string Try.underlying9 (hval 0 9 v0 rfl rfl) h0
  obtain ⟨a1, rfl, rfl, rfl, w1⟩ := open_string Try.underlying9 (hval 1 9 v1 rfl rfl) h1
  clear hA0 hval0
  simp only [List.append_nil] at hW'
  refine (walk a0 a1 w0 w1 W).mono fun e W' ⟨he, hg⟩ => ?_
  subst he
  exact ⟨_, rfl, _, _, _, [], [], [], hW', (trodAll_cons_mk (shut_bool Try.underlying4 _) trodAll_mk0), (trodAll_cons_mk (shut_string Try.underlying9 w0) (trodAll_cons_mk (shut_string Try.underlying9 w1) trodAll_mk0)), rfl, hg.frame _, fun h => by cases h⟩

theorem over : Rows.octetXorsRow.holds Try.pinned (OpenSpec.ofChange Rows.octetXorsSpec) :=
  OpenClaim.holds_of_wide 5 Try.f5 rfl rfl rfl rfl rfl rfl rfl ⟨rfl, rfl, rfl, rfl, rfl⟩ rfl rfl rfl rfl rfl (by kernel_rfl) Try.func5 (by kernel_rfl)
    (of_decide_eq_true (by kernel_rfl)) (by unfold Func.isWrapper; first | (rw [if_pos (by decide +kernel)]; kernel_rfl) | (rw [if_neg (by decide +kernel)]; exact ⟨rfl, rfl⟩))
    (fun os started H enc _ => lifted os started H enc)

theorem proved : Rows.OctetXorsSaid :=
  over
#print axioms proved
end Go.Proofs.Ytgbdcgebbfcpoaa.octetXors
