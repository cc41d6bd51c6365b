/- Promises P101, P102: for every word x, every numbers n and v and every two texts a and b the law OctetTells answers true at the landed code: each of package octet's calls (Left, PutBig, PutLittle, Big, Little, Xor, Hex, Unhex) answers what the document's own reckoning (the reference) answers. No condition; texts of more than 500 bytes the law itself lets by. -/
import Derived.Test.YtgbdcgebbfcpoaaRows
import Derived.WalkKit
import Derived.ProofKit
import Derived.OpenShut
import Derived.ShutString
import Derived.Test.YtgbdcgebbfcpoaaOct10
import Derived.Test.YtgbdcgebbfcpoaaOct3
import Derived.Test.YtgbdcgebbfcpoaaOct5
import Derived.Test.YtgbdcgebbfcpoaaOct14
namespace Go.Proofs.Ytgbdcgebbfcpoaa.octetTells
open Go.ChangeShapes Go.WideShapes Go.ChangeAt Go.RowKit
open Go.ChangeMaps (open_string shut_string)
set_option linter.unusedVariables false      -- a walk need not use every 'w<i>' (that an integer argument fits its kind)

theorem own : ownKnob Try.prog.godebug = none := by kernel_rfl

set_option maxHeartbeats 4000000 in
set_option maxRecDepth 100000 in
theorem walk (a0 : Int) (a1 : Int) (a2 : Int) (a3 : ByteArray) (a4 : ByteArray) (w0 : (Lit.int .u32 a0).wf = true) (w1 : (Lit.int .i64 a1).wf = true) (w2 : (Lit.int .u64 a2).wf = true) (w3 : a3.size ≤ maxLen) (w4 : a4.size ≤ maxLen) (w : World) :
    Calls Try.prog 3 #[.int .u32 a0, .int .i64 a1, .int .u64 a2, .string a3, .string a4] w fun e w' => e = .returned (.bool true) ∧ Below w.heap.size w w' := by
  unfold maxLen at w3 w4
  have hx := bounds_u32 w0
  have hx0 := hx.1
  have hx1 : a0 < 4294967296 := by omega
  have hv := bounds_u64 w2
  have hv0 := hv.1
  have hv1 : a2 < 18446744073709551616 := by omega
  clear hx hv
  cases d1 : decide (500 < (a3.size : Int))
  cases d2 : decide (500 < (a4.size : Int))
  · have h3 : a3.size ≤ 500 := by rw [decide_eq_false_iff_not] at d1; omega
    have h4 : a4.size ≤ 500 := by rw [decide_eq_false_iff_not] at d2; omega
    clear w0 w1 w2 w3 w4
    go_enter Try.func3, Try.ntmps3
    go_wp2_with fail
    refine (alive_any _).mono ?_
    rintro e w1 ⟨rfl, b⟩
    go_wp2_with fail
    refine (octet_unhex _ _ (by omega)).mono ?_
    rintro e w' ⟨rfl, b'⟩
    replace b := bel_chain b b'
    clear b'
    go_wp2_with fail
    refine (ref_unhex _ _ (by omega)).mono ?_
    rintro e w' ⟨rfl, b'⟩
    replace b := bel_chain b b'
    clear b'
    go_wp2_with fail
    refine (octet_left _ _ _ hx0 hx1).mono ?_
    rintro e w' ⟨rfl, rfl⟩
    go_wp2_with fail
    refine (ref_left _ _ _ hx0 hx1).mono ?_
    rintro e w' ⟨rfl, rfl⟩
    go_wp2_with fail
    refine (octet_putBig _ _ _ hv0 hv1).mono ?_
    rintro e w' ⟨rfl, b'⟩
    replace b := bel_chain b b'
    clear b'
    go_wp2_with fail
    refine (ref_putBig _ _ _ hv0 hv1).mono ?_
    rintro e w' ⟨rfl, b'⟩
    replace b := bel_chain b b'
    clear b'
    go_wp2_with fail
    refine (octet_putLittle _ _ _ hv0 hv1).mono ?_
    rintro e w' ⟨rfl, b'⟩
    replace b := bel_chain b b'
    clear b'
    go_wp2_with fail
    refine (ref_putLittle _ _ _ hv0 hv1).mono ?_
    rintro e w' ⟨rfl, b'⟩
    replace b := bel_chain b b'
    clear b'
    go_wp2_with fail
    refine (octet_big _ _ (by unfold maxLen; omega)).mono ?_
    rintro e w' ⟨rfl, rfl⟩
    go_wp2_with fail
    refine (ref_big _ _ (by unfold maxLen; omega)).mono ?_
    rintro e w' ⟨rfl, rfl⟩
    go_wp2_with fail
    refine (octet_little _ _ (by unfold maxLen; omega)).mono ?_
    rintro e w' ⟨rfl, rfl⟩
    go_wp2_with fail
    refine (ref_little _ _ (by unfold maxLen; omega)).mono ?_
    rintro e w' ⟨rfl, rfl⟩
    go_wp2_with fail
    refine (octet_xor _ _ _ (by omega) (by omega)).mono ?_
    rintro e w' ⟨rfl, b'⟩
    replace b := bel_chain b b'
    clear b'
    go_wp2_with fail
    refine (ref_xor _ _ _ (by omega) (by omega)).mono ?_
    rintro e w' ⟨rfl, b'⟩
    replace b := bel_chain b b'
    clear b'
    go_wp2_with fail
    refine (octet_hex _ _ (by omega)).mono ?_
    rintro e w' ⟨rfl, b'⟩
    replace b := bel_chain b b'
    clear b'
    go_wp2_with fail
    refine (ref_hex _ _ (by omega)).mono ?_
    rintro e w' ⟨rfl, b'⟩
    replace b := bel_chain b b'
    clear b'
    go_wp2
    go_ret
    exact ⟨rfl, b⟩
  all_goals
    go_enter Try.func3, Try.ntmps3
    go_wp2_with fail
    refine (alive_any _).mono ?_
    rintro e w1 ⟨rfl, b1⟩
    go_wp2
    go_ret
    exact ⟨rfl, b1⟩

set_option maxRecDepth 100000 in
theorem lifted (os : Os) (started : os.Started) (H : Type) (enc : TypeId × Value → H) :
    ReturnsInHanded {} Try.checked os 3 .any (Rows.octetTellsSpec.pre6 enc Try.prog Try.f3 Rows.octetTellsRow.domain false) (Rows.octetTellsSpec.post enc Try.prog Try.f3 false true false false) := by
  refine returnsInHanded_of_change (C := Try.checked) own started (by kernel_rfl) Try.func3
    (ChangeSpec.witness6 (enc := enc) (C := Try.checked) false ⟨#[], #[.int .u32 0, .int .i64 0, .int .u64 0, .string ByteArray.empty, .string ByteArray.empty], []⟩ 8 (by kernel_rfl) (by kernel_rfl) (by kernel_rfl) (by kernel_rfl)) ?_
  intro W base args ds gs before hval0 hW hcnd _
  have hval : ∀ (j : Nat) t v, Try.f3.params[j]? = some t → args[j]? = some v → Value.okWide Try.prog W .any base t v := hval0
  have hW' := hW
  obtain ⟨p, q, hA0, hV, rfl, hfz, hnd⟩ := hW
  have hA : DataW.TrodAll enc Try.prog W 0 (fun _ => true) true Try.f3.params.toList args.toList ds p := hA0
  rw [Try.params3] at hA hval
  obtain ⟨v0, vs0, d0, ds0, p0, q0, hargs, rfl, rfl, h0, r0⟩ := trodAll_cons hA
  obtain ⟨v1, vs1, d1, ds1, p1, q1, rfl, rfl, rfl, h1, r1⟩ := trodAll_cons r0
  obtain ⟨v2, vs2, d2, ds2, p2, q2, rfl, rfl, rfl, h2, r2⟩ := trodAll_cons r1
  obtain ⟨v3, vs3, d3, ds3, p3, q3, rfl, rfl, rfl, h3, r3⟩ := trodAll_cons r2
  obtain ⟨v4, vs4, d4, ds4, p4, q4, rfl, rfl, rfl, h4, r4⟩ := trodAll_cons r3
  obtain ⟨rfl, rfl, rfl⟩ := trodAll_nil r4
  obtain rfl : args = #[v0, v1, v2, v3, v4] := by cases args; simp_all
  obtain ⟨rfl, rfl⟩ := trodVars_none hV
  obtain ⟨a0, rfl, rfl, rfl, w0⟩ := open_int Try.underlying22 (hval 0 22 v0 rfl rfl) h0
  obtain ⟨a1, rfl, rfl, rfl, w1⟩ := open_int Try.underlying3 (hval 1 3 v1 rfl rfl) h1
  obtain ⟨a2, rfl, rfl, rfl, w2⟩ := open_int Try.underlying23 (hval 2 23 v2 rfl rfl) h2
  obtain ⟨a3, rfl, rfl, rfl, w3⟩ := open_string Try.underlying9 (hval 3 9 v3 rfl rfl) h3
  obtain ⟨a4, rfl, rfl, rfl, w4⟩ := open_string Try.underlying9 (hval 4 9 v4 rfl rfl) h4
  clear hA0 hval0
  simp only [List.append_nil] at hW'
  refine (walk a0 a1 a2 a3 a4 w0 w1 w2 w3 w4 W).mono fun e W' ⟨he, hg⟩ => ?_
  subst he
  exact ⟨_, rfl, _, _, _, [], [], [], hW', (trodAll_cons_mk (shut_bool Try.underlying4 _) trodAll_mk0), (trodAll_cons_mk (shut_int Try.underlying22 w0) (trodAll_cons_mk (shut_int Try.underlying3 w1) (trodAll_cons_mk (shut_int Try.underlying23 w2) (trodAll_cons_mk (shut_string Try.underlying9 w3) (trodAll_cons_mk (shut_string Try.underlying9 w4) trodAll_mk0))))), rfl, hg.frame _, fun h => by cases h⟩

theorem over : Rows.octetTellsRow.holds Try.pinned (OpenSpec.ofChange Rows.octetTellsSpec) :=
  OpenClaim.holds_of_wide 3 Try.f3 rfl rfl rfl rfl rfl rfl rfl ⟨rfl, rfl, rfl, rfl, rfl⟩ rfl rfl rfl rfl rfl (by kernel_rfl) Try.func3 (by kernel_rfl)
    (of_decide_eq_true (by kernel_rfl)) (by unfold Func.isWrapper; first | (rw [if_pos (by decide +kernel)]; kernel_rfl) | (rw [if_neg (by decide +kernel)]; exact ⟨rfl, rfl⟩))
    (fun os started H enc _ => lifted os started H enc)

theorem proved : Rows.OctetTellsSaid :=
  over
#print axioms proved
end Go.Proofs.Ytgbdcgebbfcpoaa.octetTells
