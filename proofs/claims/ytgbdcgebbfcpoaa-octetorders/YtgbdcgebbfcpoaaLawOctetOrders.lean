/- Promise P101: for every number v and every n the law OctetOrders answers true at the landed code: PutBig's bytes and PutLittle's are the same turned around, and Big and Little make the same number of them. No condition. -/
import Derived.Test.YtgbdcgebbfcpoaaRows
import Derived.WalkKit
import Derived.ProofKit
import Derived.OpenShut
import Derived.ShutString
import Derived.Test.YtgbdcgebbfcpoaaOct10
import Derived.Test.YtgbdcgebbfcpoaaOct11
import Derived.RegionTactic
namespace Go.Proofs.Ytgbdcgebbfcpoaa.octetOrders
open Go.ChangeShapes Go.WideShapes Go.ChangeAt Go.RowKit
open Go.ChangeMaps (open_string shut_string)
set_option linter.unusedVariables false      -- a walk need not use every 'w<i>' (that an integer argument fits its kind)

theorem own : ownKnob Try.prog.godebug = none := by kernel_rfl

set_option maxHeartbeats 4000000 in
set_option maxRecDepth 100000 in
theorem walk (a0 : Int) (a1 : Int) (w0 : (Lit.int .u64 a0).wf = true) (w1 : (Lit.int .i64 a1).wf = true) (w : World) :
    Calls Try.prog 6 #[.int .u64 a0, .int .i64 a1] w fun e w' => e = .returned (.bool true) ∧ Below w.heap.size w w' := by
  have hx := bounds_u64 w0
  have hx0 := hx.1
  have hx1 : a0 < 18446744073709551616 := by omega
  clear hx
  cases d1 : decide (a1 < 1)
  cases d2 : decide (8 < a1)
  · have h1 : 1 ≤ a1 := by rw [decide_eq_false_iff_not] at d1; omega
    have h8 : a1 ≤ 8 := by rw [decide_eq_false_iff_not] at d2; omega
    obtain ⟨n, rfl⟩ := Int.eq_ofNat_of_zero_le (show 0 ≤ a1 from by omega)
    have zA := putBigS_size a0 n ⟨h1, h8⟩
    have zB := putLittleS_size a0 n ⟨h1, h8⟩
    rw [Int.toNat_natCast] at zA zB
    have HF : Hid (bigS (putBigS a0 n) = littleS (putLittleS a0 n)) := big_little a0 n
    have HAT : Hid (∀ k (q1 : k < (putBigS a0 n).size) (q2 : n - 1 - k < (putLittleS a0 n).size), (putBigS a0 n)[k] = (putLittleS a0 n)[n - 1 - k]) := fun k q1 q2 => by
      have := big_little_at a0 n k ⟨h1, h8⟩ q1 (by simpa using q2)
      simpa using this
    have PA := octet_putBig a0 n
    have PB := octet_putLittle a0 n
    have HPA : Hid _ := PA
    have HPB : Hid _ := PB
    clear PA PB
    generalize putBigS a0 (n : Int) = A at *
    generalize putLittleS a0 (n : Int) = B at *
    have hA1 : A.size ≤ n := by omega
    have hA2 : n ≤ A.size := by omega
    have hB1 : B.size ≤ n := by omega
    have hB2 : n ≤ B.size := by omega
    have tA : ((A.size : Int) != (n : Int)) = false := by rw [bne_eq_false_iff_eq]; omega
    have tB : ((B.size : Int) != (n : Int)) = false := by rw [bne_eq_false_iff_eq]; omega
    have n8 : n ≤ 8 := by omega
    clear zA zB
    go_enter Try.func6, Try.ntmps6
    go_wp2_with fail
    refine (alive_any _).mono ?_
    rintro e w1 ⟨rfl, b1⟩
    go_wp2_with fail
    refine (HPA.out _ hx0 hx1).mono ?_
    rintro e w2 ⟨rfl, b2⟩
    go_wp2_with fail
    refine (HPB.out _ hx0 hx1).mono ?_
    rintro e w3 ⟨rfl, b3⟩
    have b4 := bel_chain (bel_chain b1 b2) b3
    clear b1 b2 b3
    go_wp2
    go_loopw [7] (fun i wr => ∃ k : Nat, k ≤ n ∧ i = .int .i64 k ∧ Below w.heap.size w wr) (fun i _ => n - (intOf i).toNat)
    case atStart => exact ⟨0, Nat.zero_le _, rfl, b4⟩
    case round =>
      clear b4
      obtain ⟨k, hk, rfl, hbel⟩ := hrel
      by_cases hlt : k < n
      · have hkA : k < A.size := by omega
        have hkB : n - 1 - k < B.size := by omega
        have ht : ((A[k].toNat : Int) != (B[n - 1 - k].toNat : Int)) = false := by
          rw [bne_eq_false_iff_eq, HAT.out k hkA hkB]
        have hcast : (n : Int) - 1 - (k : Int) = ((n - 1 - k : Nat) : Int) := by omega
        go_wp2
        go_region
        all_goals
          go_wp2
          go_roundw
          case rel => exact ⟨k + 1, by omega, by go_num, hbel.drew⟩
          case measure => simp [intOf]; omega
      · go_wp2_with fail
        refine (octet_big _ _ (by unfold maxLen; omega)).mono ?_
        rintro e w' ⟨rfl, rfl⟩
        go_wp2_with fail
        refine (octet_little _ _ (by unfold maxLen; omega)).mono ?_
        rintro e w' ⟨rfl, rfl⟩
        rw [HF.out]
        go_wp2
        go_ret
        exact ⟨by simp, hbel⟩
  all_goals
    go_enter Try.func6, Try.ntmps6
    go_wp2_with fail
    refine (alive_any _).mono ?_
    rintro e w1 ⟨rfl, b1⟩
    go_wp2
    go_ret
    exact ⟨rfl, b1⟩

set_option maxRecDepth 100000 in
theorem lifted (os : Os) (started : os.Started) (H : Type) (enc : TypeId × Value → H) :
    ReturnsInHanded {} Try.checked os 6 .any (Rows.octetOrdersSpec.pre6 enc Try.prog Try.f6 Rows.octetOrdersRow.domain false) (Rows.octetOrdersSpec.post enc Try.prog Try.f6 false true false false) := by
  refine returnsInHanded_of_change (C := Try.checked) own started (by kernel_rfl) Try.func6
    (ChangeSpec.witness6 (enc := enc) (C := Try.checked) false ⟨#[], #[.int .u64 0, .int .i64 0], []⟩ 8 (by kernel_rfl) (by kernel_rfl) (by kernel_rfl) (by kernel_rfl)) ?_
  intro W base args ds gs before hval0 hW hcnd _
  have hval : ∀ (j : Nat) t v, Try.f6.params[j]? = some t → args[j]? = some v → Value.okWide Try.prog W .any base t v := hval0
  have hW' := hW
  obtain ⟨p, q, hA0, hV, rfl, hfz, hnd⟩ := hW
  have hA : DataW.TrodAll enc Try.prog W 0 (fun _ => true) true Try.f6.params.toList args.toList ds p := hA0
  rw [Try.params6] at hA hval
  obtain ⟨v0, vs0, d0, ds0, p0, q0, hargs, rfl, rfl, h0, r0⟩ := trodAll_cons hA
  obtain ⟨v1, vs1, d1, ds1, p1, q1, rfl, rfl, rfl, h1, r1⟩ := trodAll_cons r0
  obtain ⟨rfl, rfl, rfl⟩ := trodAll_nil r1
  obtain rfl : args = #[v0, v1] := by cases args; simp_all
  obtain ⟨rfl, rfl⟩ := trodVars_none hV
  obtain ⟨a0, rfl, rfl, rfl, w0⟩ := open_int Try.underlying23 (hval 0 23 v0 rfl rfl) h0
  obtain ⟨a1, rfl, rfl, rfl, w1⟩ := open_int Try.underlying3 (hval 1 3 v1 rfl rfl) h1
  clear hA0 hval0
  simp only [List.append_nil] at hW'
  refine (walk a0 a1 w0 w1 W).mono fun e W' ⟨he, hg⟩ => ?_
  subst he
  exact ⟨_, rfl, _, _, _, [], [], [], hW', (trodAll_cons_mk (shut_bool Try.underlying4 _) trodAll_mk0), (trodAll_cons_mk (shut_int Try.underlying23 w0) (trodAll_cons_mk (shut_int Try.underlying3 w1) trodAll_mk0)), rfl, hg.frame _, fun h => by cases h⟩

theorem over : Rows.octetOrdersRow.holds Try.pinned (OpenSpec.ofChange Rows.octetOrdersSpec) :=
  OpenClaim.holds_of_wide 6 Try.f6 rfl rfl rfl rfl rfl rfl rfl ⟨rfl, rfl, rfl, rfl, rfl⟩ rfl rfl rfl rfl rfl (by kernel_rfl) Try.func6 (by kernel_rfl)
    (of_decide_eq_true (by kernel_rfl)) (by unfold Func.isWrapper; first | (rw [if_pos (by decide +kernel)]; kernel_rfl) | (rw [if_neg (by decide +kernel)]; exact ⟨rfl, rfl⟩))
    (fun os started H enc _ => lifted os started H enc)

theorem proved : Rows.OctetOrdersSaid :=
  over
#print axioms proved
end Go.Proofs.Ytgbdcgebbfcpoaa.octetOrders
