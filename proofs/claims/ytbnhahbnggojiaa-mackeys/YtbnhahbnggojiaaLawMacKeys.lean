/- Promise P301: for all texts key and b and every number n the law MacKeys answers true at the landed code: a key of more than 64 bytes counts as its sum, and zeros behind a short one do not count. No condition; longer texts, and other numbers, the law itself lets by. -/
import Derived.Test.YtbnhahbnggojiaaRows
import Derived.WalkKit
import Derived.ProofKit
import Derived.OpenShut
import Derived.ShutString
import Derived.Test.YtbnhahbnggojiaaMac3
namespace Go.Proofs.Ytbnhahbnggojiaa.macKeys
open Go.ChangeShapes Go.WideShapes Go.ChangeAt Go.RowKit
open Go.ChangeMaps (open_string shut_string)
set_option linter.unusedVariables false      -- a walk need not use every 'w<i>' (that an integer argument fits its kind)

theorem own : ownKnob Try.prog.godebug = none := by kernel_rfl

set_option maxHeartbeats 4000000 in
set_option maxRecDepth 100000 in
theorem walk (a0 : ByteArray) (a1 : ByteArray) (a2 : Int) (w0 : a0.size ≤ maxLen) (w1 : a1.size ≤ maxLen) (w2 : (Lit.int .i64 a2).wf = true) (w : World) :
    Calls Try.prog 5 #[.string a0, .string a1, .int .i64 a2] w fun e w' => e = .returned (.bool true) ∧ Below w.heap.size w w' := by
  unfold maxLen at w0 w1
  have hn := bounds_i64 w2
  have hn0 := hn.1
  have hn1 := hn.2
  clear hn w2
  cases d1 : decide (200 < (a0.size : Int))
  cases d2 : decide (200 < (a1.size : Int))
  cases d3 : decide (a2 < 0)
  cases d4 : decide (64 < a2)
  · have h1 : a0.size ≤ 200 := by rw [decide_eq_false_iff_not] at d1; omega
    have h2 : a1.size ≤ 200 := by rw [decide_eq_false_iff_not] at d2; omega
    obtain ⟨n, rfl⟩ : ∃ n : Nat, a2 = (n : Int) := ⟨a2.toNat, by rw [decide_eq_false_iff_not] at d3; omega⟩
    have h4 : n ≤ 64 := by rw [decide_eq_false_iff_not] at d4; omega
    clear w0 w1 hn0 hn1
    have po : Hid (∀ w, Calls Try.prog 10 #[.string a0, .string a1] w fun e w' => e = .returned (.string (macS a0 a1)) ∧ Below w.heap.size w w') := fun w => mac_of a0 a1 w (by omega) (by omega)
    have hself := str_beq_self (macS a0 a1)
    by_cases h : 64 < a0.size
    · have ps : Hid (∀ w, Calls Try.prog 13 #[.string a0] w fun e w' => e = .returned (.string (shaS a0)) ∧ Below w.heap.size w w') := fun w => ref_sum a0 w (by omega)
      have pq : Hid (∀ w, Calls Try.prog 10 #[.string (shaS a0), .string a1] w fun e w' => e = .returned (.string (macS a0 a1)) ∧ Below w.heap.size w w') := fun w => by
        have := mac_of (shaS a0) a1 w (by rw [shaS_size]; decide) (by omega)
        rwa [mac_key_sum a0 a1 h] at this
      generalize macS a0 a1 = m at *
      generalize shaS a0 = k2 at *
      go_enter Try.func5, Try.ntmps5
      go_wp2_with fail
      refine (alive3_any _).mono ?_
      rintro e w1 ⟨rfl, b⟩
      go_wp2_with fail
      refine (po.out _).mono ?_
      rintro e w' ⟨rfl, b'⟩
      replace b := bel_chain b b'
      clear b'
      go_wp2_with fail
      refine (ps.out _).mono ?_
      rintro e w' ⟨rfl, b'⟩
      replace b := bel_chain b b'
      clear b'
      go_wp2_with fail
      refine (pq.out _).mono ?_
      rintro e w' ⟨rfl, b'⟩
      replace b := bel_chain b b'
      clear b'
      go_wp2
      go_ret
      exact ⟨rfl, b⟩
    · by_cases hs : 64 < a0.size + n
      · clear po hself
        go_enter Try.func5, Try.ntmps5
        go_wp2_with fail
        refine (alive3_any _).mono ?_
        rintro e w1 ⟨rfl, b⟩
        go_wp2
        go_ret
        exact ⟨rfl, b⟩
      · have pq : Hid (∀ w, Calls Try.prog 10 #[.string (a0 ++ zeros n), .string a1] w fun e w' => e = .returned (.string (macS a0 a1)) ∧ Below w.heap.size w w') := fun w => by
          have := mac_of (a0 ++ zeros n) a1 w (by rw [ByteArray.size_append, zeros_size]; omega) (by omega)
          rwa [mac_key_zeros a0 a1 n (by omega)] at this
        have hmk := make8 n (by omega)
        have hcv := conv_new n (by omega)
        have hcvd := conv_new_drew n (by omega)
        have hzs := zeros_size n
        obtain ⟨Z, hZ⟩ : ∃ Z, Z = zeros n := ⟨_, rfl⟩
        rw [← hZ] at hcv hcvd pq hzs
        have HZ : Hid (Z = zeros n) := hZ
        clear hZ
        generalize macS a0 a1 = m at *
        have hK : Hid (∃ K2, a0 ++ Z = K2) := ⟨_, rfl⟩
        obtain ⟨K2, hK⟩ := hK.out
        rw [hK] at pq
        go_enter Try.func5, Try.ntmps5
        go_wp2_with fail
        refine (alive3_any _).mono ?_
        rintro e w1 ⟨rfl, b3⟩
        go_wp2
        go_region_with (first | (go_at_call 10; (first | with_reducible refine (po.out _).mono ?_ | with_reducible refine (pq.out _).mono ?_); rintro e w' ⟨rfl, b⟩; (first | replace b3 := bel_chain b3 b | replace b3 := bel_chain b3.drew b | replace b3 := bel_chain (b3.alloc b3.size _) b | replace b3 := bel_chain (b3.alloc b3.size _).drew b); (try (first | have hcx := conv_after (show n ≤ 140737488355328 from by omega) HZ.out b | have hcx := conv_after_drew (show n ≤ 140737488355328 from by omega) HZ.out b))))
        all_goals
          go_wp2
          go_ret
          exact ⟨rfl, by first | exact b3 | exact b3.alloc b3.size _ | exact (b3.alloc b3.size _).drew⟩
  all_goals
    go_enter Try.func5, Try.ntmps5
    go_wp2_with fail
    refine (alive3_any _).mono ?_
    rintro e w1 ⟨rfl, b1⟩
    go_wp2
    go_ret
    exact ⟨rfl, b1⟩

set_option maxRecDepth 100000 in
theorem lifted (os : Os) (started : os.Started) (H : Type) (enc : TypeId × Value → H) :
    ReturnsInHanded {} Try.checked os 5 .any (Rows.macKeysSpec.pre6 enc Try.prog Try.f5 Rows.macKeysRow.domain false) (Rows.macKeysSpec.post enc Try.prog Try.f5 false true false false) := by
  refine returnsInHanded_of_change (C := Try.checked) own started (by kernel_rfl) Try.func5
    (ChangeSpec.witness6 (enc := enc) (C := Try.checked) false ⟨#[], #[.string ByteArray.empty, .string ByteArray.empty, .int .i64 0], []⟩ 8 (by kernel_rfl) (by kernel_rfl) (by kernel_rfl) (by kernel_rfl)) ?_
  intro W base args ds gs before hval0 hW hcnd _
  have hval : ∀ (j : Nat) t v, Try.f5.params[j]? = some t → args[j]? = some v → Value.okWide Try.prog W .any base t v := hval0
  have hW' := hW
  obtain ⟨p, q, hA0, hV, rfl, hfz, hnd⟩ := hW
  have hA : DataW.TrodAll enc Try.prog W 0 (fun _ => true) true Try.f5.params.toList args.toList ds p := hA0
  rw [Try.params5] at hA hval
  obtain ⟨v0, vs0, d0, ds0, p0, q0, hargs, rfl, rfl, h0, r0⟩ := trodAll_cons hA
  obtain ⟨v1, vs1, d1, ds1, p1, q1, rfl, rfl, rfl, h1, r1⟩ := trodAll_cons r0
  obtain ⟨v2, vs2, d2, ds2, p2, q2, rfl, rfl, rfl, h2, r2⟩ := trodAll_cons r1
  obtain ⟨rfl, rfl, rfl⟩ := trodAll_nil r2
  obtain rfl : args = #[v0, v1, v2] := by cases args; simp_all
  obtain ⟨rfl, rfl⟩ := trodVars_none hV
  obtain ⟨a0, rfl, rfl, rfl, w0⟩ := open_string Try.underlying9 (hval 0 9 v0 rfl rfl) h0
  obtain ⟨a1, rfl, rfl, rfl, w1⟩ := open_string Try.underlying9 (hval 1 9 v1 rfl rfl) h1
  obtain ⟨a2, rfl, rfl, rfl, w2⟩ := open_int Try.underlying3 (hval 2 3 v2 rfl rfl) h2
  clear hA0 hval0
  simp only [List.append_nil] at hW'
  refine (walk a0 a1 a2 w0 w1 w2 W).mono fun e W' ⟨he, hg⟩ => ?_
  subst he
  exact ⟨_, rfl, _, _, _, [], [], [], hW', (trodAll_cons_mk (shut_bool Try.underlying4 _) trodAll_mk0), (trodAll_cons_mk (shut_string Try.underlying9 w0) (trodAll_cons_mk (shut_string Try.underlying9 w1) (trodAll_cons_mk (shut_int Try.underlying3 w2) trodAll_mk0))), rfl, hg.frame _, fun h => by cases h⟩

theorem over : Rows.macKeysRow.holds Try.pinned (OpenSpec.ofChange Rows.macKeysSpec) :=
  OpenClaim.holds_of_wide 5 Try.f5 rfl rfl rfl rfl rfl rfl rfl ⟨rfl, rfl, rfl, rfl, rfl⟩ rfl rfl rfl rfl rfl (by kernel_rfl) Try.func5 (by kernel_rfl)
    (of_decide_eq_true (by kernel_rfl)) (by unfold Func.isWrapper; first | (rw [if_pos (by decide +kernel)]; kernel_rfl) | (rw [if_neg (by decide +kernel)]; exact ⟨rfl, rfl⟩))
    (fun os started H enc _ => lifted os started H enc)

theorem proved : Rows.MacKeysSaid :=
  over
#print axioms proved
end Go.Proofs.Ytbnhahbnggojiaa.macKeys
