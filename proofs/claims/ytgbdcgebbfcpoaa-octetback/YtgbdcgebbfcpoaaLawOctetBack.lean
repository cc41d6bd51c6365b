/- Promises P101, P102: for every word x, every numbers n and v and every two texts a and b the law OctetBack answers true at the landed code: Big and Little give back what PutBig and PutLittle put into 8 bytes, Unhex gives back what Hex told, a text xored twice is its beginning, a word turned by n and by -n is what it was. No condition. -/
import Derived.Test.YtgbdcgebbfcpoaaRows
import Derived.WalkKit
import Derived.ProofKit
import Derived.OpenShut
import Derived.ShutString
import Derived.Test.YtgbdcgebbfcpoaaOct10
import Derived.Test.YtgbdcgebbfcpoaaOct13
import Derived.Deep.RegionHeld3
namespace Go.Proofs.Ytgbdcgebbfcpoaa.octetBack
open Go.ChangeShapes Go.WideShapes Go.ChangeAt Go.RowKit
open Go.ChangeMaps (open_string shut_string)
set_option linter.unusedVariables false      -- a walk need not use every 'w<i>' (that an integer argument fits its kind)

theorem own : ownKnob Try.prog.godebug = none := by kernel_rfl

set_option maxHeartbeats 4000000 in
set_option maxRecDepth 100000 in
theorem walk (a0 : Int) (a1 : Int) (a2 : Int) (a3 : ByteArray) (a4 : ByteArray) (w0 : (Lit.int .u32 a0).wf = true) (w1 : (Lit.int .i64 a1).wf = true) (w2 : (Lit.int .u64 a2).wf = true) (w3 : a3.size ≤ maxLen) (w4 : a4.size ≤ maxLen) (w : World) :
    Calls Try.prog 4 #[.int .u32 a0, .int .i64 a1, .int .u64 a2, .string a3, .string a4] w fun e w' => e = .returned (.bool true) ∧ Below w.heap.size w w' := by
  unfold maxLen at w3 w4
  have hx := bounds_u32 w0
  have hx0 := hx.1
  have hx1 : a0 < 4294967296 := by omega
  have hv := bounds_u64 w2
  have hv0 := hv.1
  have hv1 : a2 < 18446744073709551616 := by omega
  clear hx hv
  cases d1 : decide (500 < (a3.size : Int))
  cases d2 : decide (500 < (a4.size : Int))
  cases d3 : decide (1099511627776 < a1)
  cases d4 : decide (a1 < -1099511627776)
  · have h3 : a3.size ≤ 500 := by rw [decide_eq_false_iff_not] at d1; omega
    have h4 : a4.size ≤ 500 := by rw [decide_eq_false_iff_not] at d2; omega
    have n1 : a1 ≤ 1099511627776 := by rw [decide_eq_false_iff_not] at d3; omega
    have n2 : -1099511627776 ≤ a1 := by rw [decide_eq_false_iff_not] at d4; omega
    clear w0 w1 w2 w3 w4
    have hr := rotl_bd a0 a1 hx0 hx1
    have hr0 := hr.1
    have hr1 := hr.2
    clear hr
    have ER : Hid (rotl (rotl a0 a1) (IntKind.i64.wrap (-a1)) = a0) := by
      show _ = _
      rw [show IntKind.i64.wrap (-a1) = -a1 from by rw [IntKind.wrap_i64]; omega]
      rw [rotl_rotl a0 a1 (-a1) hx0 hx1, show a1 + -a1 = 0 from by omega]
      exact rotl_zero a0 0 hx0 hx1 rfl
    have EB : Hid (bigS (putBigS a2 8) = a2) := big_back a2 hv0 hv1
    have EL : Hid (littleS (putLittleS a2 8) = a2) := little_back a2 hv0 hv1
    have zB := putBigS_le a2 8
    have zL := putLittleS_le a2 8
    have EO : Hid (unhexOk (hexS a3) = true) := unhexOk_hex a3
    have EH : Hid (unhexS (hexS a3) = a3) := unhexS_hex a3
    have zH : (hexS a3).size ≤ 1000 := by rw [hexS_size]; omega
    have zX : (xorS a3 a4).size ≤ 500 := by rw [xorS_size]; omega
    rcases Nat.lt_or_ge a4.size a3.size with hm | hm
    · have EX : Hid (xorS (xorS a3 a4) a4 = a3.extract 0 a4.size) := xorS_cut a3 a4 a4.size (by omega)
      have hle : (a4.size : Int) ≤ (a3.size : Int) := by omega
      have hle0 : (0 : Int) ≤ (a4.size : Int) := by omega
      go_enter Try.func4, Try.ntmps4
      go_wp2_with fail
      refine (alive_any _).mono ?_
      rintro e w1 ⟨rfl, b1⟩
      go_wp2_with fail
      refine (octet_hex _ _ (by omega)).mono ?_
      rintro e w2 ⟨rfl, b2⟩
      go_wp2_with fail
      refine (octet_unhex _ _ (by omega)).mono ?_
      rintro e w3 ⟨rfl, b3⟩
      rw [EO.out, EH.out]
      have b := bel_chain (bel_chain b1 b2) b3
      clear b1 b2 b3
      go_wp2
      go_region_held3 (fun w' => True) (exact True.intro) (first | (go_at_call 14; refine (octet_putBig _ _ _ hv0 hv1).mono ?_; rintro e w' ⟨rfl, b'⟩; (first | replace b := bel_chain b b' | replace b := bel_chain b.drew b'); clear b') | (go_at_call 16; refine (octet_putLittle _ _ _ hv0 hv1).mono ?_; rintro e w' ⟨rfl, b'⟩; (first | replace b := bel_chain b b' | replace b := bel_chain b.drew b'); clear b') | (go_at_call 18; refine (octet_big _ _ (show (putBigS a2 8).size ≤ maxLen from by unfold maxLen; omega)).mono ?_; rintro e w' ⟨rfl, rfl⟩; rw [EB.out]) | (go_at_call 20; refine (octet_little _ _ (show (putLittleS a2 8).size ≤ maxLen from by unfold maxLen; omega)).mono ?_; rintro e w' ⟨rfl, rfl⟩; rw [EL.out]) | (go_at_call_of 22 (Value.string (xorS a3 a4)); refine (octet_xor _ _ _ ?_ ?_).mono ?_; omega; omega; rintro e w' ⟨rfl, b'⟩; rw [EX.out]; (first | replace b := bel_chain b b' | replace b := bel_chain b.drew b'); clear b') | (go_at_call 22; refine (octet_xor _ _ _ ?_ ?_).mono ?_; omega; omega; rintro e w' ⟨rfl, b'⟩; (first | replace b := bel_chain b b' | replace b := bel_chain b.drew b'); clear b') | (go_at_call_of 12 (Value.int IntKind.u32 (rotl a0 a1)); refine (octet_left _ _ _ hr0 hr1).mono ?_; rintro e w' ⟨rfl, rfl⟩; (try rw [ER.out])) | (go_at_call 12; refine (octet_left _ _ _ hx0 hx1).mono ?_; rintro e w' ⟨rfl, rfl⟩))
      all_goals
        go_wp2
        go_ret
        exact ⟨rfl, b⟩
    · have EX : Hid (xorS (xorS a3 a4) a4 = a3.extract 0 a3.size) := xorS_cut a3 a4 a3.size (by omega)
      have hm' : ¬ a4.size < a3.size := by omega
      have hle : (a3.size : Int) ≤ (a3.size : Int) := by omega
      have hle0 : (0 : Int) ≤ (a3.size : Int) := by omega
      go_enter Try.func4, Try.ntmps4
      go_wp2_with fail
      refine (alive_any _).mono ?_
      rintro e w1 ⟨rfl, b1⟩
      go_wp2_with fail
      refine (octet_hex _ _ (by omega)).mono ?_
      rintro e w2 ⟨rfl, b2⟩
      go_wp2_with fail
      refine (octet_unhex _ _ (by omega)).mono ?_
      rintro e w3 ⟨rfl, b3⟩
      rw [EO.out, EH.out]
      have b := bel_chain (bel_chain b1 b2) b3
      clear b1 b2 b3
      go_wp2
      go_region_held3 (fun w' => True) (exact True.intro) (first | (go_at_call 14; refine (octet_putBig _ _ _ hv0 hv1).mono ?_; rintro e w' ⟨rfl, b'⟩; (first | replace b := bel_chain b b' | replace b := bel_chain b.drew b'); clear b') | (go_at_call 16; refine (octet_putLittle _ _ _ hv0 hv1).mono ?_; rintro e w' ⟨rfl, b'⟩; (first | replace b := bel_chain b b' | replace b := bel_chain b.drew b'); clear b') | (go_at_call 18; refine (octet_big _ _ (show (putBigS a2 8).size ≤ maxLen from by unfold maxLen; omega)).mono ?_; rintro e w' ⟨rfl, rfl⟩; rw [EB.out]) | (go_at_call 20; refine (octet_little _ _ (show (putLittleS a2 8).size ≤ maxLen from by unfold maxLen; omega)).mono ?_; rintro e w' ⟨rfl, rfl⟩; rw [EL.out]) | (go_at_call_of 22 (Value.string (xorS a3 a4)); refine (octet_xor _ _ _ ?_ ?_).mono ?_; omega; omega; rintro e w' ⟨rfl, b'⟩; rw [EX.out]; (first | replace b := bel_chain b b' | replace b := bel_chain b.drew b'); clear b') | (go_at_call 22; refine (octet_xor _ _ _ ?_ ?_).mono ?_; omega; omega; rintro e w' ⟨rfl, b'⟩; (first | replace b := bel_chain b b' | replace b := bel_chain b.drew b'); clear b') | (go_at_call_of 12 (Value.int IntKind.u32 (rotl a0 a1)); refine (octet_left _ _ _ hr0 hr1).mono ?_; rintro e w' ⟨rfl, rfl⟩; (try rw [ER.out])) | (go_at_call 12; refine (octet_left _ _ _ hx0 hx1).mono ?_; rintro e w' ⟨rfl, rfl⟩))
      all_goals
        go_wp2
        go_ret
        exact ⟨rfl, b⟩
  all_goals
    go_enter Try.func4, Try.ntmps4
    go_wp2_with fail
    refine (alive_any _).mono ?_
    rintro e w1 ⟨rfl, b1⟩
    go_wp2
    go_ret
    exact ⟨rfl, b1⟩

set_option maxRecDepth 100000 in
theorem lifted (os : Os) (started : os.Started) (H : Type) (enc : TypeId × Value → H) :
    ReturnsInHanded {} Try.checked os 4 .any (Rows.octetBackSpec.pre6 enc Try.prog Try.f4 Rows.octetBackRow.domain false) (Rows.octetBackSpec.post enc Try.prog Try.f4 false true false false) := by
  refine returnsInHanded_of_change (C := Try.checked) own started (by kernel_rfl) Try.func4
    (ChangeSpec.witness6 (enc := enc) (C := Try.checked) false ⟨#[], #[.int .u32 0, .int .i64 0, .int .u64 0, .string ByteArray.empty, .string ByteArray.empty], []⟩ 8 (by kernel_rfl) (by kernel_rfl) (by kernel_rfl) (by kernel_rfl)) ?_
  intro W base args ds gs before hval0 hW hcnd _
  have hval : ∀ (j : Nat) t v, Try.f4.params[j]? = some t → args[j]? = some v → Value.okWide Try.prog W .any base t v := hval0
  have hW' := hW
  obtain ⟨p, q, hA0, hV, rfl, hfz, hnd⟩ := hW
  have hA : DataW.TrodAll enc Try.prog W 0 (fun _ => true) true Try.f4.params.toList args.toList ds p := hA0
  rw [Try.params4] at hA hval
  obtain ⟨v0, vs0, d0, ds0, p0, q0, hargs, rfl, rfl, h0, r0⟩ := trodAll_cons hA
  obtain ⟨v1, vs1, d1, ds1, p1, q1, rfl, rfl, rfl, h1, r1⟩ := trodAll_cons r0
  obtain ⟨v2, vs2, d2, ds2, p2, q2, rfl, rfl, rfl, h2, r2⟩ := trodAll_cons r1
  obtain ⟨v3, vs3, d3, ds3, p3, q3, rfl, rfl, rfl, h3, r3⟩ := trodAll_cons r2
  obtain ⟨v4, vs4, d4, ds4, p4, q4, rfl, rfl, rfl, h4, r4⟩ := trodAll_cons r3
  obtain ⟨rfl, rfl, rfl⟩ := trodAll_nil r4
  obtain rfl : args = #[v0, v1, v2, v3, v4] := by cases args; simp_all
  obtain ⟨rfl, rfl⟩ := trodVars_none hV
  obtain ⟨a0, rfl, rfl, rfl, w0⟩ := open_int Try.underlying22 (hval 0 22 v0 rfl rfl) h0
  obtain ⟨a1, rfl, rfl, rfl, w1⟩ := open_int Try.underlying3 (hval 1 3 v1 rfl rfl) h1
  obtain ⟨a2, rfl, rfl, rfl, w2⟩ := open_int Try.underlying23 (hval 2 23 v2 rfl rfl) h2
  obtain ⟨a3, rfl, rfl, rfl, w3⟩ := open_string Try.underlying9 (hval 3 9 v3 rfl rfl) h3
  obtain ⟨a4, rfl, rfl, rfl, w4⟩ := open_string Try.underlying9 (hval 4 9 v4 rfl rfl) h4
  clear hA0 hval0
  simp only [List.append_nil] at hW'
  refine (walk a0 a1 a2 a3 a4 w0 w1 w2 w3 w4 W).mono fun e W' ⟨he, hg⟩ => ?_
  subst he
  exact ⟨_, rfl, _, _, _, [], [], [], hW', (trodAll_cons_mk (shut_bool Try.underlying4 _) trodAll_mk0), (trodAll_cons_mk (shut_int Try.underlying22 w0) (trodAll_cons_mk (shut_int Try.underlying3 w1) (trodAll_cons_mk (shut_int Try.underlying23 w2) (trodAll_cons_mk (shut_string Try.underlying9 w3) (trodAll_cons_mk (shut_string Try.underlying9 w4) trodAll_mk0))))), rfl, hg.frame _, fun h => by cases h⟩

theorem over : Rows.octetBackRow.holds Try.pinned (OpenSpec.ofChange Rows.octetBackSpec) :=
  OpenClaim.holds_of_wide 4 Try.f4 rfl rfl rfl rfl rfl rfl rfl ⟨rfl, rfl, rfl, rfl, rfl⟩ rfl rfl rfl rfl rfl (by kernel_rfl) Try.func4 (by kernel_rfl)
    (of_decide_eq_true (by kernel_rfl)) (by unfold Func.isWrapper; first | (rw [if_pos (by decide +kernel)]; kernel_rfl) | (rw [if_neg (by decide +kernel)]; exact ⟨rfl, rfl⟩))
    (fun os started H enc _ => lifted os started H enc)

theorem proved : Rows.OctetBackSaid :=
  over
#print axioms proved
end Go.Proofs.Ytgbdcgebbfcpoaa.octetBack
