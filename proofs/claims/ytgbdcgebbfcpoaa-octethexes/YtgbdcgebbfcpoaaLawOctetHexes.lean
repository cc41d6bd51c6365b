/- Promise P102: for every text b, every number at and every byte c the law OctetHexes answers true at the landed code: Hex tells two digits a byte, small letters alone; with one digit replaced by c Unhex takes them just if c is a digit; an odd number of digits it refuses. No condition. -/
import Derived.Test.YtgbdcgebbfcpoaaRows
import Derived.WalkKit
import Derived.ProofKit
import Derived.OpenShut
import Derived.ShutString
import Derived.Test.YtgbdcgebbfcpoaaOct10
import Derived.Test.YtgbdcgebbfcpoaaOct15
import Derived.Deep.RegionWith
namespace Go.Proofs.Ytgbdcgebbfcpoaa.octetHexes
open Go.ChangeShapes Go.WideShapes Go.ChangeAt Go.RowKit
open Go.ChangeMaps (open_string shut_string)
set_option linter.unusedVariables false      -- a walk need not use every 'w<i>' (that an integer argument fits its kind)

theorem own : ownKnob Try.prog.godebug = none := by kernel_rfl

set_option maxHeartbeats 4000000 in
set_option maxRecDepth 100000 in
theorem walk (a0 : ByteArray) (a1 : Int) (a2 : Int) (w0 : a0.size ≤ maxLen) (w1 : (Lit.int .i64 a1).wf = true) (w2 : (Lit.int .u8 a2).wf = true) (w : World) :
    Calls Try.prog 7 #[.string a0, .int .i64 a1, .int .u8 a2] w fun e w' => e = .returned (.bool true) ∧ Below w.heap.size w w' := by
  unfold maxLen at w0
  have hc := bounds_u8 w2
  have hc0 := hc.1
  have hc1 := hc.2
  have hat := bounds_i64 w1
  have hat0 := hat.1
  have hat1 := hat.2
  clear hc hat w1 w2
  cases d1 : decide (200 < (a0.size : Int))
  · have h0 : a0.size ≤ 200 := by rw [decide_eq_false_iff_not] at d1; omega
    clear w0
    have zH := hexS_size a0
    have HD : Hid (∀ j (hj : j < (hexS a0).size), isDig ((hexS a0)[j].toNat : Int) = true) := by
      intro j hj
      have hok := unhexOk_hex a0
      cases hd : isDig ((hexS a0)[j].toNat : Int)
      · rw [unhex_bad (hexS a0) j hj hd] at hok; exact hok
      · rfl
    have PH : Hid _ := octet_hex a0
    generalize hexS a0 = H at *
    have z1 : H.size ≤ 2 * a0.size := by omega
    have z2 : 2 * a0.size ≤ H.size := by omega
    have tz : ((H.size : Int) != 2 * (a0.size : Int)) = false := by rw [bne_eq_false_iff_eq]; omega
    have tz' : ((H.size : Int) == 2 * (a0.size : Int)) = true := by rw [beq_iff_eq]; omega
    clear zH
    go_enter Try.func7, Try.ntmps7
    go_wp2_with fail
    refine (alive_any _).mono ?_
    rintro e w1 ⟨rfl, b1⟩
    go_wp2_with fail
    refine (PH.out _ (by omega)).mono ?_
    rintro e w2 ⟨rfl, b2⟩
    have b := bel_chain b1 b2
    clear b1 b2
    go_wp2
    go_loopw [8] (fun i wr => ∃ k : Nat, k ≤ H.size ∧ i = .int .i64 k ∧ Below w.heap.size w wr) (fun i _ => H.size - (intOf i).toNat)
    case atStart => exact ⟨0, Nat.zero_le _, rfl, b⟩
    case round =>
      clear b
      obtain ⟨k, hk, rfl, b⟩ := hrel
      by_cases hlt : k < H.size
      · have hd := HD.out k hlt
        unfold isDig at hd
        rw [decide_eq_true_eq] at hd
        have hb17 : decide ((k : Int) < (H.size : Int)) = true := decide_eq_true (by omega)
        rcases hd with ⟨q1, q2⟩ | ⟨q1, q2⟩
        · have t1 : decide ((48 : Int) ≤ (H[k].toNat : Int)) = true := decide_eq_true q1
          have t2 : decide ((H[k].toNat : Int) ≤ 57) = true := decide_eq_true q2
          go_wp2
          go_roundw
          case rel => exact ⟨k + 1, by omega, by go_num, b⟩
          case measure => simp [intOf]; omega
        · have t1 : decide ((48 : Int) ≤ (H[k].toNat : Int)) = true := decide_eq_true (by omega)
          have t2 : decide ((H[k].toNat : Int) ≤ 57) = false := decide_eq_false (by omega)
          have t3 : decide ((97 : Int) ≤ (H[k].toNat : Int)) = true := decide_eq_true q1
          have t4 : decide ((H[k].toNat : Int) ≤ 102) = true := decide_eq_true q2
          go_wp2
          go_roundw
          case rel => exact ⟨k + 1, by omega, by go_num, b⟩
          case measure => simp [intOf]; omega
      · have hb17 : decide ((k : Int) < (H.size : Int)) = false := decide_eq_false (by omega)
        by_cases hz : a0.size = 0
        · have te : ((H.size : Int) == 0) = true := by rw [beq_iff_eq]; omega
          go_wp2
          all_goals
            go_ret
            exact ⟨rfl, b⟩
        · have te : ((H.size : Int) == 0) = false := by rw [beq_eq_false_iff_ne]; omega
          obtain ⟨c, rfl⟩ : ∃ c : UInt8, a2 = (c.toNat : Int) := ⟨UInt8.ofNat a2.toNat, by rw [UInt8.toNat_ofNat']; omega⟩
          have hm := mod_back a1 (H.size : Int) (by omega) (by omega)
          have hm0 := Int.emod_nonneg a1 (show (H.size : Int) ≠ 0 from by omega)
          have hm1 := Int.emod_lt_of_pos a1 (show (0 : Int) < (H.size : Int) from by omega)
          obtain ⟨K, hK⟩ := Int.eq_ofNat_of_zero_le hm0
          rw [hK] at hm hm1
          clear hm0 hK
          have hcv := conv_one_drew c
          have HT := splice_ok H K c (by omega) (by omega) HD.out
          have zL : (H.extract 0 K).size ≤ 400 := by simp; omega
          have zR : (H.extract (K + 1) H.size).size ≤ 400 := by simp; omega
          have zO : (H.extract 1 H.size).size = H.size - 1 := by simp
          have HO : Hid (unhexOk (H.extract 1 H.size) = false) := unhex_odd _ (by omega)
          have zO' : (H.extract 1 H.size).size ≤ 400 := by omega
          clear zO
          obtain ⟨L, eL⟩ : ∃ L, H.extract 0 K = L := ⟨_, rfl⟩
          obtain ⟨R, eR⟩ : ∃ R, H.extract (K + 1) H.size = R := ⟨_, rfl⟩
          obtain ⟨C, eC⟩ : ∃ C, str [c] = C := ⟨_, rfl⟩
          have zC : C.size = 1 := by rw [← eC, str_size]; rfl
          rw [eL] at zL
          rw [eR] at zR
          rw [eL, eR, eC] at HT
          have zC' : C.size ≤ 1 := by omega
          clear zC
          have HT' : Hid _ := HT
          clear HT
          have f1 : ¬ (9223372036854775807 < L.size + C.size) := by omega
          have f2 : ¬ (9223372036854775807 < L.size + C.size + R.size) := by omega
          have hK1 : (K : Int) ≤ (H.size : Int) := by omega
          have hK2 : (K : Int) + 1 ≤ (H.size : Int) := by omega
          have hK3 : (0 : Int) ≤ (K : Int) + 1 := by omega
          have hK4 : ((K : Int) + 1).toNat = K + 1 := by omega
          have hKw : IntKind.i64.wrap ((K : Int) + 1) = (K : Int) + 1 := by rw [IntKind.wrap_i64]; omega
          go_wp2
          go_region_with (first | (go_at_call 10; refine (octet_unhex _ _ ?_).mono ?_; (simp only [ByteArray.size_append]; omega); rintro e w' ⟨rfl, b'⟩; replace b := bel_chain (b.alloc b.size _).drew b'; clear b'; rw [HT'.out]))
          all_goals
            go_wp2_with fail
            refine (octet_unhex _ _ (by omega)).mono ?_
            rintro e w3 ⟨rfl, b'⟩
            rw [HO.out]
            replace b := bel_chain b b'
            clear b' hcv eL eR eC hm
            generalize (c.toNat : Int) = x at *
            rcases (show x < 48 ∨ (48 ≤ x ∧ x ≤ 57) ∨ (57 < x ∧ x < 97) ∨ (97 ≤ x ∧ x ≤ 102) ∨ 102 < x from by omega) with h | h | h | h | h
            · have e0 : isDig x = false := by unfold isDig; rw [decide_eq_false_iff_not]; omega
              have e1 : decide ((48 : Int) ≤ x) = false := decide_eq_false (by omega)
              have e3 : decide ((97 : Int) ≤ x) = false := decide_eq_false (by omega)
              go_wp2
              go_ret
              exact ⟨rfl, b⟩
            · have e0 : isDig x = true := by unfold isDig; rw [decide_eq_true_eq]; omega
              have e1 : decide ((48 : Int) ≤ x) = true := decide_eq_true (by omega)
              have e2 : decide (x ≤ 57) = true := decide_eq_true (by omega)
              go_wp2
              go_ret
              exact ⟨rfl, b⟩
            · have e0 : isDig x = false := by unfold isDig; rw [decide_eq_false_iff_not]; omega
              have e1 : decide ((48 : Int) ≤ x) = true := decide_eq_true (by omega)
              have e2 : decide (x ≤ 57) = false := decide_eq_false (by omega)
              have e3 : decide ((97 : Int) ≤ x) = false := decide_eq_false (by omega)
              go_wp2
              go_ret
              exact ⟨rfl, b⟩
            · have e0 : isDig x = true := by unfold isDig; rw [decide_eq_true_eq]; omega
              have e1 : decide ((48 : Int) ≤ x) = true := decide_eq_true (by omega)
              have e2 : decide (x ≤ 57) = false := decide_eq_false (by omega)
              have e3 : decide ((97 : Int) ≤ x) = true := decide_eq_true (by omega)
              have e4 : decide (x ≤ 102) = true := decide_eq_true (by omega)
              go_wp2
              go_ret
              exact ⟨rfl, b⟩
            · have e0 : isDig x = false := by unfold isDig; rw [decide_eq_false_iff_not]; omega
              have e1 : decide ((48 : Int) ≤ x) = true := decide_eq_true (by omega)
              have e2 : decide (x ≤ 57) = false := decide_eq_false (by omega)
              have e3 : decide ((97 : Int) ≤ x) = true := decide_eq_true (by omega)
              have e4 : decide (x ≤ 102) = false := decide_eq_false (by omega)
              go_wp2
              go_ret
              exact ⟨rfl, b⟩
  all_goals
    go_enter Try.func7, Try.ntmps7
    go_wp2_with fail
    refine (alive_any _).mono ?_
    rintro e w1 ⟨rfl, b1⟩
    go_wp2
    go_ret
    exact ⟨rfl, b1⟩

set_option maxRecDepth 100000 in
theorem lifted (os : Os) (started : os.Started) (H : Type) (enc : TypeId × Value → H) :
    ReturnsInHanded {} Try.checked os 7 .any (Rows.octetHexesSpec.pre6 enc Try.prog Try.f7 Rows.octetHexesRow.domain false) (Rows.octetHexesSpec.post enc Try.prog Try.f7 false true false false) := by
  refine returnsInHanded_of_change (C := Try.checked) own started (by kernel_rfl) Try.func7
    (ChangeSpec.witness6 (enc := enc) (C := Try.checked) false ⟨#[], #[.string ByteArray.empty, .int .i64 0, .int .u8 0], []⟩ 8 (by kernel_rfl) (by kernel_rfl) (by kernel_rfl) (by kernel_rfl)) ?_
  intro W base args ds gs before hval0 hW hcnd _
  have hval : ∀ (j : Nat) t v, Try.f7.params[j]? = some t → args[j]? = some v → Value.okWide Try.prog W .any base t v := hval0
  have hW' := hW
  obtain ⟨p, q, hA0, hV, rfl, hfz, hnd⟩ := hW
  have hA : DataW.TrodAll enc Try.prog W 0 (fun _ => true) true Try.f7.params.toList args.toList ds p := hA0
  rw [Try.params7] at hA hval
  obtain ⟨v0, vs0, d0, ds0, p0, q0, hargs, rfl, rfl, h0, r0⟩ := trodAll_cons hA
  obtain ⟨v1, vs1, d1, ds1, p1, q1, rfl, rfl, rfl, h1, r1⟩ := trodAll_cons r0
  obtain ⟨v2, vs2, d2, ds2, p2, q2, rfl, rfl, rfl, h2, r2⟩ := trodAll_cons r1
  obtain ⟨rfl, rfl, rfl⟩ := trodAll_nil r2
  obtain rfl : args = #[v0, v1, v2] := by cases args; simp_all
  obtain ⟨rfl, rfl⟩ := trodVars_none hV
  obtain ⟨a0, rfl, rfl, rfl, w0⟩ := open_string Try.underlying9 (hval 0 9 v0 rfl rfl) h0
  obtain ⟨a1, rfl, rfl, rfl, w1⟩ := open_int Try.underlying3 (hval 1 3 v1 rfl rfl) h1
  obtain ⟨a2, rfl, rfl, rfl, w2⟩ := open_int Try.underlying5 (hval 2 5 v2 rfl rfl) h2
  clear hA0 hval0
  simp only [List.append_nil] at hW'
  refine (walk a0 a1 a2 w0 w1 w2 W).mono fun e W' ⟨he, hg⟩ => ?_
  subst he
  exact ⟨_, rfl, _, _, _, [], [], [], hW', (trodAll_cons_mk (shut_bool Try.underlying4 _) trodAll_mk0), (trodAll_cons_mk (shut_string Try.underlying9 w0) (trodAll_cons_mk (shut_int Try.underlying3 w1) (trodAll_cons_mk (shut_int Try.underlying5 w2) trodAll_mk0))), rfl, hg.frame _, fun h => by cases h⟩

theorem over : Rows.octetHexesRow.holds Try.pinned (OpenSpec.ofChange Rows.octetHexesSpec) :=
  OpenClaim.holds_of_wide 7 Try.f7 rfl rfl rfl rfl rfl rfl rfl ⟨rfl, rfl, rfl, rfl, rfl⟩ rfl rfl rfl rfl rfl (by kernel_rfl) Try.func7 (by kernel_rfl)
    (of_decide_eq_true (by kernel_rfl)) (by unfold Func.isWrapper; first | (rw [if_pos (by decide +kernel)]; kernel_rfl) | (rw [if_neg (by decide +kernel)]; exact ⟨rfl, rfl⟩))
    (fun os started H enc _ => lifted os started H enc)

theorem proved : Rows.OctetHexesSaid :=
  over
#print axioms proved
end Go.Proofs.Ytgbdcgebbfcpoaa.octetHexes
