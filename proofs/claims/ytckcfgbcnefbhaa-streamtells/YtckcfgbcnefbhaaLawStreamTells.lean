/- Promises P501, P502: for all texts key, nonce and b, every counter, either way of raw and all words x, y, z and w the law StreamTells answers true at the landed code: stream.Quarter, stream.Block and stream.Xor tell the document's own reckoning (the reference), or, where a key has not 32 bytes or a nonce not 12, that they may not be. No condition; longer texts the law itself lets by. -/
import Derived.Test.YtckcfgbcnefbhaaRows
import Derived.WalkKit
import Derived.ProofKit
import Derived.OpenShut
import Derived.ShutString
import Derived.Test.YtckcfgbcnefbhaaStr5
import Derived.Test.YtckcfgbcnefbhaaRefK
namespace Go.Proofs.Ytckcfgbcnefbhaa.streamTells
open Go.ChangeShapes Go.WideShapes Go.ChangeAt Go.RowKit
open Go.ChangeMaps (open_string shut_string)
set_option linter.unusedVariables false      -- a walk need not use every 'w<i>' (that an integer argument fits its kind)

theorem own : ownKnob Try.prog.godebug = none := by kernel_rfl

set_option maxHeartbeats 4000000 in
set_option maxRecDepth 100000 in
theorem walk (a0 : ByteArray) (a1 : ByteArray) (a2 : ByteArray) (a3 : Int) (a4 : Bool) (a5 : Int) (a6 : Int) (a7 : Int) (a8 : Int) (w0 : a0.size ≤ maxLen) (w1 : a1.size ≤ maxLen) (w2 : a2.size ≤ maxLen) (w3 : (Lit.int .u32 a3).wf = true) (w5 : (Lit.int .u32 a5).wf = true) (w6 : (Lit.int .u32 a6).wf = true) (w7 : (Lit.int .u32 a7).wf = true) (w8 : (Lit.int .u32 a8).wf = true) (w : World) :
    Calls Try.prog 3 #[.string a0, .string a1, .string a2, .int .u32 a3, .bool a4, .int .u32 a5, .int .u32 a6, .int .u32 a7, .int .u32 a8] w fun e w' => e = .returned (.bool true) ∧ Below w.heap.size w w' := by
  unfold maxLen at w0 w1 w2
  have hc : W32 a3 := by have := bounds_u32 w3; unfold W32; omega
  have wa : W32 a5 := by have := bounds_u32 w5; unfold W32; omega
  have wb : W32 a6 := by have := bounds_u32 w6; unfold W32; omega
  have wc : W32 a7 := by have := bounds_u32 w7; unfold W32; omega
  have wd : W32 a8 := by have := bounds_u32 w8; unfold W32; omega
  have pq := fun w => stream_quarter a5 a6 a7 a8 w wa wb wc wd
  have pr := fun w => ref_quarter a5 a6 a7 a8 w wa wb wc wd
  generalize qA a5 a6 a7 a8 = A at *
  generalize qB a5 a6 a7 a8 = Bq at *
  generalize qC a5 a6 a7 a8 = C at *
  generalize qD a5 a6 a7 a8 = D at *
  have PQ : Hid _ := pq
  have PR : Hid _ := pr
  clear pq pr wa wb wc wd w3 w5 w6 w7 w8
  cases d1 : decide (100 < (a0.size : Int))
  cases d2 : decide (100 < (a1.size : Int))
  cases d3 : decide (400 < (a2.size : Int))
  · have g1 : a0.size ≤ 100 := by rw [decide_eq_false_iff_not] at d1; omega
    have g2 : a1.size ≤ 100 := by rw [decide_eq_false_iff_not] at d2; omega
    have g3 : a2.size ≤ 400 := by rw [decide_eq_false_iff_not] at d3; omega
    clear w0 w1 w2
    cases a4
    · have f1 := fun w => law5_fill32 a0 w (by omega)
      have f2 := fun w => law5_fill12 a1 w (by omega)
      have h32 := fillS_size a0 32
      have h12 := fillS_size a1 12
      have p1 := fun w => stream_block_yes (fillS a0 32) a3 (fillS a1 12) w h32 h12 hc
      have p2 := fun w => stream_xor_yes (fillS a0 32) a3 (fillS a1 12) a2 w h32 h12 hc (by omega)
      have p3 := fun w => ref_block (fillS a0 32) a3 (fillS a1 12) w h32 h12 hc
      have p4 := fun w => ref_stream (fillS a0 32) a3 (fillS a1 12) a2 w h32 h12 hc (by omega)
      have e1 := str_beq_self (blockS (fillS a0 32) a3 (fillS a1 12))
      have e2 := str_beq_self (hideS (fillS a0 32) a3 (fillS a1 12) a2)
      generalize blockS (fillS a0 32) a3 (fillS a1 12) = B at *
      generalize hideS (fillS a0 32) a3 (fillS a1 12) a2 = H at *
      generalize fillS a0 32 = K at *
      generalize fillS a1 12 = N at *
      have P1 : Hid _ := p1
      have P2 : Hid _ := p2
      have P3 : Hid _ := p3
      have P4 : Hid _ := p4
      have F1 : Hid _ := f1
      have F2 : Hid _ := f2
      clear f1 f2
      clear p1 p2 p3 p4
      go_enter Try.func3, Try.ntmps3
      go_wp2_with fail
      refine (alive5_any _).mono ?_
      rintro e w1 ⟨rfl, b⟩
      go_wp2_with fail
      with_reducible refine (F1.out _).mono ?_
      rintro e w' ⟨rfl, rfl⟩
      go_wp2_with fail
      with_reducible refine (F2.out _).mono ?_
      rintro e w' ⟨rfl, rfl⟩
      go_wp2_with fail
      with_reducible refine (PQ.out _).mono ?_
      rintro e w' ⟨rfl, rfl⟩
      go_wp2_with fail
      with_reducible refine (PR.out _).mono ?_
      rintro e w' ⟨rfl, rfl⟩
      go_wp2_with fail
      with_reducible refine (P1.out _).mono ?_
      rintro e w' ⟨rfl, b'⟩
      replace b := bel_chain' b b'
      clear b'
      go_wp2_with fail
      with_reducible refine (P2.out _).mono ?_
      rintro e w' ⟨rfl, b'⟩
      replace b := bel_chain' b b'
      clear b'
      go_wp2_with fail
      with_reducible refine (P3.out _).mono ?_
      rintro e w' ⟨rfl, b'⟩
      replace b := bel_chain' b b'
      clear b'
      go_wp2_with fail
      with_reducible refine (P4.out _).mono ?_
      rintro e w' ⟨rfl, b'⟩
      replace b := bel_chain' b b'
      clear b'
      go_wp2
      go_ret
      exact ⟨rfl, b⟩
    · by_cases hfit : a0.size = 32 ∧ a1.size = 12
      · have h32 := hfit.1
        have h12 := hfit.2
        clear hfit
        have p1 := fun w => stream_block_yes a0 a3 a1 w h32 h12 hc
        have p2 := fun w => stream_xor_yes a0 a3 a1 a2 w h32 h12 hc (by omega)
        have p3 := fun w => ref_block a0 a3 a1 w h32 h12 hc
        have p4 := fun w => ref_stream a0 a3 a1 a2 w h32 h12 hc (by omega)
        have e1 := str_beq_self (blockS a0 a3 a1)
        have e2 := str_beq_self (hideS a0 a3 a1 a2)
        generalize blockS a0 a3 a1 = B at *
        generalize hideS a0 a3 a1 a2 = H at *
        have P1 : Hid _ := p1
        have P2 : Hid _ := p2
        have P3 : Hid _ := p3
        have P4 : Hid _ := p4
        clear p1 p2 p3 p4
        go_enter Try.func3, Try.ntmps3
        go_wp2_with fail
        refine (alive5_any _).mono ?_
        rintro e w1 ⟨rfl, b⟩
        go_wp2_with fail
        with_reducible refine (PQ.out _).mono ?_
        rintro e w' ⟨rfl, rfl⟩
        go_wp2_with fail
        with_reducible refine (PR.out _).mono ?_
        rintro e w' ⟨rfl, rfl⟩
        go_wp2_with fail
        with_reducible refine (P1.out _).mono ?_
        rintro e w' ⟨rfl, b'⟩
        replace b := bel_chain' b b'
        clear b'
        go_wp2_with fail
        with_reducible refine (P2.out _).mono ?_
        rintro e w' ⟨rfl, b'⟩
        replace b := bel_chain' b b'
        clear b'
        go_wp2_with fail
        with_reducible refine (P3.out _).mono ?_
        rintro e w' ⟨rfl, b'⟩
        replace b := bel_chain' b b'
        clear b'
        go_wp2_with fail
        with_reducible refine (P4.out _).mono ?_
        rintro e w' ⟨rfl, b'⟩
        replace b := bel_chain' b b'
        clear b'
        go_wp2
        go_ret
        exact ⟨rfl, b⟩
      · have p1 := fun w => stream_block_no a0 a3 a1 w hfit
        have p2 := fun w => stream_xor_no a0 a3 a1 a2 w hfit
        have P1 : Hid _ := p1
        have P2 : Hid _ := p2
        clear p1 p2
        by_cases h32 : a0.size = 32
        · have n12 : ((a1.size : Int) != 12) = true := by simp; omega
          clear hfit
          go_enter Try.func3, Try.ntmps3
          go_wp2_with fail
          refine (alive5_any _).mono ?_
          rintro e w1 ⟨rfl, b⟩
          go_wp2_with fail
          with_reducible refine (PQ.out _).mono ?_
          rintro e w' ⟨rfl, rfl⟩
          go_wp2_with fail
          with_reducible refine (PR.out _).mono ?_
          rintro e w' ⟨rfl, rfl⟩
          go_wp2_with fail
          with_reducible refine (P1.out _).mono ?_
          rintro e w' ⟨rfl, rfl⟩
          go_wp2_with fail
          with_reducible refine (P2.out _).mono ?_
          rintro e w' ⟨rfl, rfl⟩
          go_wp2
          go_ret
          exact ⟨rfl, b⟩
        · have n32 : ((a0.size : Int) != 32) = true := by simp; omega
          clear hfit
          go_enter Try.func3, Try.ntmps3
          go_wp2_with fail
          refine (alive5_any _).mono ?_
          rintro e w1 ⟨rfl, b⟩
          go_wp2_with fail
          with_reducible refine (PQ.out _).mono ?_
          rintro e w' ⟨rfl, rfl⟩
          go_wp2_with fail
          with_reducible refine (PR.out _).mono ?_
          rintro e w' ⟨rfl, rfl⟩
          go_wp2_with fail
          with_reducible refine (P1.out _).mono ?_
          rintro e w' ⟨rfl, rfl⟩
          go_wp2_with fail
          with_reducible refine (P2.out _).mono ?_
          rintro e w' ⟨rfl, rfl⟩
          go_wp2
          go_ret
          exact ⟨rfl, b⟩
  all_goals
    go_enter Try.func3, Try.ntmps3
    go_wp2_with fail
    refine (alive5_any _).mono ?_
    rintro e w1 ⟨rfl, b⟩
    go_wp2
    go_ret
    exact ⟨rfl, b⟩

set_option maxRecDepth 100000 in
theorem lifted (os : Os) (started : os.Started) (H : Type) (enc : TypeId × Value → H) :
    ReturnsInHanded {} Try.checked os 3 .any (Rows.streamTellsSpec.pre6 enc Try.prog Try.f3 Rows.streamTellsRow.domain false) (Rows.streamTellsSpec.post enc Try.prog Try.f3 false true false false) := by
  refine returnsInHanded_of_change (C := Try.checked) own started (by kernel_rfl) Try.func3
    (ChangeSpec.witness6 (enc := enc) (C := Try.checked) false ⟨#[], #[.string ByteArray.empty, .string ByteArray.empty, .string ByteArray.empty, .int .u32 0, .bool false, .int .u32 0, .int .u32 0, .int .u32 0, .int .u32 0], []⟩ 8 (by kernel_rfl) (by kernel_rfl) (by kernel_rfl) (by kernel_rfl)) ?_
  intro W base args ds gs before hval0 hW hcnd _
  have hval : ∀ (j : Nat) t v, Try.f3.params[j]? = some t → args[j]? = some v → Value.okWide Try.prog W .any base t v := hval0
  have hW' := hW
  obtain ⟨p, q, hA0, hV, rfl, hfz, hnd⟩ := hW
  have hA : DataW.TrodAll enc Try.prog W 0 (fun _ => true) true Try.f3.params.toList args.toList ds p := hA0
  rw [Try.params3] at hA hval
  obtain ⟨v0, vs0, d0, ds0, p0, q0, hargs, rfl, rfl, h0, r0⟩ := trodAll_cons hA
  obtain ⟨v1, vs1, d1, ds1, p1, q1, rfl, rfl, rfl, h1, r1⟩ := trodAll_cons r0
  obtain ⟨v2, vs2, d2, ds2, p2, q2, rfl, rfl, rfl, h2, r2⟩ := trodAll_cons r1
  obtain ⟨v3, vs3, d3, ds3, p3, q3, rfl, rfl, rfl, h3, r3⟩ := trodAll_cons r2
  obtain ⟨v4, vs4, d4, ds4, p4, q4, rfl, rfl, rfl, h4, r4⟩ := trodAll_cons r3
  obtain ⟨v5, vs5, d5, ds5, p5, q5, rfl, rfl, rfl, h5, r5⟩ := trodAll_cons r4
  obtain ⟨v6, vs6, d6, ds6, p6, q6, rfl, rfl, rfl, h6, r6⟩ := trodAll_cons r5
  obtain ⟨v7, vs7, d7, ds7, p7, q7, rfl, rfl, rfl, h7, r7⟩ := trodAll_cons r6
  obtain ⟨v8, vs8, d8, ds8, p8, q8, rfl, rfl, rfl, h8, r8⟩ := trodAll_cons r7
  obtain ⟨rfl, rfl, rfl⟩ := trodAll_nil r8
  obtain rfl : args = #[v0, v1, v2, v3, v4, v5, v6, v7, v8] := by cases args; simp_all
  obtain ⟨rfl, rfl⟩ := trodVars_none hV
  obtain ⟨a0, rfl, rfl, rfl, w0⟩ := open_string Try.underlying9 (hval 0 9 v0 rfl rfl) h0
  obtain ⟨a1, rfl, rfl, rfl, w1⟩ := open_string Try.underlying9 (hval 1 9 v1 rfl rfl) h1
  obtain ⟨a2, rfl, rfl, rfl, w2⟩ := open_string Try.underlying9 (hval 2 9 v2 rfl rfl) h2
  obtain ⟨a3, rfl, rfl, rfl, w3⟩ := open_int Try.underlying22 (hval 3 22 v3 rfl rfl) h3
  obtain ⟨a4, rfl, rfl, rfl⟩ := open_bool Try.underlying4 (hval 4 4 v4 rfl rfl) h4
  obtain ⟨a5, rfl, rfl, rfl, w5⟩ := open_int Try.underlying22 (hval 5 22 v5 rfl rfl) h5
  obtain ⟨a6, rfl, rfl, rfl, w6⟩ := open_int Try.underlying22 (hval 6 22 v6 rfl rfl) h6
  obtain ⟨a7, rfl, rfl, rfl, w7⟩ := open_int Try.underlying22 (hval 7 22 v7 rfl rfl) h7
  obtain ⟨a8, rfl, rfl, rfl, w8⟩ := open_int Try.underlying22 (hval 8 22 v8 rfl rfl) h8
  clear hA0 hval0
  simp only [List.append_nil] at hW'
  refine (walk a0 a1 a2 a3 a4 a5 a6 a7 a8 w0 w1 w2 w3 w5 w6 w7 w8 W).mono fun e W' ⟨he, hg⟩ => ?_
  subst he
  exact ⟨_, rfl, _, _, _, [], [], [], hW', (trodAll_cons_mk (shut_bool Try.underlying4 _) trodAll_mk0), (trodAll_cons_mk (shut_string Try.underlying9 w0) (trodAll_cons_mk (shut_string Try.underlying9 w1) (trodAll_cons_mk (shut_string Try.underlying9 w2) (trodAll_cons_mk (shut_int Try.underlying22 w3) (trodAll_cons_mk (shut_bool Try.underlying4 _) (trodAll_cons_mk (shut_int Try.underlying22 w5) (trodAll_cons_mk (shut_int Try.underlying22 w6) (trodAll_cons_mk (shut_int Try.underlying22 w7) (trodAll_cons_mk (shut_int Try.underlying22 w8) trodAll_mk0))))))))), rfl, hg.frame _, fun h => by cases h⟩

theorem over : Rows.streamTellsRow.holds Try.pinned (OpenSpec.ofChange Rows.streamTellsSpec) :=
  OpenClaim.holds_of_wide 3 Try.f3 rfl rfl rfl rfl rfl rfl rfl ⟨rfl, rfl, rfl, rfl, rfl⟩ rfl rfl rfl rfl rfl (by kernel_rfl) Try.func3 (by kernel_rfl)
    (of_decide_eq_true (by kernel_rfl)) (by unfold Func.isWrapper; first | (rw [if_pos (by decide +kernel)]; kernel_rfl) | (rw [if_neg (by decide +kernel)]; exact ⟨rfl, rfl⟩))
    (fun os started H enc _ => lifted os started H enc)

theorem proved : Rows.StreamTellsSaid :=
  over
#print axioms proved
end Go.Proofs.Ytckcfgbcnefbhaa.streamTells
