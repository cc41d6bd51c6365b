/- Promise P502: for all texts key and nonce and every number n the law StreamWraps answers true at the landed code: behind the greatest counter comes 0. No condition; numbers below 1 or above 4 the law itself lets by. -/
import Derived.Test.YtckcfgbcnefbhaaRows
import Derived.WalkKit
import Derived.ProofKit
import Derived.OpenShut
import Derived.ShutString
import Derived.Test.YtckcfgbcnefbhaaStr5
namespace Go.Proofs.Ytckcfgbcnefbhaa.streamWraps
open Go.ChangeShapes Go.WideShapes Go.ChangeAt Go.RowKit
open Go.ChangeMaps (open_string shut_string)
set_option linter.unusedVariables false      -- a walk need not use every 'w<i>' (that an integer argument fits its kind)

theorem own : ownKnob Try.prog.godebug = none := by kernel_rfl

set_option maxHeartbeats 4000000 in
set_option maxRecDepth 100000 in
theorem walk (a0 : ByteArray) (a1 : ByteArray) (a2 : Int) (w0 : a0.size ≤ maxLen) (w1 : a1.size ≤ maxLen) (w2 : (Lit.int .i64 a2).wf = true) (w : World) :
    Calls Try.prog 6 #[.string a0, .string a1, .int .i64 a2] w fun e w' => e = .returned (.bool true) ∧ Below w.heap.size w w' := by
  unfold maxLen at w0 w1
  by_cases d1 : 1 ≤ a2
  · by_cases d2 : a2 ≤ 4
    · obtain ⟨m, rfl⟩ : ∃ m : Nat, a2 = ((m + 1 : Nat) : Int) := ⟨(a2 - 1).toNat, by omega⟩
      have hm : m ≤ 3 := by omega
      clear d1 d2
      have f1 := fun w => law5_fill32 a0 w (by omega)
      have f2 := fun w => law5_fill12 a1 w (by omega)
      have h32 := fillS_size a0 32
      have h12 := fillS_size a1 12
      have hg : W32 4294967295 := ⟨by decide, by decide⟩
      have hz : W32 0 := ⟨by decide, by decide⟩
      have z1 := zeros_size (64 * (m + 1))
      have z2 := zeros_size (64 * m)
      have p1 := fun w => stream_xor_yes (fillS a0 32) 4294967295 (fillS a1 12) (zeros (64 * (m + 1))) w h32 h12 hg (by omega)
      have p2 := fun w => stream_block_yes (fillS a0 32) 4294967295 (fillS a1 12) w h32 h12 hg
      have p3 := fun w => stream_xor_yes (fillS a0 32) 0 (fillS a1 12) (zeros (64 * m)) w h32 h12 hz (by omega)
      have s2 := blockS_size (fillS a0 32) 4294967295 (fillS a1 12)
      have s3 : (hideS (fillS a0 32) 0 (fillS a1 12) (zeros (64 * m))).size ≤ 1000000 := by rw [hideS_size, z2]; omega
      have e : blockS (fillS a0 32) 4294967295 (fillS a1 12) ++ hideS (fillS a0 32) 0 (fillS a1 12) (zeros (64 * m)) = hideS (fillS a0 32) 4294967295 (fillS a1 12) (zeros (64 * (m + 1))) := by
        rw [hide_zeros, hide_zeros, keys_first _ _ _ hg, show addI 4294967295 1 = 0 from rfl, ← str_cat6]; rfl
      have hself := str_beq_self (hideS (fillS a0 32) 4294967295 (fillS a1 12) (zeros (64 * (m + 1))))
      generalize hideS (fillS a0 32) 4294967295 (fillS a1 12) (zeros (64 * (m + 1))) = U at *
      generalize hideS (fillS a0 32) 0 (fillS a1 12) (zeros (64 * m)) = V at *
      generalize blockS (fillS a0 32) 4294967295 (fillS a1 12) = B at *
      generalize fillS a0 32 = K at *
      generalize fillS a1 12 = N at *
      have F1 : Hid _ := f1
      have F2 : Hid _ := f2
      have P1 : Hid _ := p1
      have P2 : Hid _ := p2
      have P3 : Hid _ := p3
      clear f1 f2 p1 p2 p3
      have n1 : ¬ ((m : Int) + 1 < 1) := by omega
      have n2 : ¬ (4 < (m : Int) + 1) := by omega
      have hln : ¬ (9223372036854775807 < 64 + V.size) := by omega
      go_enter Try.func6, Try.ntmps6
      go_wp2_with fail
      refine (alive5_any _).mono ?_
      rintro e w1 ⟨rfl, b⟩
      go_wp2_with fail
      with_reducible refine (F1.out _).mono ?_
      rintro e w' ⟨rfl, rfl⟩
      go_wp2_with fail
      with_reducible refine (F2.out _).mono ?_
      rintro e w' ⟨rfl, rfl⟩
      have ob1 : Below w.heap.size w (w1.alloc (.cells (cells8 (zeros8 (64 * (m + 1)))).toArray 5)) := b.alloc b.size _
      have hv1 := zeros_back (RowIs.new w1 5 (cells8 (zeros8 (64 * (m + 1))))) (by omega)
      go_wp2_with (first | (at_make; refine wpList_make8 rfl _ _ rfl _ _ (64 * (m + 1)) (64 * (m + 1)) rfl rfl (by omega) (by omega) (Nat.le_refl _) (by omega) w1.heap.size rfl ?_))
      generalize w1.alloc (.cells (cells8 (zeros8 (64 * (m + 1)))).toArray 5) = w2 at *
      with_reducible refine (P1.out _).mono ?_
      rintro e w3 ⟨rfl, b'⟩
      replace b := bel_chain' ob1 b'
      clear b' ob1 hv1
      go_wp2_with fail
      with_reducible refine (P2.out _).mono ?_
      rintro e w4 ⟨rfl, b'⟩
      replace b := bel_chain' b b'
      clear b'
      have ob1 : Below w.heap.size w (w4.alloc (.cells (cells8 (zeros8 (64 * m))).toArray 5)) := b.alloc b.size _
      have hv1 := zeros_back (RowIs.new w4 5 (cells8 (zeros8 (64 * m)))) (by omega)
      go_wp2_with (first | (at_make; refine wpList_make8 rfl _ _ rfl _ _ (64 * m) (64 * m) rfl rfl (by omega) (by omega) (Nat.le_refl _) (by omega) w4.heap.size rfl ?_))
      generalize w4.alloc (.cells (cells8 (zeros8 (64 * m))).toArray 5) = w5 at *
      with_reducible refine (P3.out _).mono ?_
      rintro e w6 ⟨rfl, b'⟩
      replace b := bel_chain' ob1 b'
      clear b' ob1 hv1
      go_wp2
      go_ret
      exact ⟨rfl, b⟩
    · have n1 : ¬ (a2 < 1) := by omega
      have n2 : 4 < a2 := by omega
      go_enter Try.func6, Try.ntmps6
      go_wp2_with fail
      refine (alive5_any _).mono ?_
      rintro e w1 ⟨rfl, b⟩
      go_wp2
      go_ret
      exact ⟨rfl, b⟩
  · have n1 : a2 < 1 := by omega
    go_enter Try.func6, Try.ntmps6
    go_wp2_with fail
    refine (alive5_any _).mono ?_
    rintro e w1 ⟨rfl, b⟩
    go_wp2
    go_ret
    exact ⟨rfl, b⟩

set_option maxRecDepth 100000 in
theorem lifted (os : Os) (started : os.Started) (H : Type) (enc : TypeId × Value → H) :
    ReturnsInHanded {} Try.checked os 6 .any (Rows.streamWrapsSpec.pre6 enc Try.prog Try.f6 Rows.streamWrapsRow.domain false) (Rows.streamWrapsSpec.post enc Try.prog Try.f6 false true false false) := by
  refine returnsInHanded_of_change (C := Try.checked) own started (by kernel_rfl) Try.func6
    (ChangeSpec.witness6 (enc := enc) (C := Try.checked) false ⟨#[], #[.string ByteArray.empty, .string ByteArray.empty, .int .i64 0], []⟩ 8 (by kernel_rfl) (by kernel_rfl) (by kernel_rfl) (by kernel_rfl)) ?_
  intro W base args ds gs before hval0 hW hcnd _
  have hval : ∀ (j : Nat) t v, Try.f6.params[j]? = some t → args[j]? = some v → Value.okWide Try.prog W .any base t v := hval0
  have hW' := hW
  obtain ⟨p, q, hA0, hV, rfl, hfz, hnd⟩ := hW
  have hA : DataW.TrodAll enc Try.prog W 0 (fun _ => true) true Try.f6.params.toList args.toList ds p := hA0
  rw [Try.params6] at hA hval
  obtain ⟨v0, vs0, d0, ds0, p0, q0, hargs, rfl, rfl, h0, r0⟩ := trodAll_cons hA
  obtain ⟨v1, vs1, d1, ds1, p1, q1, rfl, rfl, rfl, h1, r1⟩ := trodAll_cons r0
  obtain ⟨v2, vs2, d2, ds2, p2, q2, rfl, rfl, rfl, h2, r2⟩ := trodAll_cons r1
  obtain ⟨rfl, rfl, rfl⟩ := trodAll_nil r2
  obtain rfl : args = #[v0, v1, v2] := by cases args; simp_all
  obtain ⟨rfl, rfl⟩ := trodVars_none hV
  obtain ⟨a0, rfl, rfl, rfl, w0⟩ := open_string Try.underlying9 (hval 0 9 v0 rfl rfl) h0
  obtain ⟨a1, rfl, rfl, rfl, w1⟩ := open_string Try.underlying9 (hval 1 9 v1 rfl rfl) h1
  obtain ⟨a2, rfl, rfl, rfl, w2⟩ := open_int Try.underlying3 (hval 2 3 v2 rfl rfl) h2
  clear hA0 hval0
  simp only [List.append_nil] at hW'
  refine (walk a0 a1 a2 w0 w1 w2 W).mono fun e W' ⟨he, hg⟩ => ?_
  subst he
  exact ⟨_, rfl, _, _, _, [], [], [], hW', (trodAll_cons_mk (shut_bool Try.underlying4 _) trodAll_mk0), (trodAll_cons_mk (shut_string Try.underlying9 w0) (trodAll_cons_mk (shut_string Try.underlying9 w1) (trodAll_cons_mk (shut_int Try.underlying3 w2) trodAll_mk0))), rfl, hg.frame _, fun h => by cases h⟩

theorem over : Rows.streamWrapsRow.holds Try.pinned (OpenSpec.ofChange Rows.streamWrapsSpec) :=
  OpenClaim.holds_of_wide 6 Try.f6 rfl rfl rfl rfl rfl rfl rfl ⟨rfl, rfl, rfl, rfl, rfl⟩ rfl rfl rfl rfl rfl (by kernel_rfl) Try.func6 (by kernel_rfl)
    (of_decide_eq_true (by kernel_rfl)) (by unfold Func.isWrapper; first | (rw [if_pos (by decide +kernel)]; kernel_rfl) | (rw [if_neg (by decide +kernel)]; exact ⟨rfl, rfl⟩))
    (fun os started H enc _ => lifted os started H enc)

theorem proved : Rows.StreamWrapsSaid :=
  over
#print axioms proved
end Go.Proofs.Ytckcfgbcnefbhaa.streamWraps
