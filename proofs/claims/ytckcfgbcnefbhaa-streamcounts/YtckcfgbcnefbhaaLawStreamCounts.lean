/- Promises P501, P502: for all texts key and nonce, every counter and every number n the law StreamCounts answers true at the landed code: blocks one behind the other are what hides zeros. No condition; numbers below 0 or above 6 the law itself lets by. -/
import Derived.Test.YtckcfgbcnefbhaaRows
import Derived.WalkKit
import Derived.ProofKit
import Derived.OpenShut
import Derived.ShutString
import Derived.Test.YtckcfgbcnefbhaaStr5
namespace Go.Proofs.Ytckcfgbcnefbhaa.streamCounts
open Go.ChangeShapes Go.WideShapes Go.ChangeAt Go.RowKit
open Go.ChangeMaps (open_string shut_string)
set_option linter.unusedVariables false      -- a walk need not use every 'w<i>' (that an integer argument fits its kind)

theorem own : ownKnob Try.prog.godebug = none := by kernel_rfl

set_option maxHeartbeats 4000000 in
set_option maxRecDepth 100000 in
theorem walk (a0 : ByteArray) (a1 : ByteArray) (a2 : Int) (a3 : Int) (w0 : a0.size ≤ maxLen) (w1 : a1.size ≤ maxLen) (w2 : (Lit.int .u32 a2).wf = true) (w3 : (Lit.int .i64 a3).wf = true) (w : World) :
    Calls Try.prog 4 #[.string a0, .string a1, .int .u32 a2, .int .i64 a3] w fun e w' => e = .returned (.bool true) ∧ Below w.heap.size w w' := by
  unfold maxLen at w0 w1
  have hc : W32 a2 := by have := bounds_u32 w2; unfold W32; omega
  clear w2
  by_cases d1 : 0 ≤ a3
  · by_cases d2 : a3 ≤ 6
    · obtain ⟨m, rfl⟩ : ∃ m : Nat, a3 = (m : Int) := ⟨a3.toNat, by omega⟩
      have hm : m ≤ 6 := by omega
      clear d1 d2
      have f1 := fun w => law5_fill32 a0 w (by omega)
      have f2 := fun w => law5_fill12 a1 w (by omega)
      have h32 := fillS_size a0 32
      have h12 := fillS_size a1 12
      have z1 := zeros_size (64 * m)
      have p1 := fun w => stream_xor_yes (fillS a0 32) a2 (fillS a1 12) (zeros (64 * m)) w h32 h12 hc (by omega)
      have PB : Hid (∀ (k : Nat) (w : World), Calls Try.prog 12 #[.string (fillS a0 32), .int .u32 (addI a2 (k : Int)), .string (fillS a1 12)] w fun e w' => e = .returned (.tuple #[.string (blockS (fillS a0 32) (addI a2 (k : Int)) (fillS a1 12)), .bool true]) ∧ Below w.heap.size w w') := fun k w => stream_block_yes _ _ _ w h32 h12 (addI_w _ _)
      rw [hide_zeros] at p1
      have HS : Hid (∀ k, keysTo (fillS a0 32) a2 (fillS a1 12) (k + 1) = keysTo (fillS a0 32) a2 (fillS a1 12) k ++ blockL (fillS a0 32) (addI a2 (k : Int)) (fillS a1 12)) := fun k => keysTo_succ _ _ _ k
      have HL : Hid (∀ k, (keysTo (fillS a0 32) a2 (fillS a1 12) k).length = 64 * k) := fun k => keysTo_len _ _ _ k
      have HB : Hid (∀ c, (blockS (fillS a0 32) c (fillS a1 12)).size = 64) := fun c => blockS_size _ c _
      have HBL : Hid (∀ c, blockS (fillS a0 32) c (fillS a1 12) = str (blockL (fillS a0 32) c (fillS a1 12))) := fun c => rfl
      have hself := str_beq_self (str (keysTo (fillS a0 32) a2 (fillS a1 12) m))
      generalize fillS a0 32 = K at *
      generalize fillS a1 12 = N at *
      have F1 : Hid _ := f1
      have F2 : Hid _ := f2
      have P1 : Hid _ := p1
      clear f1 f2 p1
      have n1 : ¬ ((m : Int) < 0) := by omega
      have n2 : ¬ (6 < (m : Int)) := by omega
      go_enter Try.func4, Try.ntmps4
      go_wp2_with fail
      refine (alive5_any _).mono ?_
      rintro e w1 ⟨rfl, b⟩
      go_wp2_with fail
      with_reducible refine (F1.out _).mono ?_
      rintro e w' ⟨rfl, rfl⟩
      go_wp2_with fail
      with_reducible refine (F2.out _).mono ?_
      rintro e w' ⟨rfl, rfl⟩
      go_wp2_with fail
      go_loopw [9, 10] (fun o i wr => ∃ k : Nat, k ≤ m ∧ i = .int .i64 k ∧ o = .string (str (keysTo K a2 N k)) ∧ Below w.heap.size w wr) (fun _ i _ => m - (intOf i).toNat)
      case atStart => exact ⟨0, Nat.zero_le _, rfl, rfl, b⟩
      case round =>
        clear b
        obtain ⟨k, hk, rfl, rfl, b⟩ := hrel
        by_cases hlt : k < m
        · have hcmp : (k : Int) < (m : Int) := by omega
          have k0 : (0 : Int) ≤ (k : Int) := by omega
          have hk32 : (k : Int) % 4294967296 = (k : Int) := by omega
          have pb := PB.out k
          have hb := HB.out (addI a2 (k : Int))
          have hl : (str (keysTo K a2 N k)).size = 64 * k := by rw [str_size, HL.out k]
          have hcat : str (keysTo K a2 N k) ++ blockS K (addI a2 (k : Int)) N = str (keysTo K a2 N (k + 1)) := by rw [HBL.out, str_cat6, HS.out k]
          have hadd : (a2 + (k : Int)) % 4294967296 = addI a2 (k : Int) := rfl
          have hln : ¬ (9223372036854775807 < 64 * k + 64) := by omega
          generalize blockS K (addI a2 (k : Int)) N = B at *
          generalize addI a2 (k : Int) = x at *
          have PK : Hid _ := pb
          have HCAT : Hid _ := hcat
          clear pb
          go_wp2_with fail
          with_reducible refine (PK.out _).mono ?_
          rintro e w' ⟨rfl, b'⟩
          replace b := bel_chain' b b'
          clear b'
          go_wp2
          go_roundw
          case rel => exact ⟨k + 1, by omega, by go_num, rfl, b⟩
          case measure => simp [intOf]; omega
        · have hkm : k = m := by omega
          subst hkm
          have hcmp : ¬ (k : Int) < (k : Int) := by omega
          have ob1 : Below w.heap.size w (wr.alloc (.cells (cells8 (zeros8 (64 * k))).toArray 5)) := b.alloc b.size _
          have hv1 := zeros_back (RowIs.new wr 5 (cells8 (zeros8 (64 * k)))) (by omega)
          go_wp2_with (first | (at_make; refine wpList_make8 rfl _ _ rfl _ _ (64 * k) (64 * k) rfl rfl (by omega) (by omega) (Nat.le_refl _) (by omega) wr.heap.size rfl ?_))
          generalize wr.alloc (.cells (cells8 (zeros8 (64 * k))).toArray 5) = w5 at *
          with_reducible refine (P1.out _).mono ?_
          rintro e w6 ⟨rfl, b'⟩
          replace b := bel_chain' ob1 b'
          clear b' ob1 hv1
          go_wp2
          go_ret
          exact ⟨rfl, b⟩
    · have n1 : ¬ (a3 < 0) := by omega
      have n2 : 6 < a3 := by omega
      go_enter Try.func4, Try.ntmps4
      go_wp2_with fail
      refine (alive5_any _).mono ?_
      rintro e w1 ⟨rfl, b⟩
      go_wp2
      go_ret
      exact ⟨rfl, b⟩
  · have n1 : a3 < 0 := by omega
    go_enter Try.func4, Try.ntmps4
    go_wp2_with fail
    refine (alive5_any _).mono ?_
    rintro e w1 ⟨rfl, b⟩
    go_wp2
    go_ret
    exact ⟨rfl, b⟩

set_option maxRecDepth 100000 in
theorem lifted (os : Os) (started : os.Started) (H : Type) (enc : TypeId × Value → H) :
    ReturnsInHanded {} Try.checked os 4 .any (Rows.streamCountsSpec.pre6 enc Try.prog Try.f4 Rows.streamCountsRow.domain false) (Rows.streamCountsSpec.post enc Try.prog Try.f4 false true false false) := by
  refine returnsInHanded_of_change (C := Try.checked) own started (by kernel_rfl) Try.func4
    (ChangeSpec.witness6 (enc := enc) (C := Try.checked) false ⟨#[], #[.string ByteArray.empty, .string ByteArray.empty, .int .u32 0, .int .i64 0], []⟩ 8 (by kernel_rfl) (by kernel_rfl) (by kernel_rfl) (by kernel_rfl)) ?_
  intro W base args ds gs before hval0 hW hcnd _
  have hval : ∀ (j : Nat) t v, Try.f4.params[j]? = some t → args[j]? = some v → Value.okWide Try.prog W .any base t v := hval0
  have hW' := hW
  obtain ⟨p, q, hA0, hV, rfl, hfz, hnd⟩ := hW
  have hA : DataW.TrodAll enc Try.prog W 0 (fun _ => true) true Try.f4.params.toList args.toList ds p := hA0
  rw [Try.params4] at hA hval
  obtain ⟨v0, vs0, d0, ds0, p0, q0, hargs, rfl, rfl, h0, r0⟩ := trodAll_cons hA
  obtain ⟨v1, vs1, d1, ds1, p1, q1, rfl, rfl, rfl, h1, r1⟩ := trodAll_cons r0
  obtain ⟨v2, vs2, d2, ds2, p2, q2, rfl, rfl, rfl, h2, r2⟩ := trodAll_cons r1
  obtain ⟨v3, vs3, d3, ds3, p3, q3, rfl, rfl, rfl, h3, r3⟩ := trodAll_cons r2
  obtain ⟨rfl, rfl, rfl⟩ := trodAll_nil r3
  obtain rfl : args = #[v0, v1, v2, v3] := by cases args; simp_all
  obtain ⟨rfl, rfl⟩ := trodVars_none hV
  obtain ⟨a0, rfl, rfl, rfl, w0⟩ := open_string Try.underlying9 (hval 0 9 v0 rfl rfl) h0
  obtain ⟨a1, rfl, rfl, rfl, w1⟩ := open_string Try.underlying9 (hval 1 9 v1 rfl rfl) h1
  obtain ⟨a2, rfl, rfl, rfl, w2⟩ := open_int Try.underlying22 (hval 2 22 v2 rfl rfl) h2
  obtain ⟨a3, rfl, rfl, rfl, w3⟩ := open_int Try.underlying3 (hval 3 3 v3 rfl rfl) h3
  clear hA0 hval0
  simp only [List.append_nil] at hW'
  refine (walk a0 a1 a2 a3 w0 w1 w2 w3 W).mono fun e W' ⟨he, hg⟩ => ?_
  subst he
  exact ⟨_, rfl, _, _, _, [], [], [], hW', (trodAll_cons_mk (shut_bool Try.underlying4 _) trodAll_mk0), (trodAll_cons_mk (shut_string Try.underlying9 w0) (trodAll_cons_mk (shut_string Try.underlying9 w1) (trodAll_cons_mk (shut_int Try.underlying22 w2) (trodAll_cons_mk (shut_int Try.underlying3 w3) trodAll_mk0)))), rfl, hg.frame _, fun h => by cases h⟩

theorem over : Rows.streamCountsRow.holds Try.pinned (OpenSpec.ofChange Rows.streamCountsSpec) :=
  OpenClaim.holds_of_wide 4 Try.f4 rfl rfl rfl rfl rfl rfl rfl ⟨rfl, rfl, rfl, rfl, rfl⟩ rfl rfl rfl rfl rfl (by kernel_rfl) Try.func4 (by kernel_rfl)
    (of_decide_eq_true (by kernel_rfl)) (by unfold Func.isWrapper; first | (rw [if_pos (by decide +kernel)]; kernel_rfl) | (rw [if_neg (by decide +kernel)]; exact ⟨rfl, rfl⟩))
    (fun os started H enc _ => lifted os started H enc)

theorem proved : Rows.StreamCountsSaid :=
  over
#print axioms proved
end Go.Proofs.Ytckcfgbcnefbhaa.streamCounts
