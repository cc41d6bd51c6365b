/- Promise P701: for all texts key, nonce, plain and more, all numbers at and cut and every byte by the law BoxTurned answers true at the landed code: what was sealed, with one byte turned, and its beginnings, box.Open opens just if the document does (the reference). No condition; longer texts the law itself lets by. -/
import Derived.Test.YtgeackoaghkgmaaRows
import Derived.WalkKit
import Derived.ProofKit
import Derived.OpenShut
import Derived.ShutString
import Derived.Test.YtgeackoaghkgmaaBun26
import Derived.Test.YtgeackoaghkgmaaBun2
import Derived.Test.YtgeackoaghkgmaaBun27
namespace Go.Proofs.Ytgeackoaghkgmaa.boxTurned
open Go.ChangeShapes Go.WideShapes Go.ChangeAt Go.RowKit
open Go.ChangeMaps (open_string shut_string)
set_option linter.unusedVariables false      -- a walk need not use every 'w<i>' (that an integer argument fits its kind)

theorem own : ownKnob Try.prog.godebug = none := by kernel_rfl

set_option maxHeartbeats 4000000 in
set_option maxRecDepth 100000 in
theorem walk (a0 : ByteArray) (a1 : ByteArray) (a2 : ByteArray) (a3 : ByteArray) (a4 : Int) (a5 : Int) (a6 : Int) (w0 : a0.size ≤ maxLen) (w1 : a1.size ≤ maxLen) (w2 : a2.size ≤ maxLen) (w3 : a3.size ≤ maxLen) (w4 : (Lit.int .i64 a4).wf = true) (w5 : (Lit.int .u8 a5).wf = true) (w6 : (Lit.int .i64 a6).wf = true) (w : World) :
    Calls Try.prog 4 #[.string a0, .string a1, .string a2, .string a3, .int .i64 a4, .int .u8 a5, .int .i64 a6] w fun e w' => e = .returned (.bool true) ∧ Below w.heap.size w w' := by
  unfold maxLen at w0 w1 w2 w3
  have hc := bounds_u8 w5
  have hc0 := hc.1
  have hc1 := hc.2
  clear hc w4 w5 w6
  cases d1 : decide (300 < (a2.size : Int))
  cases d2 : decide (100 < (a3.size : Int))
  · have g1 : a2.size ≤ 300 := by rw [decide_eq_false_iff_not] at d1; omega
    have g2 : a3.size ≤ 100 := by rw [decide_eq_false_iff_not] at d2; omega
    have F1 : Hid _ := fun w => law5_fill32 a0 w (by omega)
    have F2 : Hid _ := fun w => law5_fill12 a1 w (by omega)
    clear w0 w1 w2 w3
    obtain ⟨y, rfl⟩ : ∃ y : UInt8, a5 = (y.toNat : Int) := ⟨UInt8.ofNat a5.toNat, by rw [UInt8.toNat_ofNat']; omega⟩
    clear hc0 hc1
    have h32 := fillS_size a0 32
    have h12 := fillS_size a1 12
    generalize fillS a0 32 = K at *
    generalize fillS a1 12 = N at *
    have hsz := sealS_size K N a2 a3
    have P1 : Hid _ := fun w => box_seal_yes K N a2 a3 w h32 h12 (by omega) (by omega)
    obtain ⟨n, hn⟩ : ∃ n, n = a2.size + 16 := ⟨_, rfl⟩
    have hn1 : 16 ≤ n := by omega
    have hn2 : n ≤ 316 := by omega
    rw [← hn] at hsz
    have hnI : ((n : Nat) : Int) = (a2.size : Int) + 16 := by omega
    have HNI : Hid _ := hnI
    clear hn hnI
    obtain ⟨l, hl, hlen⟩ : ∃ l : List UInt8, sealS K N a2 a3 = str l ∧ l.length = n := ⟨(sealS K N a2 a3).data.toList, (str_back _).symm, by simpa using hsz⟩
    have hm := mod_back3 a4 n (by omega) (by omega)
    have hm0 := Int.emod_nonneg a4 (show (n : Int) ≠ 0 from by omega)
    have hm1 := Int.emod_lt_of_pos a4 (show (0 : Int) < n from by omega)
    obtain ⟨k, hk⟩ := Int.eq_ofNat_of_zero_le hm0
    rw [hk] at hm hm1
    clear hm0 hk
    have hr := mod_back3 a6 n (by omega) (by omega)
    have hr0 := Int.emod_nonneg a6 (show (n : Int) ≠ 0 from by omega)
    have hr1 := Int.emod_lt_of_pos a6 (show (0 : Int) < n from by omega)
    obtain ⟨c, hcc⟩ := Int.eq_ofNat_of_zero_le hr0
    rw [hcc] at hr hr1
    clear hr0 hcc
    have hkl : k < l.length := by omega
    obtain ⟨x, hx⟩ : ∃ x, l[k] = x := ⟨_, rfl⟩
    have hxor := mask_bits7 x y
    have z0 : (l.set k (x ^^^ y)).length = n := by rw [List.length_set]; exact hlen
    have z1 := str_size (l.set k (x ^^^ y))
    have hex : ((str l).extract 0 c).size = c := by rw [← hl]; simp; omega
    have hby : y.toNat ≠ 0 ∨ openOk K N (str (l.set k (x ^^^ y))) a3 = true := by
      by_cases hy : y = 0
      · right
        rw [hy, UInt8.xor_zero, ← hx, List.set_getElem_self, ← hl]
        exact (open_sealed K N a2 a3).1
      · left
        intro e
        exact hy (UInt8.toNat_inj.1 e)
    rw [hl] at P1 hsz
    clear hl
    have P2 : Hid _ := fun w => box_open_yes K N (str (l.set k (x ^^^ y))) a3 w h32 h12 (by omega) (by omega)
    have P3 : Hid _ := fun w => ref_unbox_yes K N (str (l.set k (x ^^^ y))) a3 w h32 h12 (by omega) (by omega)
    have P4 : Hid _ := fun w => box_open_yes K N ((str l).extract 0 c) a3 w h32 h12 (by omega) (by omega)
    have P5 : Hid _ := fun w => ref_unbox_yes K N ((str l).extract 0 c) a3 w h32 h12 (by omega) (by omega)
    have e1 := str_beq_self (openS K N (str (l.set k (x ^^^ y))) a3)
    have e2 := str_beq_self (openS K N ((str l).extract 0 c) a3)
    generalize openS K N (str (l.set k (x ^^^ y))) a3 = O1 at *
    generalize openS K N ((str l).extract 0 c) a3 = O2 at *
    generalize openOk K N (str (l.set k (x ^^^ y))) a3 = o1 at *
    generalize openOk K N ((str l).extract 0 c) a3 = o2 at *
    have f1 : (o1 == o1) = true := by cases o1 <;> rfl
    have f2 : (o2 == o2) = true := by cases o2 <;> rfl
    obtain ⟨M, hM⟩ : ∃ M, M = str (l.set k (x ^^^ y)) := ⟨_, rfl⟩
    rw [← hM] at P2 P3
    have HM : Hid _ := hM
    clear hM z1 h32 h12 hex
    have HBY : Hid (((((y.toNat : Nat) : Int) != 0) = true) ∨ (((y.toNat : Nat) : Int) != 0) = false ∧ o1 = true) := by
      show _ ∨ _
      rcases hby with h | h
      · left; simp; omega
      · by_cases hy : y.toNat = 0
        · right; exact ⟨by simp [hy], h⟩
        · left; simp; omega
    clear hby
    have hne : ((n : Int) != (a2.size : Int) + 16) = false := by rw [HNI.out]; simp
    go_enter Try.func4, Try.ntmps4
    go_wp2_with fail
    refine (alive7_any _).mono ?_
    rintro e w1 ⟨rfl, b⟩
    go_wp2_with fail
    with_reducible refine (F1.out _).mono ?_
    rintro e w' ⟨rfl, rfl⟩
    go_wp2_with fail
    with_reducible refine (F2.out _).mono ?_
    rintro e w' ⟨rfl, rfl⟩
    go_wp2_with fail
    with_reducible refine (P1.out _).mono ?_
    rintro e w' ⟨rfl, b'⟩
    replace b := bel_chain' b b'
    clear b'
    have hcv := bytes_conv w' (str l)
    have hz := bytes_new w' (str l)
    have hb2 := bytes_below w' (str l)
    have hcap := grownCap_ge w' (str l).size 0 5
    rw [show (str l).data.toList = l from by simp [str]] at hz
    rw [hsz] at hcv hcap
    have hg := b.size
    replace b := bel_chain' b hb2
    clear hb2
    generalize grownCap w' n 0 5 = cap at *
    generalize Lib.bytesWorld w' 5 (str l) = w3 at *
    generalize w'.heap.size = g at *
    have hc := hz.cell k hkl
    have hf := hz.frozen k hkl
    rw [hx] at hc
    have hz4 := (hz.set k hkl (x ^^^ y))
    rw [UInt8.toNat_xor] at hz4
    have b4 : Below w.heap.size w (w3.setCell ⟨g, k, none⟩ (.int .u8 ((x.toNat ^^^ y.toNat : Nat) : Int))) := b.setCell hg _
    have hs4 := hz4.string n cap (by omega)
    rw [List.take_of_length_le (by omega), ← HM.out] at hs4
    go_wp2_with fail
    clear hcv
    clear b
    have b := b4
    clear b4 hc hf hz
    generalize w3.setCell ⟨g, k, none⟩ (.int .u8 ((x.toNat ^^^ y.toNat : Nat) : Int)) = w4 at *
    with_reducible refine (P2.out _).mono ?_
    rintro e w5 ⟨rfl, b'⟩
    have hz5 := hz4.below b' hz4.lt
    have hs5 := hz5.string n cap (by omega)
    rw [List.take_of_length_le (by omega), ← HM.out] at hs5
    replace b := bel_chain' b b'
    clear b' hs4 hz4
    go_wp2_with fail
    with_reducible refine (P3.out _).mono ?_
    rintro e w' ⟨rfl, b'⟩
    replace b := bel_chain' b b'
    clear b'
    go_wp2_with fail
    with_reducible refine (P4.out _).mono ?_
    rintro e w' ⟨rfl, b'⟩
    replace b := bel_chain' b b'
    clear b'
    go_wp2_with fail
    with_reducible refine (P5.out _).mono ?_
    rintro e w' ⟨rfl, b'⟩
    replace b := bel_chain' b b'
    clear b'
    rcases HBY.out with hq | ⟨hq, rfl⟩
    all_goals
      go_wp2
      go_ret
      exact ⟨rfl, b⟩
  all_goals
    go_enter Try.func4, Try.ntmps4
    go_wp2_with fail
    refine (alive7_any _).mono ?_
    rintro e w1 ⟨rfl, b⟩
    go_wp2
    go_ret
    exact ⟨rfl, b⟩

set_option maxRecDepth 100000 in
theorem lifted (os : Os) (started : os.Started) (H : Type) (enc : TypeId × Value → H) :
    ReturnsInHanded {} Try.checked os 4 .any (Rows.boxTurnedSpec.pre6 enc Try.prog Try.f4 Rows.boxTurnedRow.domain false) (Rows.boxTurnedSpec.post enc Try.prog Try.f4 false true false false) := by
  refine returnsInHanded_of_change (C := Try.checked) own started (by kernel_rfl) Try.func4
    (ChangeSpec.witness6 (enc := enc) (C := Try.checked) false ⟨#[], #[.string ByteArray.empty, .string ByteArray.empty, .string ByteArray.empty, .string ByteArray.empty, .int .i64 0, .int .u8 0, .int .i64 0], []⟩ 8 (by kernel_rfl) (by kernel_rfl) (by kernel_rfl) (by kernel_rfl)) ?_
  intro W base args ds gs before hval0 hW hcnd _
  have hval : ∀ (j : Nat) t v, Try.f4.params[j]? = some t → args[j]? = some v → Value.okWide Try.prog W .any base t v := hval0
  have hW' := hW
  obtain ⟨p, q, hA0, hV, rfl, hfz, hnd⟩ := hW
  have hA : DataW.TrodAll enc Try.prog W 0 (fun _ => true) true Try.f4.params.toList args.toList ds p := hA0
  rw [Try.params4] at hA hval
  obtain ⟨v0, vs0, d0, ds0, p0, q0, hargs, rfl, rfl, h0, r0⟩ := trodAll_cons hA
  obtain ⟨v1, vs1, d1, ds1, p1, q1, rfl, rfl, rfl, h1, r1⟩ := trodAll_cons r0
  obtain ⟨v2, vs2, d2, ds2, p2, q2, rfl, rfl, rfl, h2, r2⟩ := trodAll_cons r1
  obtain ⟨v3, vs3, d3, ds3, p3, q3, rfl, rfl, rfl, h3, r3⟩ := trodAll_cons r2
  obtain ⟨v4, vs4, d4, ds4, p4, q4, rfl, rfl, rfl, h4, r4⟩ := trodAll_cons r3
  obtain ⟨v5, vs5, d5, ds5, p5, q5, rfl, rfl, rfl, h5, r5⟩ := trodAll_cons r4
  obtain ⟨v6, vs6, d6, ds6, p6, q6, rfl, rfl, rfl, h6, r6⟩ := trodAll_cons r5
  obtain ⟨rfl, rfl, rfl⟩ := trodAll_nil r6
  obtain rfl : args = #[v0, v1, v2, v3, v4, v5, v6] := by cases args; simp_all
  obtain ⟨rfl, rfl⟩ := trodVars_none hV
  obtain ⟨a0, rfl, rfl, rfl, w0⟩ := open_string Try.underlying9 (hval 0 9 v0 rfl rfl) h0
  obtain ⟨a1, rfl, rfl, rfl, w1⟩ := open_string Try.underlying9 (hval 1 9 v1 rfl rfl) h1
  obtain ⟨a2, rfl, rfl, rfl, w2⟩ := open_string Try.underlying9 (hval 2 9 v2 rfl rfl) h2
  obtain ⟨a3, rfl, rfl, rfl, w3⟩ := open_string Try.underlying9 (hval 3 9 v3 rfl rfl) h3
  obtain ⟨a4, rfl, rfl, rfl, w4⟩ := open_int Try.underlying3 (hval 4 3 v4 rfl rfl) h4
  obtain ⟨a5, rfl, rfl, rfl, w5⟩ := open_int Try.underlying5 (hval 5 5 v5 rfl rfl) h5
  obtain ⟨a6, rfl, rfl, rfl, w6⟩ := open_int Try.underlying3 (hval 6 3 v6 rfl rfl) h6
  clear hA0 hval0
  simp only [List.append_nil] at hW'
  refine (walk a0 a1 a2 a3 a4 a5 a6 w0 w1 w2 w3 w4 w5 w6 W).mono fun e W' ⟨he, hg⟩ => ?_
  subst he
  exact ⟨_, rfl, _, _, _, [], [], [], hW', (trodAll_cons_mk (shut_bool Try.underlying4 _) trodAll_mk0), (trodAll_cons_mk (shut_string Try.underlying9 w0) (trodAll_cons_mk (shut_string Try.underlying9 w1) (trodAll_cons_mk (shut_string Try.underlying9 w2) (trodAll_cons_mk (shut_string Try.underlying9 w3) (trodAll_cons_mk (shut_int Try.underlying3 w4) (trodAll_cons_mk (shut_int Try.underlying5 w5) (trodAll_cons_mk (shut_int Try.underlying3 w6) trodAll_mk0))))))), rfl, hg.frame _, fun h => by cases h⟩

theorem over : Rows.boxTurnedRow.holds Try.pinned (OpenSpec.ofChange Rows.boxTurnedSpec) :=
  OpenClaim.holds_of_wide 4 Try.f4 rfl rfl rfl rfl rfl rfl rfl ⟨rfl, rfl, rfl, rfl, rfl⟩ rfl rfl rfl rfl rfl (by kernel_rfl) Try.func4 (by kernel_rfl)
    (of_decide_eq_true (by kernel_rfl)) (by unfold Func.isWrapper; first | (rw [if_pos (by decide +kernel)]; kernel_rfl) | (rw [if_neg (by decide +kernel)]; exact ⟨rfl, rfl⟩))
    (fun os started H enc _ => lifted os started H enc)

theorem proved : Rows.BoxTurnedSaid :=
  over
#print axioms proved
end Go.Proofs.Ytgeackoaghkgmaa.boxTurned
