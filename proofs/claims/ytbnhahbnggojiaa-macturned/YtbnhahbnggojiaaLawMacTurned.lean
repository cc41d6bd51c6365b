/- Promise P301: for all texts key and b, every number at and every byte by the law MacTurned answers true at the landed code: a mac of which one byte is turned is not right; one that is longer, or shorter, neither. No condition; longer texts, and a byte that turns nothing, the law itself lets by. -/
import Derived.Test.YtbnhahbnggojiaaRows
import Derived.WalkKit
import Derived.ProofKit
import Derived.OpenShut
import Derived.ShutString
import Derived.Test.YtbnhahbnggojiaaMac3
namespace Go.Proofs.Ytbnhahbnggojiaa.macTurned
open Go.ChangeShapes Go.WideShapes Go.ChangeAt Go.RowKit
open Go.ChangeMaps (open_string shut_string)
set_option linter.unusedVariables false      -- a walk need not use every 'w<i>' (that an integer argument fits its kind)

theorem own : ownKnob Try.prog.godebug = none := by kernel_rfl

set_option maxHeartbeats 4000000 in
set_option maxRecDepth 100000 in
theorem walk (a0 : ByteArray) (a1 : ByteArray) (a2 : Int) (a3 : Int) (w0 : a0.size ≤ maxLen) (w1 : a1.size ≤ maxLen) (w2 : (Lit.int .i64 a2).wf = true) (w3 : (Lit.int .u8 a3).wf = true) (w : World) :
    Calls Try.prog 4 #[.string a0, .string a1, .int .i64 a2, .int .u8 a3] w fun e w' => e = .returned (.bool true) ∧ Below w.heap.size w w' := by
  unfold maxLen at w0 w1
  have hc := bounds_u8 w3
  have hc0 := hc.1
  have hc1 := hc.2
  clear hc w2 w3
  cases d1 : decide (200 < (a0.size : Int))
  cases d2 : decide (300 < (a1.size : Int))
  by_cases d3 : a3 = 0
  case' neg =>
    have h1 : a0.size ≤ 200 := by rw [decide_eq_false_iff_not] at d1; omega
    have h2 : a1.size ≤ 300 := by rw [decide_eq_false_iff_not] at d2; omega
    clear w0 w1
    have te : (a3 == 0) = false := by rw [beq_eq_false_iff_ne]; exact d3
    obtain ⟨y, rfl⟩ : ∃ y : UInt8, a3 = (y.toNat : Int) := ⟨UInt8.ofNat a3.toNat, by rw [UInt8.toNat_ofNat']; omega⟩
    have hy : y ≠ 0 := by intro e; exact d3 (by rw [e]; rfl)
    clear hc0 hc1 d3
    have po : Hid (∀ w, Calls Try.prog 10 #[.string a0, .string a1] w fun e w' => e = .returned (.string (macS a0 a1)) ∧ Below w.heap.size w w') := fun w => mac_of a0 a1 w (by omega) (by omega)
    have pc : Hid (∀ (x : ByteArray) w, x.size ≤ 40 → macS a0 a1 ≠ x → Calls Try.prog 12 #[.string a0, .string a1, .string x] w fun e w' => e = .returned (.bool false) ∧ Below w.heap.size w w') := fun x w hx hn => by
      have := mac_check a0 a1 x w (by omega) (by omega) (by omega)
      rwa [decide_eq_false hn] at this
    obtain ⟨l, hl, hlen⟩ : ∃ l, macS a0 a1 = str l ∧ l.length = 32 := ⟨_, rfl, macL_len _ _⟩
    rw [hl] at po pc
    clear hl
    have hls := str_size l
    have hm := mod_back3 a2 32 (by decide) (by decide)
    have hm0 := Int.emod_nonneg a2 (show (32 : Int) ≠ 0 from by decide)
    have hm1 := Int.emod_lt_of_pos a2 (show (0 : Int) < 32 from by decide)
    obtain ⟨K, hK⟩ := Int.eq_ofNat_of_zero_le hm0
    rw [hK] at hm hm1
    clear hm0 hK
    have hKl : K < l.length := by omega
    obtain ⟨x, hx⟩ : ∃ x, l[K] = x := ⟨_, rfl⟩
    have hx' : l[K]? = some x := by rw [List.getElem?_eq_getElem hKl, hx]
    have hxor := mask_bits x y
    have n1 := turn_ne l K x y hx' hy
    have z0 : (l.set K (x ^^^ y)).length = 32 := by rw [List.length_set]; exact hlen
    have z1 := str_size (l.set K (x ^^^ y))
    have z2 := str_size ((l.set K (x ^^^ y)).take 31)
    have z3 : ((l.set K (x ^^^ y)).take 31).length = 31 := by rw [List.length_take]; omega
    have z4 : (str l ++ ⟨#[120]⟩ : ByteArray).size = (str l).size + 1 := by rw [ByteArray.size_append]; rfl
    have p1 : Hid _ := fun w => pc.out (str (l.set K (x ^^^ y))) w (by omega) n1
    have p2 : Hid _ := fun w => pc.out (str ((l.set K (x ^^^ y)).take 31)) w (by omega) (size_ne (by omega))
    have p3 : Hid _ := fun w => pc.out (str l ++ ⟨#[120]⟩) w (by omega) (size_ne (by omega))
    have p4 : Hid (∀ w, Calls Try.prog 11 #[.string (str (l.set K (x ^^^ y))), .string (str l)] w fun e w' => e = .returned (.bool false) ∧ Below w.heap.size w w') := fun w => by
      have := mac_same (str (l.set K (x ^^^ y))) (str l) w (by omega) (by omega)
      rwa [decide_eq_false (Ne.symm n1)] at this
    clear pc
    obtain ⟨MX, hMX⟩ : ∃ MX, str l ++ (⟨#[120]⟩ : ByteArray) = MX := ⟨_, rfl⟩
    rw [hMX] at p3 z4
    obtain ⟨M1, hM1⟩ : ∃ M1, M1 = str ((l.set K (x ^^^ y)).take 31) := ⟨_, rfl⟩
    rw [← hM1] at p2
    obtain ⟨M, hM⟩ : ∃ M, M = str (l.set K (x ^^^ y)) := ⟨_, rfl⟩
    rw [← hM] at p1 p4
    clear n1 z1 z2 z3 z4
    have HM1 : Hid _ := hM1
    have HM : Hid _ := hM
    clear hM1 hM
    go_enter Try.func4, Try.ntmps4
    go_wp2_with fail
    refine (alive3_any _).mono ?_
    rintro e w1 ⟨rfl, b⟩
    go_wp2_with fail
    refine (po.out _).mono ?_
    rintro e w2 ⟨rfl, b'⟩
    replace b := bel_chain b b'
    clear b'
    have hcv := bytes_conv w2 (str l)
    have hz := bytes_new w2 (str l)
    have hb2 := bytes_below w2 (str l)
    have hcap := grownCap_ge w2 (str l).size 0 5
    rw [show (str l).data.toList = l from by simp [str]] at hz
    rw [hls, hlen] at hcv hcap
    have hg := b.size
    replace b := bel_chain b hb2
    clear hb2
    generalize grownCap w2 32 0 5 = cap at *
    generalize Lib.bytesWorld w2 5 (str l) = w3 at *
    generalize w2.heap.size = g at *
    have hc := hz.cell K hKl
    have hf := hz.frozen K hKl
    rw [hx] at hc
    go_wp2
    replace hz := (hz.set K hKl (x ^^^ y))
    rw [UInt8.toNat_xor] at hz
    have b4 : Below w.heap.size w (w3.setCell ⟨g, K, none⟩ (.int .u8 ((x.toNat ^^^ y.toNat : Nat) : Int))) := b.setCell hg _
    clear b
    have b := b4
    clear b4
    clear hc hf hcv
    generalize w3.setCell ⟨g, K, none⟩ (.int .u8 ((x.toNat ^^^ y.toNat : Nat) : Int)) = w4 at *
    replace hz := hz.drew
    replace b := b.drew
    have hcap' : (31 : Int) ≤ (cap : Int) := by omega
    go_region_held3 (fun w' => BytesZ w' g (l.set K (x ^^^ y)) ∧ (convert 27 9 (.slice (some ⟨g, 0, none⟩) 32 cap)).run Try.prog w' = .ok (.string M) w' ∧ (convert 27 9 (.slice (some ⟨g, 0, none⟩) 31 cap)).run Try.prog w' = .ok (.string M1) w') (exact bytes_hold hz z0 HM.out HM1.out) (first | (go_at_call 12; (first | with_reducible refine (p1.out _).mono ?_ | with_reducible refine (p2.out _).mono ?_ | with_reducible refine (p3.out _).mono ?_); rintro e w5 ⟨rfl, b5⟩; replace hz := hz.below b5 hz.lt; replace b := bel_chain b b5; clear b5) | (go_at_call 10; refine (po.out _).mono ?_; rintro e w5 ⟨rfl, b5⟩; replace hz := hz.below b5 hz.lt; replace b := bel_chain b b5; clear b5) | (go_at_call 11; refine (p4.out _).mono ?_; rintro e w5 ⟨rfl, b5⟩; replace hz := hz.below b5 hz.lt; replace b := bel_chain b b5; clear b5))
    all_goals
      go_wp2
      go_ret
      exact ⟨rfl, b⟩
  all_goals
    have te : a3 = 0 ∨ True := Or.inr True.intro
    go_enter Try.func4, Try.ntmps4
    go_wp2_with fail
    refine (alive3_any _).mono ?_
    rintro e w1 ⟨rfl, b1⟩
    go_wp2
    go_ret
    exact ⟨rfl, b1⟩

set_option maxRecDepth 100000 in
theorem lifted (os : Os) (started : os.Started) (H : Type) (enc : TypeId × Value → H) :
    ReturnsInHanded {} Try.checked os 4 .any (Rows.macTurnedSpec.pre6 enc Try.prog Try.f4 Rows.macTurnedRow.domain false) (Rows.macTurnedSpec.post enc Try.prog Try.f4 false true false false) := by
  refine returnsInHanded_of_change (C := Try.checked) own started (by kernel_rfl) Try.func4
    (ChangeSpec.witness6 (enc := enc) (C := Try.checked) false ⟨#[], #[.string ByteArray.empty, .string ByteArray.empty, .int .i64 0, .int .u8 0], []⟩ 8 (by kernel_rfl) (by kernel_rfl) (by kernel_rfl) (by kernel_rfl)) ?_
  intro W base args ds gs before hval0 hW hcnd _
  have hval : ∀ (j : Nat) t v, Try.f4.params[j]? = some t → args[j]? = some v → Value.okWide Try.prog W .any base t v := hval0
  have hW' := hW
  obtain ⟨p, q, hA0, hV, rfl, hfz, hnd⟩ := hW
  have hA : DataW.TrodAll enc Try.prog W 0 (fun _ => true) true Try.f4.params.toList args.toList ds p := hA0
  rw [Try.params4] at hA hval
  obtain ⟨v0, vs0, d0, ds0, p0, q0, hargs, rfl, rfl, h0, r0⟩ := trodAll_cons hA
  obtain ⟨v1, vs1, d1, ds1, p1, q1, rfl, rfl, rfl, h1, r1⟩ := trodAll_cons r0
  obtain ⟨v2, vs2, d2, ds2, p2, q2, rfl, rfl, rfl, h2, r2⟩ := trodAll_cons r1
  obtain ⟨v3, vs3, d3, ds3, p3, q3, rfl, rfl, rfl, h3, r3⟩ := trodAll_cons r2
  obtain ⟨rfl, rfl, rfl⟩ := trodAll_nil r3
  obtain rfl : args = #[v0, v1, v2, v3] := by cases args; simp_all
  obtain ⟨rfl, rfl⟩ := trodVars_none hV
  obtain ⟨a0, rfl, rfl, rfl, w0⟩ := open_string Try.underlying9 (hval 0 9 v0 rfl rfl) h0
  obtain ⟨a1, rfl, rfl, rfl, w1⟩ := open_string Try.underlying9 (hval 1 9 v1 rfl rfl) h1
  obtain ⟨a2, rfl, rfl, rfl, w2⟩ := open_int Try.underlying3 (hval 2 3 v2 rfl rfl) h2
  obtain ⟨a3, rfl, rfl, rfl, w3⟩ := open_int Try.underlying5 (hval 3 5 v3 rfl rfl) h3
  clear hA0 hval0
  simp only [List.append_nil] at hW'
  refine (walk a0 a1 a2 a3 w0 w1 w2 w3 W).mono fun e W' ⟨he, hg⟩ => ?_
  subst he
  exact ⟨_, rfl, _, _, _, [], [], [], hW', (trodAll_cons_mk (shut_bool Try.underlying4 _) trodAll_mk0), (trodAll_cons_mk (shut_string Try.underlying9 w0) (trodAll_cons_mk (shut_string Try.underlying9 w1) (trodAll_cons_mk (shut_int Try.underlying3 w2) (trodAll_cons_mk (shut_int Try.underlying5 w3) trodAll_mk0)))), rfl, hg.frame _, fun h => by cases h⟩

theorem over : Rows.macTurnedRow.holds Try.pinned (OpenSpec.ofChange Rows.macTurnedSpec) :=
  OpenClaim.holds_of_wide 4 Try.f4 rfl rfl rfl rfl rfl rfl rfl ⟨rfl, rfl, rfl, rfl, rfl⟩ rfl rfl rfl rfl rfl (by kernel_rfl) Try.func4 (by kernel_rfl)
    (of_decide_eq_true (by kernel_rfl)) (by unfold Func.isWrapper; first | (rw [if_pos (by decide +kernel)]; kernel_rfl) | (rw [if_neg (by decide +kernel)]; exact ⟨rfl, rfl⟩))
    (fun os started H enc _ => lifted os started H enc)

theorem proved : Rows.MacTurnedSaid :=
  over
#print axioms proved
end Go.Proofs.Ytbnhahbnggojiaa.macTurned
