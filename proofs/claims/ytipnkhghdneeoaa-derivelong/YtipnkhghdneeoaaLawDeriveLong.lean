/- Promise P401: for all texts key and info and all numbers n and m the law DeriveLong answers true at the landed code: more bytes begin with fewer, as many come as were asked for, and neither Most + 1 nor -1 may be. No condition; longer texts, and other numbers, the law itself lets by. -/
import Derived.Test.YtipnkhghdneeoaaRows
import Derived.WalkKit
import Derived.ProofKit
import Derived.OpenShut
import Derived.ShutString
import Derived.Test.YtipnkhghdneeoaaAlive4
namespace Go.Proofs.Ytipnkhghdneeoaa.deriveLong
open Go.ChangeShapes Go.WideShapes Go.ChangeAt Go.RowKit
open Go.ChangeMaps (open_string shut_string)
set_option linter.unusedVariables false      -- a walk need not use every 'w<i>' (that an integer argument fits its kind)

theorem own : ownKnob Try.prog.godebug = none := by kernel_rfl

set_option maxHeartbeats 4000000 in
set_option maxRecDepth 100000 in
theorem walk (a0 : ByteArray) (a1 : ByteArray) (a2 : Int) (a3 : Int) (w0 : a0.size ≤ maxLen) (w1 : a1.size ≤ maxLen) (w2 : (Lit.int .i64 a2).wf = true) (w3 : (Lit.int .i64 a3).wf = true) (w : World) :
    Calls Try.prog 4 #[.string a0, .string a1, .int .i64 a2, .int .i64 a3] w fun e w' => e = .returned (.bool true) ∧ Below w.heap.size w w' := by
  unfold maxLen at w0 w1
  have hn := bounds_i64 w2
  have hn0 := hn.1
  have hn1 := hn.2
  have hm := bounds_i64 w3
  have hm0 := hm.1
  have hm1 := hm.2
  clear hn w2 hm w3
  cases d1 : decide (100 < (a0.size : Int))
  cases d2 : decide (100 < (a1.size : Int))
  cases d3 : decide (a2 < 0)
  cases d4 : decide (a3 < a2)
  cases d5 : decide (300 < a3)
  · have h1 : a0.size ≤ 100 := by rw [decide_eq_false_iff_not] at d1; omega
    have h2 : a1.size ≤ 100 := by rw [decide_eq_false_iff_not] at d2; omega
    obtain ⟨n, rfl⟩ : ∃ n : Nat, a2 = (n : Int) := ⟨a2.toNat, by rw [decide_eq_false_iff_not] at d3; omega⟩
    obtain ⟨m, rfl⟩ : ∃ m : Nat, a3 = (m : Int) := ⟨a3.toNat, by rw [decide_eq_false_iff_not] at d4; omega⟩
    have h4 : n ≤ m := by rw [decide_eq_false_iff_not] at d4; omega
    have h5 : m ≤ 300 := by rw [decide_eq_false_iff_not] at d5; omega
    clear w0 w1 hn0 hn1 hm0 hm1
    have p1 := fun w => derive_expand a0 a1 n w (by omega) (by omega) (by omega)
    have p2 := fun w => derive_expand a0 a1 m w (by omega) (by omega) (by omega)
    have P3 : Hid (∀ w, Calls Try.prog 9 #[.string a0, .string a1, .int .i64 8161] w fun e w' => e = .returned (.tuple #[.string ⟨#[]⟩, .bool false]) ∧ Below w.heap.size w w') := fun w => derive_expand_no a0 a1 8161 w (.inr (by decide))
    have P4 : Hid (∀ w, Calls Try.prog 9 #[.string a0, .string a1, .int .i64 (-1)] w fun e w' => e = .returned (.tuple #[.string ⟨#[]⟩, .bool false]) ∧ Below w.heap.size w w') := fun w => derive_expand_no a0 a1 (-1) w (.inl (by decide))
    have z1 := expS_size a0 a1 n
    have z2 := expS_size a0 a1 m
    have hx := expS_take a0 a1 n m h4
    have hself := str_beq_self (expS a0 a1 n)
    generalize expS a0 a1 n = s at *
    generalize expS a0 a1 m = t at *
    have P1 : Hid _ := p1
    have P2 : Hid _ := p2
    clear p1 p2
    go_enter Try.func4, Try.ntmps4
    go_wp2_with fail
    refine (alive4_any _).mono ?_
    rintro e w1 ⟨rfl, b⟩
    go_wp2_with fail
    refine (P1.out _).mono ?_
    rintro e w' ⟨rfl, b'⟩
    replace b := bel_chain b b'
    clear b'
    go_wp2_with fail
    refine (P2.out _).mono ?_
    rintro e w' ⟨rfl, b'⟩
    replace b := bel_chain b b'
    clear b'
    go_wp2_with fail
    refine (P3.out _).mono ?_
    rintro e w' ⟨rfl, b'⟩
    replace b := bel_chain b b'
    clear b'
    go_wp2_with fail
    refine (P4.out _).mono ?_
    rintro e w' ⟨rfl, b'⟩
    replace b := bel_chain b b'
    clear b'
    go_wp2
    go_ret
    exact ⟨rfl, b⟩
  all_goals
    go_enter Try.func4, Try.ntmps4
    go_wp2_with fail
    refine (alive4_any _).mono ?_
    rintro e w1 ⟨rfl, b1⟩
    go_wp2
    go_ret
    exact ⟨rfl, b1⟩

set_option maxRecDepth 100000 in
theorem lifted (os : Os) (started : os.Started) (H : Type) (enc : TypeId × Value → H) :
    ReturnsInHanded {} Try.checked os 4 .any (Rows.deriveLongSpec.pre6 enc Try.prog Try.f4 Rows.deriveLongRow.domain false) (Rows.deriveLongSpec.post enc Try.prog Try.f4 false true false false) := by
  refine returnsInHanded_of_change (C := Try.checked) own started (by kernel_rfl) Try.func4
    (ChangeSpec.witness6 (enc := enc) (C := Try.checked) false ⟨#[], #[.string ByteArray.empty, .string ByteArray.empty, .int .i64 0, .int .i64 0], []⟩ 8 (by kernel_rfl) (by kernel_rfl) (by kernel_rfl) (by kernel_rfl)) ?_
  intro W base args ds gs before hval0 hW hcnd _
  have hval : ∀ (j : Nat) t v, Try.f4.params[j]? = some t → args[j]? = some v → Value.okWide Try.prog W .any base t v := hval0
  have hW' := hW
  obtain ⟨p, q, hA0, hV, rfl, hfz, hnd⟩ := hW
  have hA : DataW.TrodAll enc Try.prog W 0 (fun _ => true) true Try.f4.params.toList args.toList ds p := hA0
  rw [Try.params4] at hA hval
  obtain ⟨v0, vs0, d0, ds0, p0, q0, hargs, rfl, rfl, h0, r0⟩ := trodAll_cons hA
  obtain ⟨v1, vs1, d1, ds1, p1, q1, rfl, rfl, rfl, h1, r1⟩ := trodAll_cons r0
  obtain ⟨v2, vs2, d2, ds2, p2, q2, rfl, rfl, rfl, h2, r2⟩ := trodAll_cons r1
  obtain ⟨v3, vs3, d3, ds3, p3, q3, rfl, rfl, rfl, h3, r3⟩ := trodAll_cons r2
  obtain ⟨rfl, rfl, rfl⟩ := trodAll_nil r3
  obtain rfl : args = #[v0, v1, v2, v3] := by cases args; simp_all
  obtain ⟨rfl, rfl⟩ := trodVars_none hV
  obtain ⟨a0, rfl, rfl, rfl, w0⟩ := open_string Try.underlying9 (hval 0 9 v0 rfl rfl) h0
  obtain ⟨a1, rfl, rfl, rfl, w1⟩ := open_string Try.underlying9 (hval 1 9 v1 rfl rfl) h1
  obtain ⟨a2, rfl, rfl, rfl, w2⟩ := open_int Try.underlying3 (hval 2 3 v2 rfl rfl) h2
  obtain ⟨a3, rfl, rfl, rfl, w3⟩ := open_int Try.underlying3 (hval 3 3 v3 rfl rfl) h3
  clear hA0 hval0
  simp only [List.append_nil] at hW'
  refine (walk a0 a1 a2 a3 w0 w1 w2 w3 W).mono fun e W' ⟨he, hg⟩ => ?_
  subst he
  exact ⟨_, rfl, _, _, _, [], [], [], hW', (trodAll_cons_mk (shut_bool Try.underlying4 _) trodAll_mk0), (trodAll_cons_mk (shut_string Try.underlying9 w0) (trodAll_cons_mk (shut_string Try.underlying9 w1) (trodAll_cons_mk (shut_int Try.underlying3 w2) (trodAll_cons_mk (shut_int Try.underlying3 w3) trodAll_mk0)))), rfl, hg.frame _, fun h => by cases h⟩

theorem over : Rows.deriveLongRow.holds Try.pinned (OpenSpec.ofChange Rows.deriveLongSpec) :=
  OpenClaim.holds_of_wide 4 Try.f4 rfl rfl rfl rfl rfl rfl rfl ⟨rfl, rfl, rfl, rfl, rfl⟩ rfl rfl rfl rfl rfl (by kernel_rfl) Try.func4 (by kernel_rfl)
    (of_decide_eq_true (by kernel_rfl)) (by unfold Func.isWrapper; first | (rw [if_pos (by decide +kernel)]; kernel_rfl) | (rw [if_neg (by decide +kernel)]; exact ⟨rfl, rfl⟩))
    (fun os started H enc _ => lifted os started H enc)

theorem proved : Rows.DeriveLongSaid :=
  over
#print axioms proved
end Go.Proofs.Ytipnkhghdneeoaa.deriveLong
