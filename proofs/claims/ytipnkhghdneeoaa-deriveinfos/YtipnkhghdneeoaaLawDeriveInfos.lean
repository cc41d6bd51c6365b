/- Promise P401: for all texts secret, salt, a and b the law DeriveInfos answers true at the landed code: a key is what is expanded of the extracted one for its use, 32 bytes, and the same use tells the same key. No condition; longer texts the law itself lets by. -/
import Derived.Test.YtipnkhghdneeoaaRows
import Derived.WalkKit
import Derived.ProofKit
import Derived.OpenShut
import Derived.ShutString
import Derived.Test.YtipnkhghdneeoaaAlive4
namespace Go.Proofs.Ytipnkhghdneeoaa.deriveInfos
open Go.ChangeShapes Go.WideShapes Go.ChangeAt Go.RowKit
open Go.ChangeMaps (open_string shut_string)
set_option linter.unusedVariables false      -- a walk need not use every 'w<i>' (that an integer argument fits its kind)

theorem own : ownKnob Try.prog.godebug = none := by kernel_rfl

set_option maxHeartbeats 4000000 in
set_option maxRecDepth 100000 in
theorem walk (a0 : ByteArray) (a1 : ByteArray) (a2 : ByteArray) (a3 : ByteArray) (w0 : a0.size ≤ maxLen) (w1 : a1.size ≤ maxLen) (w2 : a2.size ≤ maxLen) (w3 : a3.size ≤ maxLen) (w : World) :
    Calls Try.prog 7 #[.string a0, .string a1, .string a2, .string a3] w fun e w' => e = .returned (.bool true) ∧ Below w.heap.size w w' := by
  unfold maxLen at w0 w1 w2 w3
  cases d1 : decide (100 < (a0.size : Int))
  cases d2 : decide (100 < (a1.size : Int))
  cases d3 : decide (60 < (a2.size : Int))
  cases d4 : decide (60 < (a3.size : Int))
  · have h1 : a0.size ≤ 100 := by rw [decide_eq_false_iff_not] at d1; omega
    have h2 : a1.size ≤ 100 := by rw [decide_eq_false_iff_not] at d2; omega
    have h3 : a2.size ≤ 60 := by rw [decide_eq_false_iff_not] at d3; omega
    have h4 : a3.size ≤ 60 := by rw [decide_eq_false_iff_not] at d4; omega
    clear w0 w1 w2 w3
    have px : ∀ w, Calls Try.prog 13 #[.string a0, .string a1, .string a2] w fun e w' => e = .returned (.string (expS (extS a1 a0) a2 32)) ∧ Below w.heap.size w w' := fun w => derive_key a0 a1 a2 w (by omega) (by omega) (by omega)
    have py : ∀ w, Calls Try.prog 13 #[.string a0, .string a1, .string a3] w fun e w' => e = .returned (.string (expS (extS a1 a0) a3 32)) ∧ Below w.heap.size w w' := fun w => derive_key a0 a1 a3 w (by omega) (by omega) (by omega)
    have pk := fun w => derive_extract a1 a0 w (by omega) (by omega)
    have hk := extS_size a1 a0
    have pp : ∀ w, Calls Try.prog 9 #[.string (extS a1 a0), .string a2, .int .i64 32] w fun e w' => e = .returned (.tuple #[.string (expS (extS a1 a0) a2 32), .bool true]) ∧ Below w.heap.size w w' := fun w => derive_expand (extS a1 a0) a2 32 w (by omega) (by omega) (by decide)
    have pq : ∀ w, Calls Try.prog 9 #[.string (extS a1 a0), .string a3, .int .i64 32] w fun e w' => e = .returned (.tuple #[.string (expS (extS a1 a0) a3 32), .bool true]) ∧ Below w.heap.size w w' := fun w => derive_expand (extS a1 a0) a3 32 w (by omega) (by omega) (by decide)
    have z1 := expS_size (extS a1 a0) a2 32
    have z2 := expS_size (extS a1 a0) a3 32
    have s1 := str_beq_self (expS (extS a1 a0) a2 32)
    have s2 := str_beq_self (expS (extS a1 a0) a3 32)
    have hor : (a2.toList == a3.toList) = false ∨ ((a2.toList == a3.toList) = true ∧ ((expS (extS a1 a0) a2 32).toList == (expS (extS a1 a0) a3 32).toList) = true) := by
      by_cases e : a2 = a3
      · exact .inr ⟨by rw [e]; exact str_beq_self _, by rw [e]; exact str_beq_self _⟩
      · exact .inl (by rw [str_beq]; exact decide_eq_false e)
    generalize expS (extS a1 a0) a2 32 = x at *
    generalize expS (extS a1 a0) a3 32 = y at *
    generalize extS a1 a0 = k at *
    have PX : Hid _ := px
    have PY : Hid _ := py
    have PK : Hid _ := pk
    have PP : Hid _ := pp
    have PQ : Hid _ := pq
    clear px py pk pp pq
    rcases hor with e1 | ⟨e1, e2⟩
    all_goals
      go_enter Try.func7, Try.ntmps7
      go_wp2_with fail
      refine (alive4_any _).mono ?_
      rintro e w1 ⟨rfl, b⟩
      go_wp2_with fail
      refine (PX.out _).mono ?_
      rintro e w' ⟨rfl, b'⟩
      replace b := bel_chain b b'
      clear b'
      go_wp2_with fail
      refine (PY.out _).mono ?_
      rintro e w' ⟨rfl, b'⟩
      replace b := bel_chain b b'
      clear b'
      go_wp2_with fail
      refine (PK.out _).mono ?_
      rintro e w' ⟨rfl, b'⟩
      replace b := bel_chain b b'
      clear b'
      go_wp2_with fail
      refine (PP.out _).mono ?_
      rintro e w' ⟨rfl, b'⟩
      replace b := bel_chain b b'
      clear b'
      go_wp2_with fail
      refine (PQ.out _).mono ?_
      rintro e w' ⟨rfl, b'⟩
      replace b := bel_chain b b'
      clear b'
      go_wp2
      go_ret
      exact ⟨rfl, b⟩
  all_goals
    go_enter Try.func7, Try.ntmps7
    go_wp2_with fail
    refine (alive4_any _).mono ?_
    rintro e w1 ⟨rfl, b1⟩
    go_wp2
    go_ret
    exact ⟨rfl, b1⟩

set_option maxRecDepth 100000 in
theorem lifted (os : Os) (started : os.Started) (H : Type) (enc : TypeId × Value → H) :
    ReturnsInHanded {} Try.checked os 7 .any (Rows.deriveInfosSpec.pre6 enc Try.prog Try.f7 Rows.deriveInfosRow.domain false) (Rows.deriveInfosSpec.post enc Try.prog Try.f7 false true false false) := by
  refine returnsInHanded_of_change (C := Try.checked) own started (by kernel_rfl) Try.func7
    (ChangeSpec.witness6 (enc := enc) (C := Try.checked) false ⟨#[], #[.string ByteArray.empty, .string ByteArray.empty, .string ByteArray.empty, .string ByteArray.empty], []⟩ 8 (by kernel_rfl) (by kernel_rfl) (by kernel_rfl) (by kernel_rfl)) ?_
  intro W base args ds gs before hval0 hW hcnd _
  have hval : ∀ (j : Nat) t v, Try.f7.params[j]? = some t → args[j]? = some v → Value.okWide Try.prog W .any base t v := hval0
  have hW' := hW
  obtain ⟨p, q, hA0, hV, rfl, hfz, hnd⟩ := hW
  have hA : DataW.TrodAll enc Try.prog W 0 (fun _ => true) true Try.f7.params.toList args.toList ds p := hA0
  rw [Try.params7] at hA hval
  obtain ⟨v0, vs0, d0, ds0, p0, q0, hargs, rfl, rfl, h0, r0⟩ := trodAll_cons hA
  obtain ⟨v1, vs1, d1, ds1, p1, q1, rfl, rfl, rfl, h1, r1⟩ := trodAll_cons r0
  obtain ⟨v2, vs2, d2, ds2, p2, q2, rfl, rfl, rfl, h2, r2⟩ := trodAll_cons r1
  obtain ⟨v3, vs3, d3, ds3, p3, q3, rfl, rfl, rfl, h3, r3⟩ := trodAll_cons r2
  obtain ⟨rfl, rfl, rfl⟩ := trodAll_nil r3
  obtain rfl : args = #[v0, v1, v2, v3] := by cases args; simp_all
  obtain ⟨rfl, rfl⟩ := trodVars_none hV
  obtain ⟨a0, rfl, rfl, rfl, w0⟩ := open_string Try.underlying9 (hval 0 9 v0 rfl rfl) h0
  obtain ⟨a1, rfl, rfl, rfl, w1⟩ := open_string Try.underlying9 (hval 1 9 v1 rfl rfl) h1
  obtain ⟨a2, rfl, rfl, rfl, w2⟩ := open_string Try.underlying9 (hval 2 9 v2 rfl rfl) h2
  obtain ⟨a3, rfl, rfl, rfl, w3⟩ := open_string Try.underlying9 (hval 3 9 v3 rfl rfl) h3
  clear hA0 hval0
  simp only [List.append_nil] at hW'
  refine (walk a0 a1 a2 a3 w0 w1 w2 w3 W).mono fun e W' ⟨he, hg⟩ => ?_
  subst he
  exact ⟨_, rfl, _, _, _, [], [], [], hW', (trodAll_cons_mk (shut_bool Try.underlying4 _) trodAll_mk0), (trodAll_cons_mk (shut_string Try.underlying9 w0) (trodAll_cons_mk (shut_string Try.underlying9 w1) (trodAll_cons_mk (shut_string Try.underlying9 w2) (trodAll_cons_mk (shut_string Try.underlying9 w3) trodAll_mk0)))), rfl, hg.frame _, fun h => by cases h⟩

theorem over : Rows.deriveInfosRow.holds Try.pinned (OpenSpec.ofChange Rows.deriveInfosSpec) :=
  OpenClaim.holds_of_wide 7 Try.f7 rfl rfl rfl rfl rfl rfl rfl ⟨rfl, rfl, rfl, rfl, rfl⟩ rfl rfl rfl rfl rfl (by kernel_rfl) Try.func7 (by kernel_rfl)
    (of_decide_eq_true (by kernel_rfl)) (by unfold Func.isWrapper; first | (rw [if_pos (by decide +kernel)]; kernel_rfl) | (rw [if_neg (by decide +kernel)]; exact ⟨rfl, rfl⟩))
    (fun os started H enc _ => lifted os started H enc)

theorem proved : Rows.DeriveInfosSaid :=
  over
#print axioms proved
end Go.Proofs.Ytipnkhghdneeoaa.deriveInfos
