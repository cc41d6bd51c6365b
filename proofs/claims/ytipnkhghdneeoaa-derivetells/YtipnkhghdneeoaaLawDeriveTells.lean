/- Promise P401: for all texts salt, secret and info and every number n the law DeriveTells answers true at the landed code: derive.Extract, derive.Expand (its bytes, and whether n may be) and derive.Key answer as the document's own reckoning (the reference). No condition; longer texts, and n from 601 to Most, the law itself lets by. -/
import Derived.Test.YtipnkhghdneeoaaRows
import Derived.WalkKit
import Derived.ProofKit
import Derived.OpenShut
import Derived.ShutString
import Derived.Test.YtipnkhghdneeoaaAlive4
namespace Go.Proofs.Ytipnkhghdneeoaa.deriveTells
open Go.ChangeShapes Go.WideShapes Go.ChangeAt Go.RowKit
open Go.ChangeMaps (open_string shut_string)
set_option linter.unusedVariables false      -- a walk need not use every 'w<i>' (that an integer argument fits its kind)

theorem own : ownKnob Try.prog.godebug = none := by kernel_rfl

set_option maxHeartbeats 4000000 in
set_option maxRecDepth 100000 in
theorem walk (a0 : ByteArray) (a1 : ByteArray) (a2 : ByteArray) (a3 : Int) (w0 : a0.size ≤ maxLen) (w1 : a1.size ≤ maxLen) (w2 : a2.size ≤ maxLen) (w3 : (Lit.int .i64 a3).wf = true) (w : World) :
    Calls Try.prog 3 #[.string a0, .string a1, .string a2, .int .i64 a3] w fun e w' => e = .returned (.bool true) ∧ Below w.heap.size w w' := by
  unfold maxLen at w0 w1 w2
  have hn := bounds_i64 w3
  have hn0 := hn.1
  have hn1 := hn.2
  clear hn w3
  cases d1 : decide (200 < (a0.size : Int))
  cases d2 : decide (200 < (a1.size : Int))
  cases d3 : decide (200 < (a2.size : Int))
  · have h1 : a0.size ≤ 200 := by rw [decide_eq_false_iff_not] at d1; omega
    have h2 : a1.size ≤ 200 := by rw [decide_eq_false_iff_not] at d2; omega
    have h3 : a2.size ≤ 200 := by rw [decide_eq_false_iff_not] at d3; omega
    clear w0 w1 w2
    have pe := fun w => derive_extract a0 a1 w (by omega) (by omega)
    have qe := fun w => ref_extract a0 a1 w (by omega) (by omega)
    have pk := fun w => derive_key a1 a0 a2 w (by omega) (by omega) (by omega)
    have qk := fun w => ref_key a1 a0 a2 w (by omega) (by omega) (by omega)
    have s1 := str_beq_self (extS a0 a1)
    have s2 := str_beq_self (keyS a1 a0 a2)
    generalize extS a0 a1 = x at *
    generalize keyS a1 a0 a2 = k at *
    have PE : Hid _ := pe
    have QE : Hid _ := qe
    have PK : Hid _ := pk
    have QK : Hid _ := qk
    clear pe qe pk qk
    have hcase : (∃ n : Nat, a3 = (n : Int) ∧ n ≤ 600) ∨ ((a3 < 0 ∨ 8160 < a3)) ∨ (600 < a3 ∧ a3 ≤ 8160) := by
      by_cases h0 : a3 < 0
      · exact .inr (.inl (.inl h0))
      · by_cases h8 : 8160 < a3
        · exact .inr (.inl (.inr h8))
        · by_cases h6 : 600 < a3
          · exact .inr (.inr ⟨h6, by omega⟩)
          · exact .inl ⟨a3.toNat, by omega, by omega⟩
    have main : ∀ (s : ByteArray) (ok : Bool), (∀ w, Calls Try.prog 9 #[.string a1, .string a2, .int .i64 a3] w fun e w' => e = .returned (.tuple #[.string s, .bool ok]) ∧ Below w.heap.size w w') → (∀ w, Calls Try.prog 10 #[.string a1, .string a2, .int .i64 a3] w fun e w' => e = .returned (.tuple #[.string s, .bool ok]) ∧ Below w.heap.size w w') → ((600 < a3 → 8160 < a3)) → Calls Try.prog 3 #[.string a0, .string a1, .string a2, .int .i64 a3] w fun e w' => e = .returned (.bool true) ∧ Below w.heap.size w w' := by
      intro s ok px qx hlet
      have s3 := str_beq_self s
      have s4 : (ok == ok) = true := by simp
      have PX : Hid _ := px
      have QX : Hid _ := qx
      clear px qx
      have hd : (decide (600 < a3) = false) ∨ (decide (600 < a3) = true ∧ decide (a3 ≤ 8160) = false) := by
        by_cases h6 : 600 < a3
        · exact .inr ⟨by simpa using h6, by have := hlet h6; simp; omega⟩
        · exact .inl (by simpa using h6)
      clear hlet hcase
      rcases hd with d4 | ⟨d4, d5⟩
      all_goals
        go_enter Try.func3, Try.ntmps3
        go_wp2_with fail
        refine (alive4_any _).mono ?_
        rintro e w1 ⟨rfl, b⟩
        go_wp2_with fail
        refine (PX.out _).mono ?_
        rintro e w' ⟨rfl, b'⟩
        replace b := bel_chain b b'
        clear b'
        go_wp2_with fail
        refine (QX.out _).mono ?_
        rintro e w' ⟨rfl, b'⟩
        replace b := bel_chain b b'
        clear b'
        go_wp2_with fail
        refine (PE.out _).mono ?_
        rintro e w' ⟨rfl, b'⟩
        replace b := bel_chain b b'
        clear b'
        go_wp2_with fail
        refine (QE.out _).mono ?_
        rintro e w' ⟨rfl, b'⟩
        replace b := bel_chain b b'
        clear b'
        go_wp2_with fail
        refine (PK.out _).mono ?_
        rintro e w' ⟨rfl, b'⟩
        replace b := bel_chain b b'
        clear b'
        go_wp2_with fail
        refine (QK.out _).mono ?_
        rintro e w' ⟨rfl, b'⟩
        replace b := bel_chain b b'
        clear b'
        go_wp2
        go_ret
        exact ⟨rfl, b⟩
    rcases hcase with ⟨n, rfl, hn6⟩ | ho | ⟨h6, h8⟩
    · exact main _ _ (fun w => derive_expand a1 a2 n w (by omega) (by omega) (by omega)) (fun w => ref_expand a1 a2 n w (by omega) (by omega) (by omega)) (by omega)
    · exact main _ _ (fun w => derive_expand_no a1 a2 a3 w ho) (fun w => ref_expand_no a1 a2 a3 w ho) (by omega)
    · have d4 : decide (600 < a3) = true := by simpa using h6
      have d5 : decide (a3 ≤ 8160) = true := by simpa using h8
      clear main h6 h8
      go_enter Try.func3, Try.ntmps3
      go_wp2_with fail
      refine (alive4_any _).mono ?_
      rintro e w1 ⟨rfl, b1⟩
      go_wp2
      go_ret
      exact ⟨rfl, b1⟩
  all_goals
    go_enter Try.func3, Try.ntmps3
    go_wp2_with fail
    refine (alive4_any _).mono ?_
    rintro e w1 ⟨rfl, b1⟩
    go_wp2
    go_ret
    exact ⟨rfl, b1⟩

set_option maxRecDepth 100000 in
theorem lifted (os : Os) (started : os.Started) (H : Type) (enc : TypeId × Value → H) :
    ReturnsInHanded {} Try.checked os 3 .any (Rows.deriveTellsSpec.pre6 enc Try.prog Try.f3 Rows.deriveTellsRow.domain false) (Rows.deriveTellsSpec.post enc Try.prog Try.f3 false true false false) := by
  refine returnsInHanded_of_change (C := Try.checked) own started (by kernel_rfl) Try.func3
    (ChangeSpec.witness6 (enc := enc) (C := Try.checked) false ⟨#[], #[.string ByteArray.empty, .string ByteArray.empty, .string ByteArray.empty, .int .i64 0], []⟩ 8 (by kernel_rfl) (by kernel_rfl) (by kernel_rfl) (by kernel_rfl)) ?_
  intro W base args ds gs before hval0 hW hcnd _
  have hval : ∀ (j : Nat) t v, Try.f3.params[j]? = some t → args[j]? = some v → Value.okWide Try.prog W .any base t v := hval0
  have hW' := hW
  obtain ⟨p, q, hA0, hV, rfl, hfz, hnd⟩ := hW
  have hA : DataW.TrodAll enc Try.prog W 0 (fun _ => true) true Try.f3.params.toList args.toList ds p := hA0
  rw [Try.params3] at hA hval
  obtain ⟨v0, vs0, d0, ds0, p0, q0, hargs, rfl, rfl, h0, r0⟩ := trodAll_cons hA
  obtain ⟨v1, vs1, d1, ds1, p1, q1, rfl, rfl, rfl, h1, r1⟩ := trodAll_cons r0
  obtain ⟨v2, vs2, d2, ds2, p2, q2, rfl, rfl, rfl, h2, r2⟩ := trodAll_cons r1
  obtain ⟨v3, vs3, d3, ds3, p3, q3, rfl, rfl, rfl, h3, r3⟩ := trodAll_cons r2
  obtain ⟨rfl, rfl, rfl⟩ := trodAll_nil r3
  obtain rfl : args = #[v0, v1, v2, v3] := by cases args; simp_all
  obtain ⟨rfl, rfl⟩ := trodVars_none hV
  obtain ⟨a0, rfl, rfl, rfl, w0⟩ := open_string Try.underlying9 (hval 0 9 v0 rfl rfl) h0
  obtain ⟨a1, rfl, rfl, rfl, w1⟩ := open_string Try.underlying9 (hval 1 9 v1 rfl rfl) h1
  obtain ⟨a2, rfl, rfl, rfl, w2⟩ := open_string Try.underlying9 (hval 2 9 v2 rfl rfl) h2
  obtain ⟨a3, rfl, rfl, rfl, w3⟩ := open_int Try.underlying3 (hval 3 3 v3 rfl rfl) h3
  clear hA0 hval0
  simp only [List.append_nil] at hW'
  refine (walk a0 a1 a2 a3 w0 w1 w2 w3 W).mono fun e W' ⟨he, hg⟩ => ?_
  subst he
  exact ⟨_, rfl, _, _, _, [], [], [], hW', (trodAll_cons_mk (shut_bool Try.underlying4 _) trodAll_mk0), (trodAll_cons_mk (shut_string Try.underlying9 w0) (trodAll_cons_mk (shut_string Try.underlying9 w1) (trodAll_cons_mk (shut_string Try.underlying9 w2) (trodAll_cons_mk (shut_int Try.underlying3 w3) trodAll_mk0)))), rfl, hg.frame _, fun h => by cases h⟩

theorem over : Rows.deriveTellsRow.holds Try.pinned (OpenSpec.ofChange Rows.deriveTellsSpec) :=
  OpenClaim.holds_of_wide 3 Try.f3 rfl rfl rfl rfl rfl rfl rfl ⟨rfl, rfl, rfl, rfl, rfl⟩ rfl rfl rfl rfl rfl (by kernel_rfl) Try.func3 (by kernel_rfl)
    (of_decide_eq_true (by kernel_rfl)) (by unfold Func.isWrapper; first | (rw [if_pos (by decide +kernel)]; kernel_rfl) | (rw [if_neg (by decide +kernel)]; exact ⟨rfl, rfl⟩))
    (fun os started H enc _ => lifted os started H enc)

theorem proved : Rows.DeriveTellsSaid :=
  over
#print axioms proved
end Go.Proofs.Ytipnkhghdneeoaa.deriveTells
