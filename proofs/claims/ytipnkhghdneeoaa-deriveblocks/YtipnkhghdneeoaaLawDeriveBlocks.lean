/- Promise P401: for all texts key and info the law DeriveBlocks answers true at the landed code: what is expanded to 96 bytes is three macs, each of the one ahead, the info and its own number. No condition; longer texts the law itself lets by. -/
import Derived.Test.YtipnkhghdneeoaaRows
import Derived.WalkKit
import Derived.ProofKit
import Derived.OpenShut
import Derived.ShutString
import Derived.Test.YtipnkhghdneeoaaAlive4
namespace Go.Proofs.Ytipnkhghdneeoaa.deriveBlocks
open Go.ChangeShapes Go.WideShapes Go.ChangeAt Go.RowKit
open Go.ChangeMaps (open_string shut_string)
set_option linter.unusedVariables false      -- a walk need not use every 'w<i>' (that an integer argument fits its kind)

theorem own : ownKnob Try.prog.godebug = none := by kernel_rfl

set_option maxHeartbeats 4000000 in
set_option maxRecDepth 100000 in
theorem walk (a0 : ByteArray) (a1 : ByteArray) (w0 : a0.size ≤ maxLen) (w1 : a1.size ≤ maxLen) (w : World) :
    Calls Try.prog 6 #[.string a0, .string a1] w fun e w' => e = .returned (.bool true) ∧ Below w.heap.size w w' := by
  unfold maxLen at w0 w1
  cases d1 : decide (100 < (a0.size : Int))
  cases d2 : decide (100 < (a1.size : Int))
  · have h1 : a0.size ≤ 100 := by rw [decide_eq_false_iff_not] at d1; omega
    have h2 : a1.size ≤ 100 := by rw [decide_eq_false_iff_not] at d2; omega
    clear w0 w1
    have P0 : Hid (∀ w, Calls Try.prog 9 #[.string a0, .string a1, .int .i64 96] w fun e w' => e = .returned (.tuple #[.string (expS a0 a1 96), .bool true]) ∧ Below w.heap.size w w') := fun w => derive_expand a0 a1 96 w (by omega) (by omega) (by decide)
    have z0 := expS_size a0 a1 96
    have hall := expS_three a0 a1
    have e1 := partS_one a0 a1
    have e2 := partS_next a0 a1 ⟨#[2]⟩ 1 rfl
    have e3 := partS_next a0 a1 ⟨#[3]⟩ 2 rfl
    have s1 := partS_size a0 a1 0
    have s2 := partS_size a0 a1 1
    have s3 := partS_size a0 a1 2
    generalize partS a0 a1 3 = C at *
    generalize partS a0 a1 2 = B at *
    generalize partS a0 a1 1 = A at *
    generalize expS a0 a1 96 = s at *
    have c1 : (⟨#[1]⟩ : ByteArray).size = 1 := rfl
    have c2 : (⟨#[2]⟩ : ByteArray).size = 1 := rfl
    have c3 : (⟨#[3]⟩ : ByteArray).size = 1 := rfl
    have l1 := @ByteArray.size_append a1 ⟨#[1]⟩
    have l2 := @ByteArray.size_append A a1
    have l3 := @ByteArray.size_append (A ++ a1) ⟨#[2]⟩
    have l4 := @ByteArray.size_append B a1
    have l5 := @ByteArray.size_append (B ++ a1) ⟨#[3]⟩
    have l6 := @ByteArray.size_append A B
    rw [c1] at l1
    rw [c2] at l3
    rw [c3] at l5
    obtain ⟨x1, q1⟩ : ∃ x, a1 ++ ⟨#[1]⟩ = x := ⟨_, rfl⟩
    obtain ⟨y2, q2⟩ : ∃ x, A ++ a1 = x := ⟨_, rfl⟩
    obtain ⟨x2, q3⟩ : ∃ x, y2 ++ ⟨#[2]⟩ = x := ⟨_, rfl⟩
    obtain ⟨y3, q4⟩ : ∃ x, B ++ a1 = x := ⟨_, rfl⟩
    obtain ⟨x3, q5⟩ : ∃ x, y3 ++ ⟨#[3]⟩ = x := ⟨_, rfl⟩
    obtain ⟨z, q6⟩ : ∃ x, A ++ B = x := ⟨_, rfl⟩
    rw [q1] at e1 l1
    rw [q2] at e2 l2 l3
    rw [q3] at e2 l3
    rw [q4] at e3 l4 l5
    rw [q5] at e3 l5
    rw [q6] at hall l6
    have P1 : Hid (∀ w, Calls Try.prog 15 #[.string a0, .string x1] w fun e w' => e = .returned (.string A) ∧ Below w.heap.size w w') := fun w => by
      rw [e1]; exact ref_mac a0 x1 w (by omega) (by omega)
    have P2 : Hid (∀ w, Calls Try.prog 15 #[.string a0, .string x2] w fun e w' => e = .returned (.string B) ∧ Below w.heap.size w w') := fun w => by
      rw [e2]; exact ref_mac a0 x2 w (by omega) (by omega)
    have P3 : Hid (∀ w, Calls Try.prog 15 #[.string a0, .string x3] w fun e w' => e = .returned (.string C) ∧ Below w.heap.size w w') := fun w => by
      rw [e3]; exact ref_mac a0 x3 w (by omega) (by omega)
    clear e1 e2 e3 c1 c2 c3
    have hself := str_beq_self s
    go_enter Try.func6, Try.ntmps6
    go_wp2_with fail
    refine (alive4_any _).mono ?_
    rintro e w1 ⟨rfl, b⟩
    go_wp2_with fail
    refine (P0.out _).mono ?_
    rintro e w' ⟨rfl, b'⟩
    replace b := bel_chain b b'
    clear b'
    go_wp2_with fail
    refine (P1.out _).mono ?_
    rintro e w' ⟨rfl, b'⟩
    replace b := bel_chain b b'
    clear b'
    go_wp2_with fail
    refine (P2.out _).mono ?_
    rintro e w' ⟨rfl, b'⟩
    replace b := bel_chain b b'
    clear b'
    go_wp2_with fail
    refine (P3.out _).mono ?_
    rintro e w' ⟨rfl, b'⟩
    replace b := bel_chain b b'
    clear b'
    go_wp2
    go_ret
    exact ⟨rfl, b⟩
  all_goals
    go_enter Try.func6, Try.ntmps6
    go_wp2_with fail
    refine (alive4_any _).mono ?_
    rintro e w1 ⟨rfl, b1⟩
    go_wp2
    go_ret
    exact ⟨rfl, b1⟩

set_option maxRecDepth 100000 in
theorem lifted (os : Os) (started : os.Started) (H : Type) (enc : TypeId × Value → H) :
    ReturnsInHanded {} Try.checked os 6 .any (Rows.deriveBlocksSpec.pre6 enc Try.prog Try.f6 Rows.deriveBlocksRow.domain false) (Rows.deriveBlocksSpec.post enc Try.prog Try.f6 false true false false) := by
  refine returnsInHanded_of_change (C := Try.checked) own started (by kernel_rfl) Try.func6
    (ChangeSpec.witness6 (enc := enc) (C := Try.checked) false ⟨#[], #[.string ByteArray.empty, .string ByteArray.empty], []⟩ 8 (by kernel_rfl) (by kernel_rfl) (by kernel_rfl) (by kernel_rfl)) ?_
  intro W base args ds gs before hval0 hW hcnd _
  have hval : ∀ (j : Nat) t v, Try.f6.params[j]? = some t → args[j]? = some v → Value.okWide Try.prog W .any base t v := hval0
  have hW' := hW
  obtain ⟨p, q, hA0, hV, rfl, hfz, hnd⟩ := hW
  have hA : DataW.TrodAll enc Try.prog W 0 (fun _ => true) true Try.f6.params.toList args.toList ds p := hA0
  rw [Try.params6] at hA hval
  obtain ⟨v0, vs0, d0, ds0, p0, q0, hargs, rfl, rfl, h0, r0⟩ := trodAll_cons hA
  obtain ⟨v1, vs1, d1, ds1, p1, q1, rfl, rfl, rfl, h1, r1⟩ := trodAll_cons r0
  obtain ⟨rfl, rfl, rfl⟩ := trodAll_nil r1
  obtain rfl : args = #[v0, v1] := by cases args; simp_all
  obtain ⟨rfl, rfl⟩ := trodVars_none hV
  obtain ⟨a0, rfl, rfl, rfl, w0⟩ := open_string Try.underlying9 (hval 0 9 v0 rfl rfl) h0
  obtain ⟨a1, rfl, rfl, rfl, w1⟩ := open_string Try.underlying9 (hval 1 9 v1 rfl rfl) h1
  clear hA0 hval0
  simp only [List.append_nil] at hW'
  refine (walk a0 a1 w0 w1 W).mono fun e W' ⟨he, hg⟩ => ?_
  subst he
  exact ⟨_, rfl, _, _, _, [], [], [], hW', (trodAll_cons_mk (shut_bool Try.underlying4 _) trodAll_mk0), (trodAll_cons_mk (shut_string Try.underlying9 w0) (trodAll_cons_mk (shut_string Try.underlying9 w1) trodAll_mk0)), rfl, hg.frame _, fun h => by cases h⟩

theorem over : Rows.deriveBlocksRow.holds Try.pinned (OpenSpec.ofChange Rows.deriveBlocksSpec) :=
  OpenClaim.holds_of_wide 6 Try.f6 rfl rfl rfl rfl rfl rfl rfl ⟨rfl, rfl, rfl, rfl, rfl⟩ rfl rfl rfl rfl rfl (by kernel_rfl) Try.func6 (by kernel_rfl)
    (of_decide_eq_true (by kernel_rfl)) (by unfold Func.isWrapper; first | (rw [if_pos (by decide +kernel)]; kernel_rfl) | (rw [if_neg (by decide +kernel)]; exact ⟨rfl, rfl⟩))
    (fun os started H enc _ => lifted os started H enc)

theorem proved : Rows.DeriveBlocksSaid :=
  over
#print axioms proved
end Go.Proofs.Ytipnkhghdneeoaa.deriveBlocks
