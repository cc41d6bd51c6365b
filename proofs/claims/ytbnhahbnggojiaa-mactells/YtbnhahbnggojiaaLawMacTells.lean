/- Promise P301: for all texts key, b, c and d the law MacTells answers true at the landed code: mac.Of(key, b) is the document's own reckoning (the reference), 32 bytes; mac.Same tells whether c and d are the same; mac.Check takes that mac, and another text just if it is that mac. No condition; longer texts the law itself lets by. -/
import Derived.Test.YtbnhahbnggojiaaRows
import Derived.WalkKit
import Derived.ProofKit
import Derived.OpenShut
import Derived.ShutString
import Derived.Test.YtbnhahbnggojiaaAlive3
namespace Go.Proofs.Ytbnhahbnggojiaa.macTells
open Go.ChangeShapes Go.WideShapes Go.ChangeAt Go.RowKit
open Go.ChangeMaps (open_string shut_string)
set_option linter.unusedVariables false      -- a walk need not use every 'w<i>' (that an integer argument fits its kind)

theorem own : ownKnob Try.prog.godebug = none := by kernel_rfl

set_option maxHeartbeats 4000000 in
set_option maxRecDepth 100000 in
theorem walk (a0 : ByteArray) (a1 : ByteArray) (a2 : ByteArray) (a3 : ByteArray) (w0 : a0.size ≤ maxLen) (w1 : a1.size ≤ maxLen) (w2 : a2.size ≤ maxLen) (w3 : a3.size ≤ maxLen) (w : World) :
    Calls Try.prog 3 #[.string a0, .string a1, .string a2, .string a3] w fun e w' => e = .returned (.bool true) ∧ Below w.heap.size w w' := by
  unfold maxLen at w0 w1 w2 w3
  cases d1 : decide (300 < (a0.size : Int))
  cases d2 : decide (500 < (a1.size : Int))
  cases d3 : decide (300 < (a2.size : Int))
  cases d4 : decide (300 < (a3.size : Int))
  · have h1 : a0.size ≤ 300 := by rw [decide_eq_false_iff_not] at d1; omega
    have h2 : a1.size ≤ 500 := by rw [decide_eq_false_iff_not] at d2; omega
    have h3 : a2.size ≤ 300 := by rw [decide_eq_false_iff_not] at d3; omega
    have h4 : a3.size ≤ 300 := by rw [decide_eq_false_iff_not] at d4; omega
    clear w0 w1 w2 w3
    have pr := fun w => ref_mac a0 a1 w (by omega) (by omega)
    have po := fun w => mac_of a0 a1 w (by omega) (by omega)
    have ps := fun w => mac_same a2 a3 w (by omega) (by omega)
    have hm := macS_size a0 a1
    have pc := fun w => mac_check a0 a1 (macS a0 a1) w (by omega) (by omega) (by omega)
    have pd := fun w => mac_check a0 a1 a2 w (by omega) (by omega) (by omega)
    rw [show decide (macS a0 a1 = macS a0 a1) = true from decide_eq_true rfl] at pc
    generalize macS a0 a1 = m at *
    obtain ⟨x, hx⟩ : ∃ x, decide (a2 = a3) = x := ⟨_, rfl⟩
    obtain ⟨y, hy⟩ : ∃ y, decide (m = a2) = y := ⟨_, rfl⟩
    have hy' : decide (a2 = m) = y := by rw [← hy]; exact decide_eq_decide.2 eq_comm
    have hx2 : (a2.toList == a3.toList) = x := by rw [← hx]; exact str_beq _ _
    have hy2 : (a2.toList == m.toList) = y := by rw [← hy']; exact str_beq _ _
    rw [hx] at ps
    rw [hy] at pd
    have P1 : Hid _ := pr
    have P2 : Hid _ := po
    have P3 : Hid _ := ps
    have P4 : Hid _ := pc
    have P5 : Hid _ := pd
    clear pr po ps pc pd hy hx hy'
    cases x <;> cases y
    all_goals
      go_enter Try.func3, Try.ntmps3
      go_wp2_with fail
      refine (alive3_any _).mono ?_
      rintro e w1 ⟨rfl, b⟩
      go_wp2_with fail
      refine (P1.out _).mono ?_
      rintro e w' ⟨rfl, b'⟩
      replace b := bel_chain b b'
      clear b'
      go_wp2_with fail
      refine (P2.out _).mono ?_
      rintro e w' ⟨rfl, b'⟩
      replace b := bel_chain b b'
      clear b'
      go_wp2_with fail
      refine (P3.out _).mono ?_
      rintro e w' ⟨rfl, b'⟩
      replace b := bel_chain b b'
      clear b'
      go_wp2_with fail
      refine (P4.out _).mono ?_
      rintro e w' ⟨rfl, b'⟩
      replace b := bel_chain b b'
      clear b'
      go_wp2_with fail
      refine (P5.out _).mono ?_
      rintro e w' ⟨rfl, b'⟩
      replace b := bel_chain b b'
      clear b'
      go_wp2
      go_ret
      exact ⟨rfl, b⟩
  all_goals
    go_enter Try.func3, Try.ntmps3
    go_wp2_with fail
    refine (alive3_any _).mono ?_
    rintro e w1 ⟨rfl, b1⟩
    go_wp2
    go_ret
    exact ⟨rfl, b1⟩

set_option maxRecDepth 100000 in
theorem lifted (os : Os) (started : os.Started) (H : Type) (enc : TypeId × Value → H) :
    ReturnsInHanded {} Try.checked os 3 .any (Rows.macTellsSpec.pre6 enc Try.prog Try.f3 Rows.macTellsRow.domain false) (Rows.macTellsSpec.post enc Try.prog Try.f3 false true false false) := by
  refine returnsInHanded_of_change (C := Try.checked) own started (by kernel_rfl) Try.func3
    (ChangeSpec.witness6 (enc := enc) (C := Try.checked) false ⟨#[], #[.string ByteArray.empty, .string ByteArray.empty, .string ByteArray.empty, .string ByteArray.empty], []⟩ 8 (by kernel_rfl) (by kernel_rfl) (by kernel_rfl) (by kernel_rfl)) ?_
  intro W base args ds gs before hval0 hW hcnd _
  have hval : ∀ (j : Nat) t v, Try.f3.params[j]? = some t → args[j]? = some v → Value.okWide Try.prog W .any base t v := hval0
  have hW' := hW
  obtain ⟨p, q, hA0, hV, rfl, hfz, hnd⟩ := hW
  have hA : DataW.TrodAll enc Try.prog W 0 (fun _ => true) true Try.f3.params.toList args.toList ds p := hA0
  rw [Try.params3] at hA hval
  obtain ⟨v0, vs0, d0, ds0, p0, q0, hargs, rfl, rfl, h0, r0⟩ := trodAll_cons hA
  obtain ⟨v1, vs1, d1, ds1, p1, q1, rfl, rfl, rfl, h1, r1⟩ := trodAll_cons r0
  obtain ⟨v2, vs2, d2, ds2, p2, q2, rfl, rfl, rfl, h2, r2⟩ := trodAll_cons r1
  obtain ⟨v3, vs3, d3, ds3, p3, q3, rfl, rfl, rfl, h3, r3⟩ := trodAll_cons r2
  obtain ⟨rfl, rfl, rfl⟩ := trodAll_nil r3
  obtain rfl : args = #[v0, v1, v2, v3] := by cases args; simp_all
  obtain ⟨rfl, rfl⟩ := trodVars_none hV
  obtain ⟨a0, rfl, rfl, rfl, w0⟩ := open_string Try.underlying9 (hval 0 9 v0 rfl rfl) h0
  obtain ⟨a1, rfl, rfl, rfl, w1⟩ := open_string Try.underlying9 (hval 1 9 v1 rfl rfl) h1
  obtain ⟨a2, rfl, rfl, rfl, w2⟩ := open_string Try.underlying9 (hval 2 9 v2 rfl rfl) h2
  obtain ⟨a3, rfl, rfl, rfl, w3⟩ := open_string Try.underlying9 (hval 3 9 v3 rfl rfl) h3
  clear hA0 hval0
  simp only [List.append_nil] at hW'
  refine (walk a0 a1 a2 a3 w0 w1 w2 w3 W).mono fun e W' ⟨he, hg⟩ => ?_
  subst he
  exact ⟨_, rfl, _, _, _, [], [], [], hW', (trodAll_cons_mk (shut_bool Try.underlying4 _) trodAll_mk0), (trodAll_cons_mk (shut_string Try.underlying9 w0) (trodAll_cons_mk (shut_string Try.underlying9 w1) (trodAll_cons_mk (shut_string Try.underlying9 w2) (trodAll_cons_mk (shut_string Try.underlying9 w3) trodAll_mk0)))), rfl, hg.frame _, fun h => by cases h⟩

theorem over : Rows.macTellsRow.holds Try.pinned (OpenSpec.ofChange Rows.macTellsSpec) :=
  OpenClaim.holds_of_wide 3 Try.f3 rfl rfl rfl rfl rfl rfl rfl ⟨rfl, rfl, rfl, rfl, rfl⟩ rfl rfl rfl rfl rfl (by kernel_rfl) Try.func3 (by kernel_rfl)
    (of_decide_eq_true (by kernel_rfl)) (by unfold Func.isWrapper; first | (rw [if_pos (by decide +kernel)]; kernel_rfl) | (rw [if_neg (by decide +kernel)]; exact ⟨rfl, rfl⟩))
    (fun os started H enc _ => lifted os started H enc)

theorem proved : Rows.MacTellsSaid :=
  over
#print axioms proved
end Go.Proofs.Ytbnhahbnggojiaa.macTells
