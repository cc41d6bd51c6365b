/- Promise P1002: for every text b the law CommandOnly answers true at the landed code: what Get tells of bytes that are a command's is put as they are, and has a class and a name; of others it tells a zero command. No condition; longer texts the law itself lets by. -/
import Derived.Test.YtogfobmbmimpgaaRows
import Derived.WalkKit
import Derived.ProofKit
import Derived.OpenShut
import Derived.ShutString
import Derived.Carry
import Derived.Test.YtogfobmbmimpgaaStrs0
import Derived.Test.YtogfobmbmimpgaaAlive10
namespace Go.Proofs.Ytogfobmbmimpgaa.commandOnly
open Go.ChangeShapes Go.WideShapes Go.ChangeAt Go.RowKit
open Go.ChangeMaps (open_string shut_string)
set_option linter.unusedVariables false
set_option maxRecDepth 100000

theorem own : ownKnob Try.prog.godebug = none := by kernel_rfl
theorem laidOut : laidOutB Try.prog = true := by kernel_rfl

set_option maxHeartbeats 4000000 in
set_option maxRecDepth 100000 in
theorem walk (a0 : ByteArray) (w0 : a0.size ≤ maxLen) (w : World) :
    Calls Try.prog 4 #[.string a0] w fun e w' => e = .returned (.bool true) ∧ Below w.heap.size w w' := by
  unfold maxLen at w0
  by_cases hs : 1000 < a0.size
  · have d0 : decide (1000 < (a0.size : Int)) = true := decide_eq_true (by omega)
    have d1 : 1000 < a0.size := hs
    clear hs
    go_enter Try.func4, Try.ntmps4
    go_wp2_with fail
    with_reducible refine (alive10 _).mono ?_
    rintro e w1 ⟨rfl, b1⟩
    go_wp2
    go_ret
    exact ⟨rfl, b1⟩
  have d0 : decide (1000 < (a0.size : Int)) = false := decide_eq_false (by omega)
  have d1 : ¬ 1000 < a0.size := hs
  have PG := fun w => command_get a0 w (by omega)
  by_cases hc : isCmd a0
  · obtain ⟨hr, hp⟩ := put_get hc
    have hok := (get_yes hc).2
    have P2 := fun w => command_put (getC a0) w (by have := hr.2.2.1; unfold maxLen; omega)
    rw [hp, show (getC a0).right = true from decide_eq_true hr] at P2
    rw [hok] at PG
    have hop : IsOp (getC a0).op := hr.1
    clear hc hr hp hok
    generalize getC a0 = cc at *
    obtain ⟨op, key, value, num, ver⟩ := cc
    simp only [Cmd.v] at *
    have P3 : Hid _ := fun w => command_class op w
    have P4 : Hid _ := fun w => command_name op w
    have c1 : decide (0 < classN op) = true := by rw [classN_pos]; exact decide_eq_true hop
    have hn := nameS_ne op hop
    have e1 := str_full _ hn
    have e2 : ¬ (nameS op).toList = [] := fun e => by rw [e] at e1; cases e1
    have e3 : decide (nameS op = ByteArray.empty) = false := decide_eq_false hn
    have e4 := str_beq_self a0
    clear hn hop hs w0
    generalize nameS op = N at *
    generalize classN op = C at *
    have hrow := fun w => CmdIs.new w ⟨op, key, value, num, ver⟩
    have PG2 : Hid _ := PG
    have PP : Hid _ := P2
    have HROW : Hid _ := hrow
    clear PG P2 hrow
    go_enter Try.func4, Try.ntmps4
    go_wp2_with fail
    with_reducible refine (alive10 _).mono ?_
    rintro e w1 ⟨rfl, b1⟩
    go_wp2_with fail
    with_reducible refine (PG2.out _).mono ?_
    rintro e w2 ⟨rfl, b2⟩
    replace b1 := bel_chain8 b1 b2
    go_wp2_with fail
    with_reducible refine (PP.out _).mono ?_
    rintro e w3 ⟨rfl, b3⟩
    obtain ⟨c0, _, _, _, _⟩ := ((HROW.out w2).below b3).cells
    have c0' : w3.cell? ⟨w2.heap.size, 0, none⟩ = some (.int .i64 op) := c0
    replace b1 := bel_chain8 b1 (bel_new b3)
    clear b2 b3 c0
    go_wp2_with fail
    with_reducible refine (P3.out _).mono ?_
    rintro e w4 ⟨rfl, rfl⟩
    go_wp2_with fail
    with_reducible refine (P4.out _).mono ?_
    rintro e w4 ⟨rfl, b4⟩
    go_wp2
    go_ret
    exact ⟨rfl, bel_chain8 b1 b4⟩
  · obtain ⟨g1, g2⟩ := get_no hc
    rw [g1, g2, show Cmd.zero.v = .agg #[.int .i64 0, .string ⟨#[]⟩, .string ⟨#[]⟩, .int .i64 0, .int .i64 0] from rfl] at PG
    have PG2 : Hid _ := PG
    have e4 := str_beq_self ⟨#[]⟩
    clear PG hc g1 g2 hs w0
    go_enter Try.func4, Try.ntmps4
    go_wp2_with fail
    with_reducible refine (alive10 _).mono ?_
    rintro e w1 ⟨rfl, b1⟩
    go_wp2_with fail
    with_reducible refine (PG2.out _).mono ?_
    rintro e w2 ⟨rfl, b2⟩
    go_wp2
    go_ret
    exact ⟨rfl, bel_chain8 b1 ((bel_chain8 b2 ((Below.refl _ _).alloc (Nat.le_refl _) _)))⟩

set_option maxRecDepth 100000 in
theorem lifted (os : Os) (started : os.Started) (H : Type) (enc : TypeId × Value → H) :
    ReturnsInHanded {} Try.checked os 4 .any (Rows.commandOnlySpec.pre6 enc Try.prog Try.f4 Rows.commandOnlyRow.domain false) (Rows.commandOnlySpec.post enc Try.prog Try.f4 false true false false) := by
  refine returnsInHanded_of_change (C := Try.checked) own started (by kernel_rfl) Try.func4
    (ChangeSpec.witness6 (enc := enc) (C := Try.checked) false ⟨#[], #[.string ByteArray.empty], []⟩ 8 (by kernel_rfl) (by kernel_rfl) (by kernel_rfl) (by kernel_rfl)) ?_
  intro W base args ds gs before hval0 hW hcnd _
  have hval : ∀ (j : Nat) t v, Try.f4.params[j]? = some t → args[j]? = some v → Value.okWide Try.prog W .any base t v := hval0
  have hW' := hW
  obtain ⟨p, q, hA0, hV, rfl, hfz, hnd⟩ := hW
  have hA : DataW.TrodAll enc Try.prog W 0 (fun _ => true) true Try.f4.params.toList args.toList ds p := hA0
  rw [Try.params4] at hA hval
  obtain ⟨v0, vs0, d0, ds0, p0, q0, hargs, rfl, rfl, h0, r0⟩ := trodAll_cons hA
  obtain ⟨rfl, rfl, rfl⟩ := trodAll_nil r0
  obtain rfl : args = #[v0] := by cases args; simp_all
  obtain ⟨rfl, rfl⟩ := trodVars_none hV
  obtain ⟨a0, rfl, rfl, rfl, w0⟩ := open_string Try.underlying9 (hval 0 9 v0 rfl rfl) h0
  clear hA0 hval0
  simp only [List.append_nil] at hW'
  refine (walk a0 w0 W ).mono fun e W' ⟨he, hg⟩ => ?_
  subst he
  exact ⟨_, rfl, _, _, _, _, _, _, hW', (trodAll_cons_mk (shut_bool Try.underlying4 _) trodAll_mk0), (trodAll_cons_mk (shut_string Try.underlying9 w0) trodAll_mk0), rfl, hg.frame _, fun h => by cases h⟩

theorem over : Rows.commandOnlyRow.holds Try.pinned (OpenSpec.ofChange Rows.commandOnlySpec) :=
  OpenClaim.holds_of_wide 4 Try.f4 rfl rfl rfl rfl rfl rfl rfl ⟨rfl, rfl, rfl, rfl, rfl⟩ rfl rfl rfl rfl rfl (by kernel_rfl) Try.func4 (by kernel_rfl)
    (of_decide_eq_true (by kernel_rfl)) (by unfold Func.isWrapper; first | (rw [if_pos (by decide +kernel)]; kernel_rfl) | (rw [if_neg (by decide +kernel)]; exact ⟨rfl, rfl⟩))
    (fun os started H enc _ => lifted os started H enc)

theorem proved : Rows.CommandOnlySaid :=
  over
#print axioms proved
end Go.Proofs.Ytogfobmbmimpgaa.commandOnly
