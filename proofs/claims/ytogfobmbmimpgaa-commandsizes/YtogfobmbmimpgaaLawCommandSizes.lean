/- Promise P1002: for every command c the law CommandSizes answers true at the landed code: its bytes are those of its key and value and eighteen more, the first of them its operation; of one that is not right there are none. No condition; longer keys and values the law itself lets by. -/
import Derived.Test.YtogfobmbmimpgaaRows
import Derived.WalkKit
import Derived.ProofKit
import Derived.OpenShut
import Derived.ShutString
import Derived.Carry
import Derived.Test.YtogfobmbmimpgaaStrs0
import Derived.Test.YtogfobmbmimpgaaAlive10
import Derived.Test.YtogfobmbmimpgaaOpn0
namespace Go.Proofs.Ytogfobmbmimpgaa.commandSizes
open Go.ChangeShapes Go.WideShapes Go.ChangeAt Go.RowKit
open Go.ChangeMaps (open_string shut_string)
set_option linter.unusedVariables false
set_option maxRecDepth 100000

theorem own : ownKnob Try.prog.godebug = none := by kernel_rfl
theorem laidOut : laidOutB Try.prog = true := by kernel_rfl

set_option maxHeartbeats 4000000 in
set_option maxRecDepth 100000 in
theorem walk (c0 : Cmd) (w0 : c0.Wide) (w : World) :
    Calls Try.prog 6 #[c0.v] w fun e w' => e = .returned (.bool true) ∧ Below w.heap.size w w' := by
  have hbig : 100 < c0.key.size ∨ ¬ 100 < c0.key.size ∧ 600 < c0.value.size ∨ ¬ 100 < c0.key.size ∧ ¬ 600 < c0.value.size := by omega
  obtain ⟨wo, wk, wv, wn, we⟩ := w0
  unfold maxLen at wk wv
  have PP := fun w => command_put c0 w (by unfold maxLen; omega)
  have PR := fun w => command_right c0 w (by unfold maxLen; omega)
  have hrow := fun w => CmdIs.new w c0
  rcases hbig with h1 | ⟨h1, h2⟩ | ⟨h1, h2⟩
  · obtain ⟨op, key, value, num, ver⟩ := c0
    simp only [Cmd.v] at *
    have d0 : decide (100 < (key.size : Int)) = true := decide_eq_true (by omega)
    clear PP PR hrow wo wk wv wn we
    go_enter Try.func6, Try.ntmps6
    go_wp2_with fail
    with_reducible refine (alive10 _).mono ?_
    rintro e w1 ⟨rfl, b1⟩
    go_wp2
    go_ret
    exact ⟨rfl, bel_new b1⟩
  · obtain ⟨op, key, value, num, ver⟩ := c0
    simp only [Cmd.v] at *
    have d0 : decide (100 < (key.size : Int)) = false := decide_eq_false (by omega)
    have d2 : decide (600 < (value.size : Int)) = true := decide_eq_true (by omega)
    clear PP PR hrow wo wk wv wn we
    go_enter Try.func6, Try.ntmps6
    go_wp2_with fail
    with_reducible refine (alive10 _).mono ?_
    rintro e w1 ⟨rfl, b1⟩
    go_wp2
    go_ret
    exact ⟨rfl, bel_new b1⟩
  · have hx : (c0.right = true ∧ c0.put.size = 18 + c0.key.size + c0.value.size ∧ c0.put.data.toList.getD 0 0 = byteOf c0.op 0) ∨ (c0.right = false ∧ c0.put = ⟨#[]⟩) := by
      by_cases hr : c0.Right
      · refine Or.inl ⟨decide_eq_true hr, Cmd.put_size hr, ?_⟩
        rw [Cmd.put_yes hr, str_data]
        rfl
      · exact Or.inr ⟨decide_eq_false hr, Cmd.put_no hr⟩
    obtain ⟨op, key, value, num, ver⟩ := c0
    simp only [Cmd.v] at *
    have d0 : decide (100 < (key.size : Int)) = false := decide_eq_false (by omega)
    have d2 : decide (600 < (value.size : Int)) = false := decide_eq_false (by omega)
    generalize Cmd.put ⟨op, key, value, num, ver⟩ = S at *
    generalize Cmd.right ⟨op, key, value, num, ver⟩ = x at *
    have PP2 : Hid _ := PP
    have PR2 : Hid _ := PR
    have HROW : Hid _ := hrow
    have HX : Hid _ := hx
    clear PP PR hrow hx wo wk wv wn we
    go_enter Try.func6, Try.ntmps6
    go_wp2_with fail
    have r0 := HROW.out w
    with_reducible refine (alive10 _).mono ?_
    rintro e w1 ⟨rfl, b1⟩
    have r1 := r0.below b1
    obtain ⟨c0, c1, c2, c3, c4⟩ := r1.cells
    replace c0 : w1.cell? ⟨w.heap.size, 0, none⟩ = some (.int .i64 op) := c0
    replace c1 : w1.cell? ⟨w.heap.size, 1, none⟩ = some (.string key) := c1
    replace c2 : w1.cell? ⟨w.heap.size, 2, none⟩ = some (.string value) := c2
    replace c3 : w1.cell? ⟨w.heap.size, 3, none⟩ = some (.int .i64 num) := c3
    replace c4 : w1.cell? ⟨w.heap.size, 4, none⟩ = some (.int .i64 ver) := c4
    replace b1 := bel_new b1
    clear r0
    go_wp2_with fail
    with_reducible refine (PP2.out _).mono ?_
    rintro e w2 ⟨rfl, b2⟩
    replace b1 := bel_chain8 b1 b2
    obtain ⟨k0, k1, k2, k3, k4⟩ := (r1.below b2).cells
    replace k0 : w2.cell? ⟨w.heap.size, 0, none⟩ = some (.int .i64 op) := k0
    replace k1 : w2.cell? ⟨w.heap.size, 1, none⟩ = some (.string key) := k1
    replace k2 : w2.cell? ⟨w.heap.size, 2, none⟩ = some (.string value) := k2
    replace k3 : w2.cell? ⟨w.heap.size, 3, none⟩ = some (.int .i64 num) := k3
    replace k4 : w2.cell? ⟨w.heap.size, 4, none⟩ = some (.int .i64 ver) := k4
    clear r1 b2 c0 c1 c2 c3 c4
    rcases HX.out with ⟨rfl, hs, hb⟩ | ⟨rfl, rfl⟩
    · have s0 : 0 < S.size := by omega
      have s1 : (0 : Int) < (S.size : Int) := by omega
      have s2 := str_at10 S 0 s0
      rw [hb] at s2
      have s3 : IntKind.i64.wrap (18 + (key.size : Int)) = 18 + (key.size : Int) := by rw [IntKind.wrap_i64]; omega
      have s4 : IntKind.i64.wrap (18 + (key.size : Int) + (value.size : Int)) = 18 + (key.size : Int) + (value.size : Int) := by rw [IntKind.wrap_i64]; omega
      have s5 : ((S.size : Int) == 18 + (key.size : Int) + (value.size : Int)) = true := by simp; omega
      have s6 := u8_byte op
      clear HX HROW PR2 PP2 hb
      have b : Below w2.heap.size w2 w2.drew := (Below.refl _ _).drew
      go_wp2_with fail
      go_region_held3 (fun w' => w'.cell? ⟨w.heap.size, 0, none⟩ = some (.int .i64 op) ∧ w'.cell? ⟨w.heap.size, 1, none⟩ = some (.string key) ∧ w'.cell? ⟨w.heap.size, 2, none⟩ = some (.string value)) (exact ⟨cell_belowB b k0, cell_belowB b k1, cell_belowB b k2⟩) (fail)
      all_goals
        go_wp2
        go_ret
        exact ⟨rfl, bel_chain8 b1 b⟩
    · have e4 := str_beq_self ⟨#[]⟩
      go_wp2_with fail
      with_reducible refine (PR2.out _).mono ?_
      rintro e w3 ⟨rfl, b3⟩
      go_wp2
      go_ret
      exact ⟨rfl, bel_chain8 b1 b3⟩

set_option maxRecDepth 100000 in
theorem lifted (os : Os) (started : os.Started) (H : Type) (enc : TypeId × Value → H) :
    ReturnsInHanded {} Try.checked os 6 .any (Rows.commandSizesSpec.pre6 enc Try.prog Try.f6 Rows.commandSizesRow.domain false) (Rows.commandSizesSpec.post enc Try.prog Try.f6 false true false false) := by
  refine returnsInHanded_of_change (C := Try.checked) own started (by kernel_rfl) Try.func6
    (ChangeSpec.witness6 (enc := enc) (C := Try.checked) false ⟨#[], #[.agg #[.int .i64 0, .string ByteArray.empty, .string ByteArray.empty, .int .i64 0, .int .i64 0]], []⟩ 8 (by kernel_rfl) (by kernel_rfl) (by kernel_rfl) (by kernel_rfl)) ?_
  intro W base args ds gs before hval0 hW hcnd _
  have hval : ∀ (j : Nat) t v, Try.f6.params[j]? = some t → args[j]? = some v → Value.okWide Try.prog W .any base t v := hval0
  have hW' := hW
  obtain ⟨p, q, hA0, hV, rfl, hfz, hnd⟩ := hW
  have hA : DataW.TrodAll enc Try.prog W 0 (fun _ => true) true Try.f6.params.toList args.toList ds p := hA0
  rw [Try.params6] at hA hval
  obtain ⟨v0, vs0, d0, ds0, p0, q0, hargs, rfl, rfl, h0, r0⟩ := trodAll_cons hA
  obtain ⟨rfl, rfl, rfl⟩ := trodAll_nil r0
  obtain rfl : args = #[v0] := by cases args; simp_all
  obtain ⟨rfl, rfl⟩ := trodVars_none hV
  have h0k := h0
  have hlt0 : ∀ x ∈ p0, x.block < W.heap.size := fun x hx => by simpa using hW'.lt x (by simp [hx])
  obtain ⟨c0, rfl, w0⟩ := cmd_open (hval 0 23 v0 rfl rfl) h0
  clear hA0 hval0
  simp only [List.append_nil] at hW'
  refine (walk c0 w0 W ).mono fun e W' ⟨he, hg⟩ => ?_
  subst he
  exact ⟨_, rfl, _, _, _, _, _, _, hW', (trodAll_cons_mk (shut_bool Try.underlying4 _) trodAll_mk0), (trodAll_cons_mk (Below.trod laidOut (by kernel_rfl) (of_decide_eq_true (by kernel_rfl)) h0k hg hlt0) trodAll_mk0), rfl, hg.frame _, fun h => by cases h⟩

theorem over : Rows.commandSizesRow.holds Try.pinned (OpenSpec.ofChange Rows.commandSizesSpec) :=
  OpenClaim.holds_of_wide 6 Try.f6 rfl rfl rfl rfl rfl rfl rfl ⟨rfl, rfl, rfl, rfl, rfl⟩ rfl rfl rfl rfl rfl (by kernel_rfl) Try.func6 (by kernel_rfl)
    (of_decide_eq_true (by kernel_rfl)) (by unfold Func.isWrapper; first | (rw [if_pos (by decide +kernel)]; kernel_rfl) | (rw [if_neg (by decide +kernel)]; exact ⟨rfl, rfl⟩))
    (fun os started H enc _ => lifted os started H enc)

theorem proved : Rows.CommandSizesSaid :=
  over
#print axioms proved
end Go.Proofs.Ytogfobmbmimpgaa.commandSizes
