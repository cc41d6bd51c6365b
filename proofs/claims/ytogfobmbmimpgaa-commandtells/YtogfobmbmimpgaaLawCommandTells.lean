/- Promises P1001 and P1002: for every command c, text b and number op the law CommandTells answers true at the landed code: Put, Get, Right, Class and Name tell the document's own reckoning (the reference), and Get tells the command of which the bytes are Put. No condition; longer keys, values and texts the law itself lets by. -/
import Derived.Test.YtogfobmbmimpgaaRows
import Derived.WalkKit
import Derived.ProofKit
import Derived.OpenShut
import Derived.ShutString
import Derived.Carry
import Derived.Test.YtogfobmbmimpgaaStrs0
import Derived.Test.YtogfobmbmimpgaaAlive10
import Derived.Test.YtogfobmbmimpgaaOpn0
import Derived.Test.YtogfobmbmimpgaaRfC2
import Derived.Test.YtogfobmbmimpgaaRfC3
namespace Go.Proofs.Ytogfobmbmimpgaa.commandTells
open Go.ChangeShapes Go.WideShapes Go.ChangeAt Go.RowKit
open Go.ChangeMaps (open_string shut_string)
set_option linter.unusedVariables false
set_option maxRecDepth 100000

theorem own : ownKnob Try.prog.godebug = none := by kernel_rfl
theorem laidOut : laidOutB Try.prog = true := by kernel_rfl

set_option maxHeartbeats 4000000 in
set_option maxRecDepth 100000 in
theorem walk (c0 : Cmd) (w0 : c0.Wide) (a1 : ByteArray) (w1 : a1.size ≤ maxLen) (a2 : Int) (w2 : (Lit.int .i64 a2).wf = true) (w : World) :
    Calls Try.prog 3 #[c0.v, .string a1, .int .i64 a2] w fun e w' => e = .returned (.bool true) ∧ Below w.heap.size w w' := by
  obtain ⟨wo, wk, wv, wn, we⟩ := w0
  unfold maxLen at wk wv w1
  have hbig : 300 < c0.key.size ∨ ¬ 300 < c0.key.size ∧ 1000 < c0.value.size ∨ (¬ 300 < c0.key.size ∧ ¬ 1000 < c0.value.size) ∧ 1000 < a1.size ∨ (¬ 300 < c0.key.size ∧ ¬ 1000 < c0.value.size) ∧ ¬ 1000 < a1.size := by omega
  rcases hbig with h1 | ⟨h1, h2⟩ | ⟨⟨h1, h2⟩, h3⟩ | ⟨⟨h1, h2⟩, h3⟩
  · obtain ⟨op, key, value, num, ver⟩ := c0
    simp only [Cmd.v] at *
    have d0 : decide (300 < (key.size : Int)) = true := decide_eq_true (by omega)
    clear wo wk wv wn we
    go_enter Try.func3, Try.ntmps3
    go_wp2_with fail
    with_reducible refine (alive10 _).mono ?_
    rintro e w1 ⟨rfl, b1⟩
    go_wp2
    go_ret
    exact ⟨rfl, bel_new b1⟩
  · obtain ⟨op, key, value, num, ver⟩ := c0
    simp only [Cmd.v] at *
    have d0 : decide (300 < (key.size : Int)) = false := decide_eq_false (by omega)
    have d2 : decide (1000 < (value.size : Int)) = true := decide_eq_true (by omega)
    clear wo wk wv wn we
    go_enter Try.func3, Try.ntmps3
    go_wp2_with fail
    with_reducible refine (alive10 _).mono ?_
    rintro e w1 ⟨rfl, b1⟩
    go_wp2
    go_ret
    exact ⟨rfl, bel_new b1⟩
  · obtain ⟨op, key, value, num, ver⟩ := c0
    simp only [Cmd.v] at *
    have d0 : decide (300 < (key.size : Int)) = false := decide_eq_false (by omega)
    have d2 : decide (1000 < (value.size : Int)) = false := decide_eq_false (by omega)
    have d3 : decide (1000 < (a1.size : Int)) = true := decide_eq_true (by omega)
    clear wo wk wv wn we
    go_enter Try.func3, Try.ntmps3
    go_wp2_with fail
    with_reducible refine (alive10 _).mono ?_
    rintro e w1 ⟨rfl, b1⟩
    go_wp2
    go_ret
    exact ⟨rfl, bel_new b1⟩
  have P1 := fun w => command_put c0 w (by unfold maxLen; omega)
  have Q1 := fun w => ref_put c0 w (by unfold maxLen; omega)
  have PR0 := fun w => command_right c0 w (by unfold maxLen; omega)
  have QR0 := fun w => ref_command c0 w (by unfold maxLen; omega)
  have P2 := fun w => command_get a1 w (by omega)
  have Q2 := fun w => ref_get a1 w (by omega)
  have PC : Hid _ := fun w => command_class a2 w
  have QC : Hid _ := fun w => ref_class a2 w
  have PN : Hid _ := fun w => command_name a2 w
  have QN : Hid _ := fun w => ref_name a2 w
  have hrow := fun w => CmdIs.new w c0
  have hrow2 := fun w => CmdIs.new w (getC a1)
  have hx : c0.put.size ≤ 1000000 ∧ ((c0.right = true ∧ getC c0.put = c0 ∧ getOk c0.put = true) ∨ (c0.right = false ∧ getC c0.put = Cmd.zero ∧ getOk c0.put = false)) := by
    by_cases hr : c0.Right
    · have := get_put hr
      exact ⟨by rw [Cmd.put_size hr]; have := hr.2.2.1; have := hr.2.2.2.1; omega, Or.inl ⟨decide_eq_true hr, this.2.1, this.2.2⟩⟩
    · have hn : ¬ isCmd ⟨#[]⟩ := fun h => absurd h.1 (by show ¬ 18 + _ ≤ 0; omega)
      rw [Cmd.put_no hr]
      exact ⟨Nat.zero_le _, Or.inr ⟨decide_eq_false hr, (get_no hn).1, (get_no hn).2⟩⟩
  have P3 := fun w => command_get c0.put w hx.1
  have hx2 := hx.2
  clear hx
  generalize getC a1 = cc at *
  generalize getOk a1 = Y at *
  generalize classN a2 = C at *
  generalize nameS a2 = N at *
  obtain ⟨dop, dkey, dvalue, dnum, dver⟩ := cc
  have hx3 : (c0.right = true ∧ ∀ w, Calls Try.prog 12 #[.string c0.put] w fun e w5 => e = .returned (.tuple #[c0.v, .bool true]) ∧ Below w.heap.size w w5) ∨ (c0.right = false ∧ ∀ w, Calls Try.prog 12 #[.string c0.put] w fun e w5 => e = .returned (.tuple #[.agg #[.int .i64 0, .string ⟨#[]⟩, .string ⟨#[]⟩, .int .i64 0, .int .i64 0], .bool false]) ∧ Below w.heap.size w w5) := by
    rcases hx2 with ⟨h, g1, g2⟩ | ⟨h, g1, g2⟩
    · rw [g1, g2] at P3
      exact Or.inl ⟨h, P3⟩
    · rw [g1, g2] at P3
      exact Or.inr ⟨h, P3⟩
  clear P3 hx2
  obtain ⟨op, key, value, num, ver⟩ := c0
  simp only [Cmd.v] at *
  have d0 : decide (300 < (key.size : Int)) = false := decide_eq_false (by omega)
  have d2 : decide (1000 < (value.size : Int)) = false := decide_eq_false (by omega)
  have d3 : decide (1000 < (a1.size : Int)) = false := decide_eq_false (by omega)
  generalize Cmd.put ⟨op, key, value, num, ver⟩ = S at *
  generalize Cmd.right ⟨op, key, value, num, ver⟩ = X at *
  have P1H : Hid _ := P1
  have Q1H : Hid _ := Q1
  have P2H : Hid _ := P2
  have Q2H : Hid _ := Q2
  have PR : Hid _ := PR0
  have QR : Hid _ := QR0
  have HROW : Hid _ := hrow
  have HROW2 : Hid _ := hrow2
  have HX : Hid _ := hx3
  have e1 := str_beq_self S
  have e2 := str_beq_self N
  have e3 := str_beq_self dkey
  have e4 := str_beq_self dvalue
  have e5 := str_beq_self key
  have e6 := str_beq_self value
  clear P1 Q1 P2 Q2 PR0 QR0 hrow hrow2 hx3 wo wk wv wn we h1 h2 h3
  go_enter Try.func3, Try.ntmps3
  go_wp2_with fail
  have rc := HROW.out w
  with_reducible refine (alive10 _).mono ?_
  rintro e w1 ⟨rfl, b1⟩
  replace rc := rc.below b1
  have B := bel_new b1
  clear b1
  obtain ⟨c0, c1, c2, c3, c4⟩ := rc.cells
  replace c0 : w1.cell? ⟨w.heap.size, 0, none⟩ = some (.int .i64 op) := c0
  replace c1 : w1.cell? ⟨w.heap.size, 1, none⟩ = some (.string key) := c1
  replace c2 : w1.cell? ⟨w.heap.size, 2, none⟩ = some (.string value) := c2
  replace c3 : w1.cell? ⟨w.heap.size, 3, none⟩ = some (.int .i64 num) := c3
  replace c4 : w1.cell? ⟨w.heap.size, 4, none⟩ = some (.int .i64 ver) := c4
  go_wp2_with fail
  with_reducible refine (P1H.out _).mono ?_
  rintro e w2 ⟨rfl, b2⟩
  replace rc := rc.below b2
  replace B := bel_chain8 B b2
  clear b2 c0 c1 c2 c3 c4
  obtain ⟨c0, c1, c2, c3, c4⟩ := rc.cells
  replace c0 : w2.cell? ⟨w.heap.size, 0, none⟩ = some (.int .i64 op) := c0
  replace c1 : w2.cell? ⟨w.heap.size, 1, none⟩ = some (.string key) := c1
  replace c2 : w2.cell? ⟨w.heap.size, 2, none⟩ = some (.string value) := c2
  replace c3 : w2.cell? ⟨w.heap.size, 3, none⟩ = some (.int .i64 num) := c3
  replace c4 : w2.cell? ⟨w.heap.size, 4, none⟩ = some (.int .i64 ver) := c4
  go_wp2_with fail
  with_reducible refine (Q1H.out _).mono ?_
  rintro e w2' ⟨rfl, b2⟩
  replace rc := rc.below b2
  replace B := bel_chain8 B b2
  clear b2 c0 c1 c2 c3 c4
  go_wp2_with fail
  with_reducible refine (P2H.out _).mono ?_
  rintro e w3 ⟨rfl, b3⟩
  replace rc := (rc.below b3).alloc (.cells #[.int .i64 dop, .string dkey, .string dvalue, .int .i64 dnum, .int .i64 dver] 23)
  replace B := bel_chain8 (bel_chain8 B b3) ((Below.refl _ w3).alloc (Nat.le_refl _) (.cells #[.int .i64 dop, .string dkey, .string dvalue, .int .i64 dnum, .int .i64 dver] 23))
  have rd := HROW2.out w3
  clear b3
  go_wp2_with fail
  with_reducible refine (Q2H.out _).mono ?_
  rintro e w4 ⟨rfl, b4⟩
  replace rc := (rc.below b4).alloc (.cells #[.int .i64 dop, .string dkey, .string dvalue, .int .i64 dnum, .int .i64 dver] 23)
  replace rd := (rd.below b4).alloc (.cells #[.int .i64 dop, .string dkey, .string dvalue, .int .i64 dnum, .int .i64 dver] 23)
  replace B := bel_chain8 (bel_chain8 B b4) ((Below.refl _ w4).alloc (Nat.le_refl _) (.cells #[.int .i64 dop, .string dkey, .string dvalue, .int .i64 dnum, .int .i64 dver] 23))
  have re := HROW2.out w4
  clear b4
  go_wp2_with fail
  generalize w4.alloc (.cells #[.int .i64 dop, .string dkey, .string dvalue, .int .i64 dnum, .int .i64 dver] 23) = w5 at *
  obtain ⟨c0, c1, c2, c3, c4⟩ := rc.cells
  replace c0 : w5.cell? ⟨w.heap.size, 0, none⟩ = some (.int .i64 op) := c0
  replace c1 : w5.cell? ⟨w.heap.size, 1, none⟩ = some (.string key) := c1
  replace c2 : w5.cell? ⟨w.heap.size, 2, none⟩ = some (.string value) := c2
  replace c3 : w5.cell? ⟨w.heap.size, 3, none⟩ = some (.int .i64 num) := c3
  replace c4 : w5.cell? ⟨w.heap.size, 4, none⟩ = some (.int .i64 ver) := c4
  obtain ⟨d0', d1', d2', d3', d4'⟩ := rd.cells
  obtain ⟨e0', e1', e2', e3', e4'⟩ := re.cells
  have dd0 : w5.cell? ⟨w3.heap.size, 0, none⟩ = some (.int .i64 dop) := d0'
  have dd1 : w5.cell? ⟨w3.heap.size, 1, none⟩ = some (.string dkey) := d1'
  have dd2 : w5.cell? ⟨w3.heap.size, 2, none⟩ = some (.string dvalue) := d2'
  have dd3 : w5.cell? ⟨w3.heap.size, 3, none⟩ = some (.int .i64 dnum) := d3'
  have dd4 : w5.cell? ⟨w3.heap.size, 4, none⟩ = some (.int .i64 dver) := d4'
  have ed0 : w5.cell? ⟨w4.heap.size, 0, none⟩ = some (.int .i64 dop) := e0'
  have ed1 : w5.cell? ⟨w4.heap.size, 1, none⟩ = some (.string dkey) := e1'
  have ed2 : w5.cell? ⟨w4.heap.size, 2, none⟩ = some (.string dvalue) := e2'
  have ed3 : w5.cell? ⟨w4.heap.size, 3, none⟩ = some (.int .i64 dnum) := e3'
  have ed4 : w5.cell? ⟨w4.heap.size, 4, none⟩ = some (.int .i64 dver) := e4'
  clear d0' d1' d2' d3' d4' e0' e1' e2' e3' e4'
  have b : Below w5.heap.size w5 w5.drew := (Below.refl _ _).drew
  have rcH := hide rc
  clear rd re rc
  go_region_held3 (fun w' => w'.cell? ⟨w.heap.size, 0, none⟩ = some (.int .i64 op) ∧ w'.cell? ⟨w.heap.size, 1, none⟩ = some (.string key) ∧ w'.cell? ⟨w.heap.size, 2, none⟩ = some (.string value) ∧ w'.cell? ⟨w.heap.size, 3, none⟩ = some (.int .i64 num) ∧ w'.cell? ⟨w.heap.size, 4, none⟩ = some (.int .i64 ver) ∧ w'.cell? ⟨w3.heap.size, 0, none⟩ = some (.int .i64 dop) ∧ w'.cell? ⟨w3.heap.size, 1, none⟩ = some (.string dkey) ∧ w'.cell? ⟨w3.heap.size, 2, none⟩ = some (.string dvalue) ∧ w'.cell? ⟨w3.heap.size, 3, none⟩ = some (.int .i64 dnum) ∧ w'.cell? ⟨w3.heap.size, 4, none⟩ = some (.int .i64 dver) ∧ w'.cell? ⟨w4.heap.size, 0, none⟩ = some (.int .i64 dop) ∧ w'.cell? ⟨w4.heap.size, 1, none⟩ = some (.string dkey) ∧ w'.cell? ⟨w4.heap.size, 2, none⟩ = some (.string dvalue) ∧ w'.cell? ⟨w4.heap.size, 3, none⟩ = some (.int .i64 dnum) ∧ w'.cell? ⟨w4.heap.size, 4, none⟩ = some (.int .i64 dver)) (exact ⟨cell_belowB b c0, cell_belowB b c1, cell_belowB b c2, cell_belowB b c3, cell_belowB b c4, cell_belowB b dd0, cell_belowB b dd1, cell_belowB b dd2, cell_belowB b dd3, cell_belowB b dd4, cell_belowB b ed0, cell_belowB b ed1, cell_belowB b ed2, cell_belowB b ed3, cell_belowB b ed4⟩) (first | (go_at_call 14; (with_reducible refine (PR.out _).mono ?_); rintro e w9 ⟨rfl, b9⟩; replace b := bel_chain8 b b9; clear b9) | (go_at_call 15; (with_reducible refine (QR.out _).mono ?_); rintro e w9 ⟨rfl, b9⟩; replace b := bel_chain8 b b9; clear b9) | (go_at_call 16; (with_reducible refine (PC.out _).mono ?_); rintro e w9 ⟨rfl, rfl⟩) | (go_at_call 17; (with_reducible refine (QC.out _).mono ?_); rintro e w9 ⟨rfl, rfl⟩) | (go_at_call 18; (with_reducible refine (PN.out _).mono ?_); rintro e w9 ⟨rfl, b9⟩; replace b := bel_chain8 b b9; clear b9) | (go_at_call 19; (with_reducible refine (QN.out _).mono ?_); rintro e w9 ⟨rfl, b9⟩; replace b := bel_chain8 b b9; clear b9))
  all_goals
    have r9 := CmdIs.below rcH.out b
    have B9 := bel_chain8 B b
    clear b rcH B c0 c1 c2 c3 c4 dd0 dd1 dd2 dd3 dd4 ed0 ed1 ed2 ed3 ed4
    rcases HX.out with ⟨rfl, PG⟩ | ⟨rfl, PG⟩
    all_goals
      go_wp2_with fail
      with_reducible refine (PG _).mono ?_
      rintro e w10 ⟨rfl, b10⟩
      obtain ⟨c0, c1, c2, c3, c4⟩ := (CmdIs.below r9 b10).cells
      replace c0 : w10.cell? ⟨w.heap.size, 0, none⟩ = some (.int .i64 op) := c0
      replace c1 : w10.cell? ⟨w.heap.size, 1, none⟩ = some (.string key) := c1
      replace c2 : w10.cell? ⟨w.heap.size, 2, none⟩ = some (.string value) := c2
      replace c3 : w10.cell? ⟨w.heap.size, 3, none⟩ = some (.int .i64 num) := c3
      replace c4 : w10.cell? ⟨w.heap.size, 4, none⟩ = some (.int .i64 ver) := c4
      have hlt : w.heap.size < w10.heap.size := (CmdIs.below r9 b10).lt
      clear r9
      go_wp2
      go_ret
      exact ⟨rfl, bel_chain8 (bel_chain8 B9 b10) ((Below.refl _ _).alloc (Nat.le_refl _) _)⟩

set_option maxRecDepth 100000 in
theorem lifted (os : Os) (started : os.Started) (H : Type) (enc : TypeId × Value → H) :
    ReturnsInHanded {} Try.checked os 3 .any (Rows.commandTellsSpec.pre6 enc Try.prog Try.f3 Rows.commandTellsRow.domain false) (Rows.commandTellsSpec.post enc Try.prog Try.f3 false true false false) := by
  refine returnsInHanded_of_change (C := Try.checked) own started (by kernel_rfl) Try.func3
    (ChangeSpec.witness6 (enc := enc) (C := Try.checked) false ⟨#[], #[.agg #[.int .i64 0, .string ByteArray.empty, .string ByteArray.empty, .int .i64 0, .int .i64 0], .string ByteArray.empty, .int .i64 0], []⟩ 8 (by kernel_rfl) (by kernel_rfl) (by kernel_rfl) (by kernel_rfl)) ?_
  intro W base args ds gs before hval0 hW hcnd _
  have hval : ∀ (j : Nat) t v, Try.f3.params[j]? = some t → args[j]? = some v → Value.okWide Try.prog W .any base t v := hval0
  have hW' := hW
  obtain ⟨p, q, hA0, hV, rfl, hfz, hnd⟩ := hW
  have hA : DataW.TrodAll enc Try.prog W 0 (fun _ => true) true Try.f3.params.toList args.toList ds p := hA0
  rw [Try.params3] at hA hval
  obtain ⟨v0, vs0, d0, ds0, p0, q0, hargs, rfl, rfl, h0, r0⟩ := trodAll_cons hA
  obtain ⟨v1, vs1, d1, ds1, p1, q1, rfl, rfl, rfl, h1, r1⟩ := trodAll_cons r0
  obtain ⟨v2, vs2, d2, ds2, p2, q2, rfl, rfl, rfl, h2, r2⟩ := trodAll_cons r1
  obtain ⟨rfl, rfl, rfl⟩ := trodAll_nil r2
  obtain rfl : args = #[v0, v1, v2] := by cases args; simp_all
  obtain ⟨rfl, rfl⟩ := trodVars_none hV
  have h0k := h0
  have hlt0 : ∀ x ∈ p0, x.block < W.heap.size := fun x hx => by simpa using hW'.lt x (by simp [hx])
  obtain ⟨c0, rfl, w0⟩ := cmd_open (hval 0 23 v0 rfl rfl) h0
  obtain ⟨a1, rfl, rfl, rfl, w1⟩ := open_string Try.underlying9 (hval 1 9 v1 rfl rfl) h1
  obtain ⟨a2, rfl, rfl, rfl, w2⟩ := open_int Try.underlying3 (hval 2 3 v2 rfl rfl) h2
  clear hA0 hval0
  simp only [List.append_nil] at hW'
  refine (walk c0 w0 a1 w1 a2 w2 W ).mono fun e W' ⟨he, hg⟩ => ?_
  subst he
  exact ⟨_, rfl, _, _, _, _, _, _, hW', (trodAll_cons_mk (shut_bool Try.underlying4 _) trodAll_mk0), (trodAll_cons_mk (Below.trod laidOut (by kernel_rfl) (of_decide_eq_true (by kernel_rfl)) h0k hg hlt0) (trodAll_cons_mk (shut_string Try.underlying9 w1) (trodAll_cons_mk (shut_int Try.underlying3 w2) trodAll_mk0))), rfl, hg.frame _, fun h => by cases h⟩

theorem over : Rows.commandTellsRow.holds Try.pinned (OpenSpec.ofChange Rows.commandTellsSpec) :=
  OpenClaim.holds_of_wide 3 Try.f3 rfl rfl rfl rfl rfl rfl rfl ⟨rfl, rfl, rfl, rfl, rfl⟩ rfl rfl rfl rfl rfl (by kernel_rfl) Try.func3 (by kernel_rfl)
    (of_decide_eq_true (by kernel_rfl)) (by unfold Func.isWrapper; first | (rw [if_pos (by decide +kernel)]; kernel_rfl) | (rw [if_neg (by decide +kernel)]; exact ⟨rfl, rfl⟩))
    (fun os started H enc _ => lifted os started H enc)

theorem proved : Rows.CommandTellsSaid :=
  over
#print axioms proved
end Go.Proofs.Ytogfobmbmimpgaa.commandTells
