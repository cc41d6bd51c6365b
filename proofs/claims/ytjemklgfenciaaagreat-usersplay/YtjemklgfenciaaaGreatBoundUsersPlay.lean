/- Promises P1401, P1402: for every list of users l, every raw, every list ops of things that are done and every number ask the law UsersPlay answers true at the landed code: users that may be are taken and no others; behind each thing that is done, in every order and at every time, who is locked out and whose failures are counted are the document's; the lists of names that were told can be kept, marked and grown apart. No condition; longer lists the law itself lets by. -/
import Derived.Test.YtjemklgfenciaaaGreatRows
import Derived.WalkKit
import Derived.ProofKit
import Derived.OpenShut
import Derived.ShutString
import Derived.Carry
import Derived.Test.YtjemklgfenciaaaGreatBun13
import Derived.Test.YtjemklgfenciaaaGreatBun32
import Derived.Test.YtjemklgfenciaaaGreatBun33
import Derived.Test.YtjemklgfenciaaaGreatBun24
namespace Go.Proofs.YtjemklgfenciaaaGreat.usersPlay
open Go.ChangeShapes Go.WideShapes Go.ChangeAt Go.RowKit
open Go.ChangeMaps (open_string shut_string)
set_option linter.unusedVariables false
set_option maxRecDepth 100000

theorem own : ownKnob Tryz.prog.godebug = none := by kernel_rfl
theorem laidOut : laidOutB Tryz.prog = true := by kernel_rfl

set_option maxHeartbeats 4000000 in
set_option maxRecDepth 100000 in
theorem walk (o0 : Option Addr) (n0 c0 : Nat) (X0 : Nat → ByteArray × ByteArray) (l0 : n0 ≤ maxLen) (a1 : Bool) (o2 : Option Addr) (n2 c2 : Nat) (X2 : Nat → Uop) (l2 : n2 ≤ maxLen) (a3 : Int) (w3 : (Lit.int .i64 a3).wf = true) (w : World) (s0 : PairsAt w o0 n0 X0) (i0 : ∀ i, i < n0 → (X0 i).1.size ≤ maxLen ∧ (X0 i).2.size ≤ maxLen) (z0 : o0 = none → c0 = 0 ∧ n0 = 0) (s2 : UopsAt w o2 n2 X2) (i2 : ∀ i, i < n2 → (X2 i).Wide) :
    Calls Tryz.prog 3 #[.slice o0 n0 c0, .bool a1, .slice o2 n2 c2, .int .i64 a3] w fun e w' => e = .returned (.bool true) ∧ Below w.heap.size w w' := by
  exact usersPlay_of usersKeeps o0 n0 c0 X0 a1 o2 n2 c2 X2 a3 w (bounds_i64 w3) s0 i0 z0 s2 i2

set_option maxRecDepth 100000 in
theorem lifted (os : Os) (started : os.Started) (H : Type) (enc : TypeId × Value → H) :
    ReturnsInHanded {} Tryz.checked os 3 .any (Rows.usersPlaySpec.pre6 enc Tryz.prog Tryz.f3 Rows.usersPlayRow.domain false) (Rows.usersPlaySpec.post enc Tryz.prog Tryz.f3 false true false false) := by
  refine returnsInHanded_of_change (C := Tryz.checked) own started (by kernel_rfl) Tryz.func3
    (ChangeSpec.witness6 (enc := enc) (C := Tryz.checked) false ⟨#[], #[.slice none 0 0, .bool false, .slice none 0 0, .int .i64 0], []⟩ 8 (by kernel_rfl) (by kernel_rfl) (by kernel_rfl) (by kernel_rfl)) ?_
  intro W base args ds gs before hval0 hW hcnd _
  have hval : ∀ (j : Nat) t v, Tryz.f3.params[j]? = some t → args[j]? = some v → Value.okWide Tryz.prog W .any base t v := hval0
  have hW' := hW
  obtain ⟨p, q, hA0, hV, rfl, hfz, hnd⟩ := hW
  have hA : DataW.TrodAll enc Tryz.prog W 0 (fun _ => true) true Tryz.f3.params.toList args.toList ds p := hA0
  rw [Tryz.params3] at hA hval
  obtain ⟨v0, vs0, d0, ds0, p0, q0, hargs, rfl, rfl, h0, r0⟩ := trodAll_cons hA
  obtain ⟨v1, vs1, d1, ds1, p1, q1, rfl, rfl, rfl, h1, r1⟩ := trodAll_cons r0
  obtain ⟨v2, vs2, d2, ds2, p2, q2, rfl, rfl, rfl, h2, r2⟩ := trodAll_cons r1
  obtain ⟨v3, vs3, d3, ds3, p3, q3, rfl, rfl, rfl, h3, r3⟩ := trodAll_cons r2
  obtain ⟨rfl, rfl, rfl⟩ := trodAll_nil r3
  obtain rfl : args = #[v0, v1, v2, v3] := by cases args; simp_all
  obtain ⟨rfl, rfl⟩ := trodVars_none hV
  have h0k := h0
  have hlt0 : ∀ x ∈ p0, x.block < W.heap.size := fun x hx => by simpa using hW'.lt x (by simp [hx])
  obtain ⟨o0, n0, c0, X0, rfl, l0, s0, i0, z0⟩ := pairs_open (hval 0 22 v0 rfl rfl) h0
  obtain ⟨a1, rfl, rfl, rfl⟩ := open_bool Tryz.underlying4 (hval 1 4 v1 rfl rfl) h1
  have h2k := h2
  have hlt2 : ∀ x ∈ p2, x.block < W.heap.size := fun x hx => by simpa using hW'.lt x (by simp [hx])
  obtain ⟨o2, n2, c2, X2, rfl, l2, s2, i2⟩ := uops_open (hval 2 23 v2 rfl rfl) h2
  obtain ⟨a3, rfl, rfl, rfl, w3⟩ := open_int Tryz.underlying3 (hval 3 3 v3 rfl rfl) h3
  clear hA0 hval0
  simp only [List.append_nil] at hW'
  refine (walk o0 n0 c0 X0 l0 a1 o2 n2 c2 X2 l2 a3 w3 W s0 i0 z0 s2 i2).mono fun e W' ⟨he, hg⟩ => ?_
  subst he
  exact ⟨_, rfl, _, _, _, _, _, _, hW', (trodAll_cons_mk (shut_bool Tryz.underlying4 _) trodAll_mk0), (trodAll_cons_mk (Below.trod laidOut (by kernel_rfl) (of_decide_eq_true (by kernel_rfl)) h0k hg hlt0) (trodAll_cons_mk (shut_bool Tryz.underlying4 a1) (trodAll_cons_mk (Below.trod laidOut (by kernel_rfl) (of_decide_eq_true (by kernel_rfl)) h2k hg hlt2) (trodAll_cons_mk (shut_int Tryz.underlying3 w3) trodAll_mk0)))), rfl, hg.frame _, fun h => by cases h⟩

theorem over : Rows.usersPlayRow.holds Tryz.pinned (OpenSpec.ofChange Rows.usersPlaySpec) :=
  OpenClaim.holds_of_wide 3 Tryz.f3 rfl rfl rfl rfl rfl rfl rfl ⟨rfl, rfl, rfl, rfl, rfl⟩ rfl rfl rfl rfl rfl (by kernel_rfl) Tryz.func3 (by kernel_rfl)
    (of_decide_eq_true (by kernel_rfl)) (by unfold Func.isWrapper; first | (rw [if_pos (by decide +kernel)]; kernel_rfl) | (rw [if_neg (by decide +kernel)]; exact ⟨rfl, rfl⟩))
    (fun os started H enc _ => lifted os started H enc)

theorem proved : Rows.UsersPlaySaid :=
  over
#print axioms proved
end Go.Proofs.YtjemklgfenciaaaGreat.usersPlay
