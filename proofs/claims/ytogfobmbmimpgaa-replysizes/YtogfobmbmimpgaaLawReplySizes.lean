/- Promise P1003: for every reply r the law ReplySizes answers true at the landed code: its bytes are those of its value and of its keys, one more a key, and twenty; of one that may not be put there are none. No condition; longer values, and more keys, the law itself lets by. -/
import Derived.Test.YtogfobmbmimpgaaRows
import Derived.WalkKit
import Derived.ProofKit
import Derived.OpenShut
import Derived.ShutString
import Derived.Carry
import Derived.Test.YtogfobmbmimpgaaStrs0
import Derived.Test.YtogfobmbmimpgaaAlive10
import Derived.Test.YtogfobmbmimpgaaRep2
namespace Go.Proofs.Ytogfobmbmimpgaa.replySizes
open Go.ChangeShapes Go.WideShapes Go.ChangeAt Go.RowKit
open Go.ChangeMaps (open_string shut_string)
set_option linter.unusedVariables false
set_option maxRecDepth 100000

theorem own : ownKnob Try.prog.godebug = none := by kernel_rfl
theorem laidOut : laidOutB Try.prog = true := by kernel_rfl

set_option maxHeartbeats 4000000 in
set_option maxRecDepth 100000 in
theorem walk (e0 : Int) (t0 : ByteArray) (m0 v0 : Int) (o0 : Option Addr) (n0 c0 : Nat) (L0 : Nat → List UInt8) (e0w : I64 e0) (t0w : t0.size ≤ maxLen) (m0w : I64 m0) (v0w : I64 v0) (l0 : n0 ≤ maxLen) (L0w : ∀ i, i < n0 → (L0 i).length ≤ maxLen) (w : World) (s0 : StrsAt w o0 n0 L0) :
    Calls Try.prog 8 #[.agg #[.int .i64 e0, .string t0, .int .i64 m0, .int .i64 v0, .slice o0 n0 c0]] w fun e w' => e = .returned (.bool true) ∧ Below w.heap.size w w' := by
  have hrow : RowIs (w.alloc (.cells #[.int .i64 e0, .string t0, .int .i64 m0, .int .i64 v0, .slice o0 n0 c0] 40)) w.heap.size 40 [.int .i64 e0, .string t0, .int .i64 m0, .int .i64 v0, .slice o0 n0 c0] := RowIs.new w _ _
  have hbel : Below w.heap.size w (w.alloc (.cells #[.int .i64 e0, .string t0, .int .i64 m0, .int .i64 v0, .slice o0 n0 c0] 40)) := (Below.refl _ _).alloc (Nat.le_refl _) _
  have PP : Hid (∀ w, StrsAt w o0 n0 L0 → _) := fun w hk => command_putReply e0 t0 m0 v0 o0 n0 c0 L0 w t0w l0 L0w hk
  have HKW : Hid (∀ w', Below w.heap.size w w' → StrsAt w' o0 n0 L0) := fun w' hb => s0.later hb
  have hx : (Rep.ok ⟨e0, t0, m0, v0, keysOf n0 L0⟩ = true ∧ shortTo L0 n0 ∧ (Rep.put ⟨e0, t0, m0, v0, keysOf n0 L0⟩).size = 20 + t0.size + keysN (keysOf n0 L0)) ∨ (Rep.ok ⟨e0, t0, m0, v0, keysOf n0 L0⟩ = false ∧ Rep.put ⟨e0, t0, m0, v0, keysOf n0 L0⟩ = ⟨#[]⟩) := by
    by_cases h : Rep.Ok ⟨e0, t0, m0, v0, keysOf n0 L0⟩
    · exact Or.inl ⟨decide_eq_true h, ((rep_ok_iff _ _ _ _ _ _).1 h).2.1, Rep.put_size h⟩
    · exact Or.inr ⟨decide_eq_false h, Rep.put_no h⟩
  have HX : Hid _ := hx
  have HLW : Hid _ := L0w
  clear hx s0 e0w m0w v0w L0w
  unfold maxLen at t0w l0
  have hbig : 600 < t0.size ∨ ¬ 600 < t0.size ∧ 60 < n0 ∨ ¬ 600 < t0.size ∧ ¬ 60 < n0 := by omega
  rcases hbig with h1 | ⟨h1, h2⟩ | ⟨h1, h2⟩
  · have d0 : decide (600 < (t0.size : Int)) = true := decide_eq_true (by omega)
    clear hrow hbel
    go_enter Try.func8, Try.ntmps8
    go_wp2_with fail
    with_reducible refine (alive10 _).mono ?_
    rintro e w1 ⟨rfl, b1⟩
    go_wp2
    go_ret
    exact ⟨rfl, bel_new b1⟩
  · have d0 : decide (600 < (t0.size : Int)) = false := decide_eq_false (by omega)
    have d1 : decide (60 < (n0 : Int)) = true := decide_eq_true (by omega)
    clear hrow hbel
    go_enter Try.func8, Try.ntmps8
    go_wp2_with fail
    with_reducible refine (alive10 _).mono ?_
    rintro e w1 ⟨rfl, b1⟩
    go_wp2
    go_ret
    exact ⟨rfl, bel_new b1⟩
  have d0 : decide (600 < (t0.size : Int)) = false := decide_eq_false (by omega)
  have d1 : decide (60 < (n0 : Int)) = false := decide_eq_false (by omega)
  have hn60 : n0 ≤ 60 := by omega
  have ht600 : t0.size ≤ 600 := by omega
  clear h1 h2 t0w l0
  go_enter Try.func8, Try.ntmps8
  go_wp2_with fail
  with_reducible refine (alive10 _).mono ?_
  rintro e w1 ⟨rfl, b1⟩
  have rr := hrow.below b1 hrow.lt
  replace b1 := bel_new b1
  have hk1 : Hid (StrsAt w1 o0 n0 L0) := HKW.out _ b1
  have q1 : w1.cell? ⟨w.heap.size, 1, none⟩ = some (.string t0) := rr.cellAt rfl
  have q4 : w1.cell? ⟨w.heap.size, 4, none⟩ = some (.slice o0 n0 c0) := rr.cellAt rfl
  have q0 : w1.cell? ⟨w.heap.size, 0, none⟩ = some (.int .i64 e0) := rr.cellAt rfl
  have q2 : w1.cell? ⟨w.heap.size, 2, none⟩ = some (.int .i64 m0) := rr.cellAt rfl
  have q3 : w1.cell? ⟨w.heap.size, 3, none⟩ = some (.int .i64 v0) := rr.cellAt rfl
  clear hrow hbel rr
  go_wp2_with fail
  go_loopw [30, 3] (fun i m wr => ∃ k : Nat, k ≤ n0 ∧ i = .int .i64 k ∧ wr = w1 ∧ ∃ M : Int, m = .int .i64 M ∧ (shortTo L0 k → M = 20 + (t0.size : Int) + (keysN ((keysOf n0 L0).take k) : Int))) (fun i _ _ => n0 - (intOf i).toNat)
  case atStart => exact ⟨0, Nat.zero_le _, rfl, rfl, _, rfl, fun _ => by simp [keysN]⟩
  case round =>
    obtain ⟨k, hk, rfl, rfl, M, rfl, hM⟩ := hrel
    by_cases hlt : k < n0
    · obtain ⟨bb, oo, rfl, hc⟩ := hk1.out k hlt
      have dlt : decide ((k : Int) < (n0 : Int)) = true := by simp; omega
      have g0 : (0 : Int) ≤ (k : Int) := by omega
      have g1 : (k : Int) < (n0 : Int) := by omega
      have hz : (str (L0 k)).size = (L0 k).length := str_size _
      have hkt := keysOf_take n0 L0 k hlt
      by_cases hsh : shortTo L0 (k + 1)
      · have hM2 := hM (fun i hi => hsh i (by omega))
        have hl := hsh k (by omega)
        have hkn : keysN ((keysOf n0 L0).take k) ≤ 61 * 60 := by
          have h6 := keysN_le 60 ((keysOf n0 L0).take k) (fun x hx => by
            obtain ⟨i, hi, he⟩ := List.mem_take_iff_getElem.1 hx
            have : i < k := by omega
            have hx2 : x = str (L0 i) := by rw [← he]; simp [keysOf]
            rw [hx2, str_size]; exact hsh i (by omega))
          rw [List.length_take, keysOf_len] at h6
          omega
        have hnext : Hid (M + (1 + ((str (L0 k)).size : Int)) = 20 + (t0.size : Int) + (keysN ((keysOf n0 L0).take (k + 1)) : Int)) := by
          show _ = _
          rw [hkt, keysN_append, hM2]
          simp only [keysN]
          omega
        have hb0 : 0 ≤ M ∧ M ≤ 5000 := by omega
        have hb2 : (str (L0 k)).size ≤ 60 := by omega
        clear hM hM2 hz hsh hkn hl hkt
        generalize str (L0 k) = K at *
        go_wp2
        go_roundw
        case rel => exact ⟨k + 1, by omega, by go_num, trivial, _, rfl, fun _ => hnext.out⟩
        case measure => simp [intOf]; omega
      · clear hM hz hkt
        have hno : Hid (¬ shortTo L0 (k + 1)) := hsh
        clear hsh
        generalize str (L0 k) = K at *
        go_wp2
        go_roundw
        case rel => exact ⟨k + 1, by omega, by go_num, trivial, _, rfl, fun h => absurd h hno.out⟩
        case measure => simp [intOf]; omega
    · obtain rfl : k = n0 := by omega
      have dlt : decide ((k : Int) < (k : Int)) = false := by simp
      have htk : (keysOf k L0).take k = keysOf k L0 := List.take_of_length_le (by rw [keysOf_len]; exact Nat.le_refl _)
      rw [htk] at hM
      have PPH := PP.out _ hk1.out
      have HX2 : Hid ((Rep.ok ⟨e0, t0, m0, v0, keysOf k L0⟩ = true ∧ ((Rep.put ⟨e0, t0, m0, v0, keysOf k L0⟩).size : Int) = M) ∨ (Rep.ok ⟨e0, t0, m0, v0, keysOf k L0⟩ = false ∧ Rep.put ⟨e0, t0, m0, v0, keysOf k L0⟩ = ⟨#[]⟩)) := by
        rcases HX.out with ⟨h, hs, hp⟩ | h
        · exact Or.inl ⟨h, by rw [hp, hM hs]; omega⟩
        · exact Or.inr h
      clear HX hM PP HKW hk1 HLW htk
      generalize Rep.ok ⟨e0, t0, m0, v0, keysOf k L0⟩ = OK at *
      generalize Rep.put ⟨e0, t0, m0, v0, keysOf k L0⟩ = PUT at *
      go_wp2_with fail
      with_reducible refine PPH.mono ?_
      rintro e w2 ⟨rfl, b2⟩
      rcases HX2.out with ⟨rfl, hs⟩ | ⟨rfl, rfl⟩
      · have heq : ((PUT.size : Int) == M) = true := by simpa using hs
        clear HX2 hs
        go_wp2
        go_ret
        exact ⟨rfl, bel_chain8 b1 b2⟩
      · have e4 := str_beq_self ⟨#[]⟩
        go_wp2
        go_ret
        exact ⟨rfl, bel_chain8 b1 b2⟩

set_option maxRecDepth 100000 in
theorem lifted (os : Os) (started : os.Started) (H : Type) (enc : TypeId × Value → H) :
    ReturnsInHanded {} Try.checked os 8 .any (Rows.replySizesSpec.pre6 enc Try.prog Try.f8 Rows.replySizesRow.domain false) (Rows.replySizesSpec.post enc Try.prog Try.f8 false true false false) := by
  refine returnsInHanded_of_change (C := Try.checked) own started (by kernel_rfl) Try.func8
    (ChangeSpec.witness6 (enc := enc) (C := Try.checked) false ⟨#[], #[.agg #[.int .i64 0, .string ByteArray.empty, .int .i64 0, .int .i64 0, .slice none 0 0]], []⟩ 8 (by kernel_rfl) (by kernel_rfl) (by kernel_rfl) (by kernel_rfl)) ?_
  intro W base args ds gs before hval0 hW hcnd _
  have hval : ∀ (j : Nat) t v, Try.f8.params[j]? = some t → args[j]? = some v → Value.okWide Try.prog W .any base t v := hval0
  have hW' := hW
  obtain ⟨p, q, hA0, hV, rfl, hfz, hnd⟩ := hW
  have hA : DataW.TrodAll enc Try.prog W 0 (fun _ => true) true Try.f8.params.toList args.toList ds p := hA0
  rw [Try.params8] at hA hval
  obtain ⟨v0, vs0, d0, ds0, p0, q0, hargs, rfl, rfl, h0, r0⟩ := trodAll_cons hA
  obtain ⟨rfl, rfl, rfl⟩ := trodAll_nil r0
  obtain rfl : args = #[v0] := by cases args; simp_all
  obtain ⟨rfl, rfl⟩ := trodVars_none hV
  have h0k := h0
  have hlt0 : ∀ x ∈ p0, x.block < W.heap.size := fun x hx => by simpa using hW'.lt x (by simp [hx])
  obtain ⟨e0, t0, m0, V0, o0, n0, c0, L0, rfl, e0w, t0w, m0w, v0w, l0, L0w, s0⟩ := rep_open (hval 0 40 v0 rfl rfl) h0
  clear hA0 hval0
  simp only [List.append_nil] at hW'
  refine (walk e0 t0 m0 V0 o0 n0 c0 L0 e0w t0w m0w v0w l0 L0w W s0).mono fun e W' ⟨he, hg⟩ => ?_
  subst he
  exact ⟨_, rfl, _, _, _, _, _, _, hW', (trodAll_cons_mk (shut_bool Try.underlying4 _) trodAll_mk0), (trodAll_cons_mk (Below.trod laidOut (by kernel_rfl) (of_decide_eq_true (by kernel_rfl)) h0k hg hlt0) trodAll_mk0), rfl, hg.frame _, fun h => by cases h⟩

theorem over : Rows.replySizesRow.holds Try.pinned (OpenSpec.ofChange Rows.replySizesSpec) :=
  OpenClaim.holds_of_wide 8 Try.f8 rfl rfl rfl rfl rfl rfl rfl ⟨rfl, rfl, rfl, rfl, rfl⟩ rfl rfl rfl rfl rfl (by kernel_rfl) Try.func8 (by kernel_rfl)
    (of_decide_eq_true (by kernel_rfl)) (by unfold Func.isWrapper; first | (rw [if_pos (by decide +kernel)]; kernel_rfl) | (rw [if_neg (by decide +kernel)]; exact ⟨rfl, rfl⟩))
    (fun os started H enc _ => lifted os started H enc)

theorem proved : Rows.ReplySizesSaid :=
  over
#print axioms proved
end Go.Proofs.Ytogfobmbmimpgaa.replySizes
