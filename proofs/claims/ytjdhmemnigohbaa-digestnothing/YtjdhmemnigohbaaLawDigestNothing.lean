/- Promises P201, P202: for every list of texts and every number n the law DigestNothing answers true at the landed code: nothing that is added is nothing, and the sum of no bytes is that of a zero Digest. No condition; lists of more than 12 texts, texts of more than 100 bytes and numbers below 0 or above 9 the law itself lets by. -/
import Derived.Test.YtjdhmemnigohbaaRows
import Derived.WalkKit
import Derived.ProofKit
import Derived.OpenShut
import Derived.ShutString
import Derived.Carry
import Derived.Test.YtjdhmemnigohbaaStrs0
import Derived.Test.YtjdhmemnigohbaaLong2
namespace Go.Proofs.Ytjdhmemnigohbaa.digestNothing
open Go.ChangeShapes Go.WideShapes Go.ChangeAt Go.RowKit
open Go.ChangeMaps (open_string shut_string)
set_option linter.unusedVariables false

theorem own : ownKnob Try.prog.godebug = none := by kernel_rfl
theorem laidOut : laidOutB Try.prog = true := by kernel_rfl

set_option maxHeartbeats 4000000 in
set_option maxRecDepth 100000 in
theorem walk (o0 : Option Addr) (n0 c0 : Nat) (L0 : Nat → List UInt8) (l0 : n0 ≤ maxLen) (a1 : Int) (w1 : (Lit.int .i64 a1).wf = true) (w : World) (s0 : StrsAt w o0 n0 L0) :
    Calls Try.prog 9 #[.slice o0 n0 c0, .int .i64 a1] w fun e w' => e = .returned (.bool true) ∧ Below w.heap.size w w' := by
  have hn := bounds_i64 w1
  clear w1
  unfold maxLen at l0
  by_cases d0 : 12 < n0
  · go_enter Try.func9, Try.ntmps9
    go_wp2_with fail
    refine (alive2_any _).mono ?_
    rintro e w1 ⟨rfl, b1⟩
    go_wp2
    go_ret
    exact ⟨rfl, b1⟩
  by_cases d1 : a1 < 0
  · go_enter Try.func9, Try.ntmps9
    go_wp2_with fail
    refine (alive2_any _).mono ?_
    rintro e w1 ⟨rfl, b1⟩
    go_wp2
    go_ret
    exact ⟨rfl, b1⟩
  by_cases d2 : 9 < a1
  · go_enter Try.func9, Try.ntmps9
    go_wp2_with fail
    refine (alive2_any _).mono ?_
    rintro e w1 ⟨rfl, b1⟩
    go_wp2
    go_ret
    exact ⟨rfl, b1⟩
  obtain ⟨n, rfl⟩ := Int.eq_ofNat_of_zero_le (show 0 ≤ a1 from by omega)
  have hn9 : n ≤ 9 := by omega
  have hn12 : n0 ≤ 12 := by omega
  clear hn d1 l0
  go_enter Try.func9, Try.ntmps9
  go_wp2_with fail
  refine (alive2_any _).mono ?_
  rintro e w1 ⟨rfl, b1⟩
  have hd := fresh_zero w1
  have he := fresh_zero (w1.alloc (.cells Try.zeroCells43 43))
  rw [show (w1.alloc (.cells Try.zeroCells43 43)).heap.size = w1.heap.size + 1 from by simp] at he
  have hd' := hd.below ((Below.refl _ _).alloc (Nat.le_refl _) (.cells Try.zeroCells43 43))
  have b2 : Below w.heap.size w ((w1.alloc (.cells Try.zeroCells43 43)).alloc (.cells Try.zeroCells43 43)) := (b1.alloc b1.size _).alloc (by have := b1.size; simp; omega) _
  have hs0 : w.heap.size ≤ w1.heap.size := b1.size
  clear b1 hd
  go_wp2
  generalize (w1.alloc (.cells Try.zeroCells43 43)).alloc (.cells Try.zeroCells43 43) = w2 at *
  generalize w1.heap.size = g at *
  have S0 : Hid (StrsAt w o0 n0 L0) := s0
  clear s0
  go_loopw [7] (fun i wr => ∃ k : Nat, k ≤ n0 ∧ i = .int .i64 k ∧ (joinTo L0 k).length ≤ 100 * k ∧ DigAt wr g (joinTo L0 k) ∧ DigAt wr (g + 1) (joinTo L0 k) ∧ Below w.heap.size w wr) (fun i _ => n0 - (intOf i).toNat)
  case atStart => exact ⟨0, by omega, rfl, by simp [joinTo], hd', he, b2⟩
  case round =>
    clear hd' he b2
    obtain ⟨k, hk, rfl, hjl, hd, he, hbel⟩ := hrel
    by_cases hlt : k < n0
    · obtain ⟨bb, oo, rfl, hc⟩ := S0.out.later hbel k hlt
      have hbb : bb < w.heap.size := by
        obtain ⟨b', o', h1, h2⟩ := S0.out k hlt
        have := World.block_lt_of_cell? w _ h2
        simp only [Option.some.injEq, Addr.mk.injEq] at h1
        obtain ⟨rfl, _⟩ := h1
        exact this
      have hsz : (str (L0 k)).size = (L0 k).length := str_size _
      by_cases hlong : 100 < (L0 k).length
      · go_wp2
        go_ret
        exact ⟨rfl, hbel⟩
      · have hJ : Hid (joinTo L0 (k + 1) = joinTo L0 k ++ L0 k) := rfl
        go_wp2_with fail
        refine (dig_add g (joinTo L0 k) (L0 k) _ hd (by omega)).mono ?_
        rintro e w3 ⟨rfl, hd3, hu3⟩
        have he3 := he.upon hu3 (by omega)
        have b3 := upon_below hbel hu3 hs0
        clear hd he hbel hu3 hc
        go_wp2
        go_loopw [8] (fun i wr => ∃ j : Nat, j ≤ n ∧ i = .int .i64 j ∧ Ready wr g (joinTo L0 k ++ L0 k) ∧ DigAt wr (g + 1) (joinTo L0 k) ∧ Below w.heap.size w wr) (fun i _ => n - (intOf i).toNat)
        case atStart => exact ⟨0, by omega, rfl, hd3, he3, b3⟩
        case round =>
          clear hd3 he3 b3
          obtain ⟨j, hj, rfl, hd3, he3, b3⟩ := hrel
          by_cases hjn : j < n
          · go_wp2_with fail
            refine (dig_add (g + 1) (joinTo L0 k) [] _ he3 (by simp; omega)).mono ?_
            rintro e w4 ⟨rfl, he4, hu4⟩
            rw [List.append_nil] at he4
            have hd4 := hd3.upon hu4 (by omega)
            have b4 := upon_below b3 hu4 (by omega)
            clear hd3 he3 b3 hu4
            go_wp2
            go_roundw
            case rel => exact ⟨j + 1, by omega, by go_num, hd4, Or.inl he4, b4⟩
            case measure => simp [intOf]; omega
          · have hc : _ := hjn
            obtain ⟨b', o', h1, hc3⟩ := S0.out.later b3 k hlt
            simp only [Option.some.injEq, Addr.mk.injEq] at h1
            obtain ⟨rfl, rfl, _⟩ := h1
            go_wp2_with fail
            refine (dig_add (g + 1) (joinTo L0 k) (L0 k) _ he3 (by omega)).mono ?_
            rintro e w4 ⟨rfl, he4, hu4⟩
            have hd4 := hd3.upon hu4 (by omega)
            have b4 := upon_below b3 hu4 (by omega)
            clear hd3 he3 b3 hu4 hc3
            go_wp2
            go_roundw
            case rel => exact ⟨k + 1, by omega, by go_num, by rw [hJ.out, List.length_append]; omega, Or.inl (by rw [hJ.out]; exact hd4), Or.inl (by rw [hJ.out]; exact he4), b4⟩
            case measure => simp [intOf]; omega
    · have hz := fresh_zero wr
      have bz : Below w.heap.size w (wr.alloc (.cells Try.zeroCells43 43)) := hbel.alloc hbel.size _
      have hdz := hd.below ((Below.refl _ _).alloc (Nat.le_refl _) (.cells Try.zeroCells43 43))
      have hez := he.below ((Below.refl _ _).alloc (Nat.le_refl _) (.cells Try.zeroCells43 43))
      have hgz : g + 1 < wr.heap.size := he.lt
      have hwz := hbel.size
      have H0 : Hid (shaS ⟨#[]⟩ = str (shaL [])) := shaS_str []
      clear hd he hbel
      go_wp2_with fail
      generalize wr.alloc (.cells Try.zeroCells43 43) = w3 at *
      refine (dig_sum g (joinTo L0 k) _ hdz (by omega)).mono ?_
      rintro e w4 ⟨rfl, hd4, hu4⟩
      have he4 := hez.upon hu4 (by omega)
      have hz4 := hz.upon hu4 (by omega)
      have b4 := upon_below bz hu4 hs0
      go_wp2_with fail
      refine (dig_sum (g + 1) (joinTo L0 k) _ he4 (by omega)).mono ?_
      rintro e w5 ⟨rfl, he5, hu5⟩
      have hd5 := hd4.upon hu5 (by omega)
      have hz5 := hz4.upon hu5 (by omega)
      have b5 := upon_below b4 hu5 (by omega)
      go_wp2_with fail
      refine (dig_len g (joinTo L0 k) _ (Or.inl hd5)).mono ?_
      rintro e w' ⟨rfl, rfl⟩
      go_wp2_with fail
      refine (dig_len (g + 1) (joinTo L0 k) _ (Or.inl he5)).mono ?_
      rintro e w' ⟨rfl, rfl⟩
      go_wp2_with fail
      refine (dig_sum wr.heap.size [] _ hz5 (by simp)).mono ?_
      rintro e w6 ⟨rfl, hz6, hu6⟩
      have b6 := upon_below b5 hu6 hwz
      go_wp2_with fail
      refine (digest_sum _ _ (by decide)).mono ?_
      rintro e w7 ⟨rfl, b'⟩
      rw [H0.out]
      have b7 := bel_chain b6 b'
      go_wp2
      go_ret
      exact ⟨rfl, b7⟩

set_option maxRecDepth 100000 in
theorem lifted (os : Os) (started : os.Started) (H : Type) (enc : TypeId × Value → H) :
    ReturnsInHanded {} Try.checked os 9 .any (Rows.digestNothingSpec.pre6 enc Try.prog Try.f9 Rows.digestNothingRow.domain false) (Rows.digestNothingSpec.post enc Try.prog Try.f9 false true false false) := by
  refine returnsInHanded_of_change (C := Try.checked) own started (by kernel_rfl) Try.func9
    (ChangeSpec.witness6 (enc := enc) (C := Try.checked) false ⟨#[], #[.slice none 0 0, .int .i64 0], []⟩ 8 (by kernel_rfl) (by kernel_rfl) (by kernel_rfl) (by kernel_rfl)) ?_
  intro W base args ds gs before hval0 hW hcnd _
  have hval : ∀ (j : Nat) t v, Try.f9.params[j]? = some t → args[j]? = some v → Value.okWide Try.prog W .any base t v := hval0
  have hW' := hW
  obtain ⟨p, q, hA0, hV, rfl, hfz, hnd⟩ := hW
  have hA : DataW.TrodAll enc Try.prog W 0 (fun _ => true) true Try.f9.params.toList args.toList ds p := hA0
  rw [Try.params9] at hA hval
  obtain ⟨v0, vs0, d0, ds0, p0, q0, hargs, rfl, rfl, h0, r0⟩ := trodAll_cons hA
  obtain ⟨v1, vs1, d1, ds1, p1, q1, rfl, rfl, rfl, h1, r1⟩ := trodAll_cons r0
  obtain ⟨rfl, rfl, rfl⟩ := trodAll_nil r1
  obtain rfl : args = #[v0, v1] := by cases args; simp_all
  obtain ⟨rfl, rfl⟩ := trodVars_none hV
  have h0k := h0
  have hlt0 : ∀ x ∈ p0, x.block < W.heap.size := fun x hx => by simpa using hW'.lt x (by simp [hx])
  obtain ⟨o0, n0, c0, L0, rfl, l0, s0⟩ := strs_open (hval 0 25 v0 rfl rfl) h0
  obtain ⟨a1, rfl, rfl, rfl, w1⟩ := open_int Try.underlying3 (hval 1 3 v1 rfl rfl) h1
  clear hA0 hval0
  simp only [List.append_nil] at hW'
  refine (walk o0 n0 c0 L0 l0 a1 w1 W s0).mono fun e W' ⟨he, hg⟩ => ?_
  subst he
  exact ⟨_, rfl, _, _, _, _, _, _, hW', (trodAll_cons_mk (shut_bool Try.underlying4 _) trodAll_mk0), (trodAll_cons_mk (Below.trod laidOut (by kernel_rfl) (of_decide_eq_true (by kernel_rfl)) h0k hg hlt0) (trodAll_cons_mk (shut_int Try.underlying3 w1) trodAll_mk0)), rfl, hg.frame _, fun h => by cases h⟩

theorem over : Rows.digestNothingRow.holds Try.pinned (OpenSpec.ofChange Rows.digestNothingSpec) :=
  OpenClaim.holds_of_wide 9 Try.f9 rfl rfl rfl rfl rfl rfl rfl ⟨rfl, rfl, rfl, rfl, rfl⟩ rfl rfl rfl rfl rfl (by kernel_rfl) Try.func9 (by kernel_rfl)
    (of_decide_eq_true (by kernel_rfl)) (by unfold Func.isWrapper; first | (rw [if_pos (by decide +kernel)]; kernel_rfl) | (rw [if_neg (by decide +kernel)]; exact ⟨rfl, rfl⟩))
    (fun os started H enc _ => lifted os started H enc)

theorem proved : Rows.DigestNothingSaid :=
  over
#print axioms proved
end Go.Proofs.Ytjdhmemnigohbaa.digestNothing
