/- Promise P202: for every list of texts and every number at the law DigestParts answers true at the landed code: however bytes are added the sum is that of all, a copy goes on by itself, and the sum may be told in between. No condition; lists of more than 20 texts and texts of more than 200 bytes the law itself lets by. -/
import Derived.Test.YtjdhmemnigohbaaRows
import Derived.WalkKit
import Derived.ProofKit
import Derived.OpenShut
import Derived.ShutString
import Derived.Carry
import Derived.Test.YtjdhmemnigohbaaStrs0
import Derived.Test.YtjdhmemnigohbaaParts2
namespace Go.Proofs.Ytjdhmemnigohbaa.digestParts
open Go.ChangeShapes Go.WideShapes Go.ChangeAt Go.RowKit
open Go.ChangeMaps (open_string shut_string)
set_option linter.unusedVariables false

theorem own : ownKnob Try.prog.godebug = none := by kernel_rfl
theorem laidOut : laidOutB Try.prog = true := by kernel_rfl

set_option maxHeartbeats 4000000 in
set_option maxRecDepth 100000 in
theorem walk (o0 : Option Addr) (n0 c0 : Nat) (L0 : Nat → List UInt8) (l0 : n0 ≤ maxLen) (a1 : Int) (w1 : (Lit.int .i64 a1).wf = true) (w : World) (s0 : StrsAt w o0 n0 L0) :
    Calls Try.prog 4 #[.slice o0 n0 c0, .int .i64 a1] w fun e w' => e = .returned (.bool true) ∧ Below w.heap.size w w' := by
  clear w1
  unfold maxLen at l0
  by_cases d0 : 20 < n0
  · go_enter Try.func4, Try.ntmps4
    go_wp2_with fail
    refine (alive2_any _).mono ?_
    rintro e w1 ⟨rfl, b1⟩
    go_wp2
    go_ret
    exact ⟨rfl, b1⟩
  have hn20 : n0 ≤ 20 := by omega
  clear l0
  go_enter Try.func4, Try.ntmps4
  go_wp2_with fail
  refine (alive2_any _).mono ?_
  rintro e w1 ⟨rfl, b1⟩
  have hd := fresh_zero w1
  have b2 : Below w.heap.size w (w1.alloc (.cells Try.zeroCells43 43)) := b1.alloc b1.size _
  have hs0 : w.heap.size ≤ w1.heap.size := b1.size
  clear b1
  go_wp2
  generalize w1.alloc (.cells Try.zeroCells43 43) = w2 at *
  generalize w1.heap.size = g at *
  have S0 : Hid (StrsAt w o0 n0 L0) := s0
  clear s0
  go_loopw [6, 7, 8, 9] (fun v c v8 i wr => ∃ k : Nat, k ≤ n0 ∧ i = .int .i64 k ∧ v = .string (str (joinTo L0 k)) ∧ (∀ m, m ≤ k → (joinTo L0 m).length ≤ 200 * m) ∧ DigAt wr g (joinTo L0 k) ∧ CRel w.heap.size g L0 a1 k c v8 wr ∧ Below w.heap.size w wr) (fun _ _ _ i _ => n0 - (intOf i).toNat)
  case atStart => exact ⟨0, by omega, rfl, rfl, fun m hm => by rw [show m = 0 from by omega]; simp [joinTo], hd, Or.inl ⟨rfl, rfl, by omega⟩, b2⟩
  case round =>
    clear hd b2
    obtain ⟨k, hk, rfl, rfl, hjl, hd, hcr, hbel⟩ := hrel
    have HJL : Hid (∀ m, m ≤ k → (joinTo L0 m).length ≤ 200 * m) := hjl
    have hjk := hjl k (Nat.le_refl _)
    clear hjl
    have hszk : (str (joinTo L0 k)).size = (joinTo L0 k).length := str_size _
    by_cases hlt : k < n0
    · obtain ⟨bb, oo, rfl, hc⟩ := S0.out.later hbel k hlt
      have HL : Hid (∀ w', Below w.heap.size w w' → w'.cell? ⟨bb, oo + k, none⟩ = some (.string (str (L0 k)))) := by
        intro w' hb
        obtain ⟨b', o', h1, h2⟩ := S0.out.later hb k hlt
        simp only [Option.some.injEq, Addr.mk.injEq] at h1
        obtain ⟨rfl, rfl, _⟩ := h1
        exact h2
      have hsz : (str (L0 k)).size = (L0 k).length := str_size _
      by_cases hlong : 200 < (L0 k).length
      · go_wp2
        go_ret
        exact ⟨rfl, hbel⟩
      have HJ : Hid (joinTo L0 (k + 1) = joinTo L0 k ++ L0 k) := rfl
      have HJL1 : Hid (∀ m, m ≤ k + 1 → (joinTo L0 m).length ≤ 200 * m) := by
        intro m hm
        by_cases h : m ≤ k
        · exact HJL.out m h
        · rw [show m = k + 1 from by omega, HJ.out, List.length_append]; omega
      have hj1 := HJL1.out (k + 1) (Nat.le_refl _)
      have hcat : str (joinTo L0 k) ++ str (L0 k) = str (joinTo L0 (k + 1)) := str_cat _ _
      have hln : ¬ (9223372036854775807 < (joinTo L0 k).length + (L0 k).length) := by omega
      have hsz1 : (str (joinTo L0 (k + 1))).size = (joinTo L0 (k + 1)).length := str_size _
      by_cases hat : (k : Int) = a1
      · have hatb : ((k : Int) == a1) = true := by rw [beq_iff_eq]; exact hat
        have HAT : Hid ((k : Int) = a1) := hat
        clear hat
        go_wp2_with fail
        refine (dig_copy g (joinTo L0 k) _ hd).mono ?_
        rintro e w3 ⟨cb, rfl, hcn, hrc, hrd, hu3⟩
        have b3 := upon_below hbel hu3 hs0
        have hcb : w.heap.size ≤ cb := Nat.le_trans hbel.size hcn
        have hcg : cb ≠ g := by have := hd.lt; omega
        have hcr3 : CRel w.heap.size g L0 a1 (k + 1) (.pointer (some ⟨cb, 0, none⟩)) (.string (str (joinTo L0 k))) w3 := Or.inr ⟨cb, k, rfl, rfl, HAT.out.symm, by omega, hcb, hcg, hrc⟩
        have hc3 := HL.out w3 b3
        clear hcr hd hbel hu3 hcn hrc hc
        go_wp2_with fail
        refine (dig_add g (joinTo L0 k) (L0 k) _ (Or.inl hrd) (by omega)).mono ?_
        rintro e w4 ⟨rfl, hd4, hu4⟩
        rw [← HJ.out] at hd4
        have b4 := upon_below b3 hu4 hs0
        have hcr4 := hcr3.upon hu4
        have hc4 := HL.out w4 b4
        clear hcr3 hrd b3 hu4 hc3
        by_cases hm : (k : Int) % 3 = 0
        · have hmb : ((k : Int) % 3 == 0) = true := by rw [beq_iff_eq]; exact hm
          clear hm
          go_wp2_with fail
          refine (dig_sum g (joinTo L0 (k + 1)) _ (Or.inl hd4) (by omega)).mono ?_
          rintro e w5 ⟨rfl, hd5, hu5⟩
          have b5 := upon_below b4 hu5 hs0
          have hcr5 := hcr4.upon hu5
          go_wp2_with fail
          refine (ref_sum _ _ (by omega)).mono ?_
          rintro e w6 ⟨rfl, b'⟩
          rw [shaS_str]
          have hd6 := hd5.below b'
          have hcr6 := hcr5.below b'
          have b6 := bel_chain b5 b'
          go_wp2_with fail
          refine (dig_len g (joinTo L0 (k + 1)) _ (Or.inl hd6)).mono ?_
          rintro e w' ⟨rfl, rfl⟩
          go_wp2
          go_roundw
          case rel => exact ⟨k + 1, by omega, by go_num, rfl, HJL1.out, Or.inl hd6, hcr6, b6⟩
          case measure => simp [intOf]; omega
        · have hmb : ((k : Int) % 3 == 0) = false := by rw [beq_eq_false_iff_ne]; exact hm
          clear hm
          go_wp2_with fail
          refine (dig_len g (joinTo L0 (k + 1)) _ (Or.inl hd4)).mono ?_
          rintro e w' ⟨rfl, rfl⟩
          go_wp2
          go_roundw
          case rel => exact ⟨k + 1, by omega, by go_num, rfl, HJL1.out, Or.inl hd4, hcr4, b4⟩
          case measure => simp [intOf]; omega
      · have hatb : ((k : Int) == a1) = false := by rw [beq_eq_false_iff_ne]; exact hat
        have hcr3 := hcr.next hat
        clear hat hcr
        go_wp2_with fail
        refine (dig_add g (joinTo L0 k) (L0 k) _ hd (by omega)).mono ?_
        rintro e w4 ⟨rfl, hd4, hu4⟩
        rw [← HJ.out] at hd4
        have b4 := upon_below hbel hu4 hs0
        have hcr4 := hcr3.upon hu4
        have hc4 := HL.out w4 b4
        clear hcr3 hd hbel hu4 hc
        by_cases hm : (k : Int) % 3 = 0
        · have hmb : ((k : Int) % 3 == 0) = true := by rw [beq_iff_eq]; exact hm
          clear hm
          go_wp2_with fail
          refine (dig_sum g (joinTo L0 (k + 1)) _ (Or.inl hd4) (by omega)).mono ?_
          rintro e w5 ⟨rfl, hd5, hu5⟩
          have b5 := upon_below b4 hu5 hs0
          have hcr5 := hcr4.upon hu5
          go_wp2_with fail
          refine (ref_sum _ _ (by omega)).mono ?_
          rintro e w6 ⟨rfl, b'⟩
          rw [shaS_str]
          have hd6 := hd5.below b'
          have hcr6 := hcr5.below b'
          have b6 := bel_chain b5 b'
          go_wp2_with fail
          refine (dig_len g (joinTo L0 (k + 1)) _ (Or.inl hd6)).mono ?_
          rintro e w' ⟨rfl, rfl⟩
          go_wp2
          go_roundw
          case rel => exact ⟨k + 1, by omega, by go_num, rfl, HJL1.out, Or.inl hd6, hcr6, b6⟩
          case measure => simp [intOf]; omega
        · have hmb : ((k : Int) % 3 == 0) = false := by rw [beq_eq_false_iff_ne]; exact hm
          clear hm
          go_wp2_with fail
          refine (dig_len g (joinTo L0 (k + 1)) _ (Or.inl hd4)).mono ?_
          rintro e w' ⟨rfl, rfl⟩
          go_wp2
          go_roundw
          case rel => exact ⟨k + 1, by omega, by go_num, rfl, HJL1.out, Or.inl hd4, hcr4, b4⟩
          case measure => simp [intOf]; omega
    · have HKN : Hid (k = n0) := by show _ = _; omega
      have hlt' : ¬ k < n0 := hlt
      rcases hcr with ⟨rfl, rfl, ha⟩ | ⟨cb, m, rfl, rfl, ha, hmk, hcb, hcg, hrc⟩
      · have HA : Hid (a1 < 0 ∨ (n0 : Int) ≤ a1) := by rw [← HKN.out]; exact ha
        clear ha hlt'
        go_wp2_with fail
        refine (dig_add_nil _ _).mono ?_
        rintro e w' ⟨rfl, rfl⟩
        go_wp2_with fail
        refine (dig_sum g (joinTo L0 k) _ hd (by omega)).mono ?_
        rintro e w5 ⟨rfl, hd5, hu5⟩
        have b5 := upon_below hbel hu5 hs0
        go_wp2_with fail
        refine (ref_sum _ _ (by omega)).mono ?_
        rintro e w6 ⟨rfl, b'⟩
        rw [shaS_str]
        have b6 := bel_chain b5 b'
        go_wp2_with fail
        refine (dig_sum_nil _).mono ?_
        rintro e w' ⟨rfl, rfl⟩
        go_wp2_with fail
        refine (dig_len_nil _).mono ?_
        rintro e w' ⟨rfl, rfl⟩
        go_wp2_with fail
        refine (dig_copy_nil _).mono ?_
        rintro e w7 ⟨rfl, b''⟩
        have b7 := bel_chain b6 b''
        rcases HA.out with hA | hA
        · have hA1 : decide (a1 < 0) = true := by simpa using hA
          go_wp2
          go_ret
          exact ⟨rfl, b7⟩
        · have hA1 : decide (a1 < 0) = false := by simp; omega
          have hA2 : decide ((n0 : Int) ≤ a1) = true := by simpa using hA
          go_wp2
          go_ret
          exact ⟨rfl, b7⟩
      · have hml := HJL.out m (by omega)
        have hszm : (str (joinTo L0 m)).size = (joinTo L0 m).length := str_size _
        have hcatm : str (joinTo L0 m) ++ ⟨#[33]⟩ = str (joinTo L0 m ++ [33]) := str_cat _ [33]
        have hlnm : ¬ (9223372036854775807 < (joinTo L0 m).length + 1) := by omega
        have hlm1 : (joinTo L0 m ++ [33]).length ≤ 5000 := by simp; omega
        have hA1 : decide (a1 < 0) = false := by simp; omega
        have hA2 : decide ((n0 : Int) ≤ a1) = false := by have := HKN.out; simp; omega
        clear ha
        go_wp2_with fail
        refine (dig_add cb (joinTo L0 m) [33] _ (Or.inl hrc) (by simp; omega)).mono ?_
        rintro e w3 ⟨rfl, hc3, hu3⟩
        have hd3 := hd.upon hu3 (Ne.symm hcg)
        have b3 := upon_below hbel hu3 hcb
        go_wp2_with fail
        refine (dig_sum cb (joinTo L0 m ++ [33]) _ (Or.inl hc3) (by omega)).mono ?_
        rintro e w4 ⟨rfl, hc4, hu4⟩
        have hd4 := hd3.upon hu4 (Ne.symm hcg)
        have b4 := upon_below b3 hu4 hcb
        go_wp2_with fail
        refine (ref_sum _ _ (by rw [str_size]; omega)).mono ?_
        rintro e w5 ⟨rfl, b'⟩
        rw [shaS_str]
        have hd5 := hd4.below b'
        have b5 := bel_chain b4 b'
        clear hrc hd hbel hc3 hu3 hd3 b3 hc4 hu4 hd4 b4 b'
        go_wp2_with fail
        refine (dig_add_nil _ _).mono ?_
        rintro e w' ⟨rfl, rfl⟩
        go_wp2_with fail
        refine (dig_sum g (joinTo L0 k) _ hd5 (by omega)).mono ?_
        rintro e w6 ⟨rfl, hd6, hu6⟩
        have b6 := upon_below b5 hu6 hs0
        go_wp2_with fail
        refine (ref_sum _ _ (by omega)).mono ?_
        rintro e w7 ⟨rfl, b'⟩
        rw [shaS_str]
        have b7 := bel_chain b6 b'
        go_wp2_with fail
        refine (dig_sum_nil _).mono ?_
        rintro e w' ⟨rfl, rfl⟩
        go_wp2_with fail
        refine (dig_len_nil _).mono ?_
        rintro e w' ⟨rfl, rfl⟩
        go_wp2_with fail
        refine (dig_copy_nil _).mono ?_
        rintro e w8 ⟨rfl, b''⟩
        have b8 := bel_chain b7 b''
        go_wp2
        go_ret
        exact ⟨rfl, b8⟩

set_option maxRecDepth 100000 in
theorem lifted (os : Os) (started : os.Started) (H : Type) (enc : TypeId × Value → H) :
    ReturnsInHanded {} Try.checked os 4 .any (Rows.digestPartsSpec.pre6 enc Try.prog Try.f4 Rows.digestPartsRow.domain false) (Rows.digestPartsSpec.post enc Try.prog Try.f4 false true false false) := by
  refine returnsInHanded_of_change (C := Try.checked) own started (by kernel_rfl) Try.func4
    (ChangeSpec.witness6 (enc := enc) (C := Try.checked) false ⟨#[], #[.slice none 0 0, .int .i64 0], []⟩ 8 (by kernel_rfl) (by kernel_rfl) (by kernel_rfl) (by kernel_rfl)) ?_
  intro W base args ds gs before hval0 hW hcnd _
  have hval : ∀ (j : Nat) t v, Try.f4.params[j]? = some t → args[j]? = some v → Value.okWide Try.prog W .any base t v := hval0
  have hW' := hW
  obtain ⟨p, q, hA0, hV, rfl, hfz, hnd⟩ := hW
  have hA : DataW.TrodAll enc Try.prog W 0 (fun _ => true) true Try.f4.params.toList args.toList ds p := hA0
  rw [Try.params4] at hA hval
  obtain ⟨v0, vs0, d0, ds0, p0, q0, hargs, rfl, rfl, h0, r0⟩ := trodAll_cons hA
  obtain ⟨v1, vs1, d1, ds1, p1, q1, rfl, rfl, rfl, h1, r1⟩ := trodAll_cons r0
  obtain ⟨rfl, rfl, rfl⟩ := trodAll_nil r1
  obtain rfl : args = #[v0, v1] := by cases args; simp_all
  obtain ⟨rfl, rfl⟩ := trodVars_none hV
  have h0k := h0
  have hlt0 : ∀ x ∈ p0, x.block < W.heap.size := fun x hx => by simpa using hW'.lt x (by simp [hx])
  obtain ⟨o0, n0, c0, L0, rfl, l0, s0⟩ := strs_open (hval 0 25 v0 rfl rfl) h0
  obtain ⟨a1, rfl, rfl, rfl, w1⟩ := open_int Try.underlying3 (hval 1 3 v1 rfl rfl) h1
  clear hA0 hval0
  simp only [List.append_nil] at hW'
  refine (walk o0 n0 c0 L0 l0 a1 w1 W s0).mono fun e W' ⟨he, hg⟩ => ?_
  subst he
  exact ⟨_, rfl, _, _, _, _, _, _, hW', (trodAll_cons_mk (shut_bool Try.underlying4 _) trodAll_mk0), (trodAll_cons_mk (Below.trod laidOut (by kernel_rfl) (of_decide_eq_true (by kernel_rfl)) h0k hg hlt0) (trodAll_cons_mk (shut_int Try.underlying3 w1) trodAll_mk0)), rfl, hg.frame _, fun h => by cases h⟩

theorem over : Rows.digestPartsRow.holds Try.pinned (OpenSpec.ofChange Rows.digestPartsSpec) :=
  OpenClaim.holds_of_wide 4 Try.f4 rfl rfl rfl rfl rfl rfl rfl ⟨rfl, rfl, rfl, rfl, rfl⟩ rfl rfl rfl rfl rfl (by kernel_rfl) Try.func4 (by kernel_rfl)
    (of_decide_eq_true (by kernel_rfl)) (by unfold Func.isWrapper; first | (rw [if_pos (by decide +kernel)]; kernel_rfl) | (rw [if_neg (by decide +kernel)]; exact ⟨rfl, rfl⟩))
    (fun os started H enc _ => lifted os started H enc)

theorem proved : Rows.DigestPartsSaid :=
  over
#print axioms proved
end Go.Proofs.Ytjdhmemnigohbaa.digestParts
