/- Promise P202: for every byte c and every number n the law DigestBlocks answers true at the landed code: whole blocks that are added one by one come to the sum of them together, and to what the document's own reckoning (the reference) tells. No condition; numbers below 0 or above 8 the law itself lets by. -/
import Derived.Test.YtjdhmemnigohbaaRows
import Derived.WalkKit
import Derived.ProofKit
import Derived.OpenShut
import Derived.ShutString
import Derived.Test.YtjdhmemnigohbaaLong3
namespace Go.Proofs.Ytjdhmemnigohbaa.digestBlocks
open Go.ChangeShapes Go.WideShapes Go.ChangeAt Go.RowKit
open Go.ChangeMaps (open_string shut_string)
set_option linter.unusedVariables false      -- a walk need not use every 'w<i>' (that an integer argument fits its kind)

theorem own : ownKnob Try.prog.godebug = none := by kernel_rfl

set_option maxHeartbeats 4000000 in
set_option maxRecDepth 100000 in
theorem walk (a0 : Int) (a1 : Int) (w0 : (Lit.int .u8 a0).wf = true) (w1 : (Lit.int .i64 a1).wf = true) (w : World) :
    Calls Try.prog 7 #[.int .u8 a0, .int .i64 a1] w fun e w' => e = .returned (.bool true) ∧ Below w.heap.size w w' := by
  have hn := bounds_i64 w1
  have hc := bounds_u8 w0
  have hc0 := hc.1
  have hc1 : a0 < 256 := by omega
  clear w0 w1
  by_cases d1 : a1 < 0
  · go_enter Try.func7, Try.ntmps7
    go_wp2_with fail
    refine (alive2_any _).mono ?_
    rintro e w1 ⟨rfl, b1⟩
    go_wp2
    go_ret
    exact ⟨rfl, b1⟩
  by_cases d2 : 8 < a1
  · go_enter Try.func7, Try.ntmps7
    go_wp2_with fail
    refine (alive2_any _).mono ?_
    rintro e w1 ⟨rfl, b1⟩
    go_wp2
    go_ret
    exact ⟨rfl, b1⟩
  · obtain ⟨n, rfl⟩ := Int.eq_ofNat_of_zero_le (show 0 ≤ a1 from by omega)
    have hn8 : n ≤ 8 := by omega
    clear hn hc d1
    go_enter Try.func7, Try.ntmps7
    go_wp2_with fail
    refine (alive2_any _).mono ?_
    rintro e w1 ⟨rfl, b1⟩
    have hd := fresh_zero w1
    have hs0 : w.heap.size ≤ w1.heap.size := b1.size
    have b2 : Below w.heap.size w (w1.alloc (.cells Try.zeroCells43 43)) := b1.alloc b1.size _
    have hs2 : w1.heap.size < (w1.alloc (.cells Try.zeroCells43 43)).heap.size := by simp
    clear b1
    go_wp2
    generalize w1.alloc (.cells Try.zeroCells43 43) = w2 at *
    generalize w1.heap.size = g at *
    go_loopw [6, 7] (fun v i wr => ∃ k : Nat, k ≤ n ∧ i = .int .i64 k ∧ v = .string (str (blocksL a0 k)) ∧ DigAt wr g (blocksL a0 k) ∧ Below w.heap.size w wr) (fun _ i _ => n - (intOf i).toNat)
    case atStart => exact ⟨0, by omega, rfl, rfl, hd, b2⟩
    case round =>
      clear hd b2 hs2
      obtain ⟨k, hk, rfl, rfl, hd, hbel⟩ := hrel
      by_cases hlt : k < n
      · have hrow : RowIs (wr.alloc (.cells (cells8 (zeros8 64)).toArray 5)) wr.heap.size 5 (cells8 (blockTo a0 k 0 ++ zeros8 (64 - 0))) := RowIs.new _ _ _
        have hd1 := hd.below ((Below.refl _ _).alloc (Nat.le_refl _) (.cells (cells8 (zeros8 64)).toArray 5))
        have b3 : Below w.heap.size w (wr.alloc (.cells (cells8 (zeros8 64)).toArray 5)) := hbel.alloc hbel.size _
        have hgl := hd.lt
        have hsw := hbel.size
        clear hd hbel
        go_wp2_with (at_make; refine wpList_make8 rfl _ _ rfl _ _ 64 64 rfl rfl rfl rfl (by omega) (by omega) wr.heap.size rfl ?_)
        generalize wr.alloc (.cells (cells8 (zeros8 64)).toArray 5) = w3 at *
        generalize wr.heap.size = gb at *
        go_loopw [31] (fun i wr => ∃ j : Nat, j ≤ 64 ∧ i = .int .i64 j ∧ RowIs wr gb 5 (cells8 (blockTo a0 k j ++ zeros8 (64 - j))) ∧ DigAt wr g (blocksL a0 k) ∧ Below w.heap.size w wr) (fun i _ => 64 - (intOf i).toNat)
        case atStart => exact ⟨0, by omega, rfl, hrow, hd1, b3⟩
        case round =>
          clear hrow hd1 b3
          obtain ⟨j, hj, rfl, hrow, hd1, b3⟩ := hrel
          by_cases hj64 : j < 64
          · have hcl := hrow.cellAt (cells8_at (blockTo a0 k j ++ zeros8 (64 - j)) j (by simp [blockTo_len, zeros8_len]; omega))
            have hfz := hrow.frozen j
            have HS : Hid ((cells8 (blockTo a0 k j ++ zeros8 (64 - j))).set j (.int .u8 ((a0 + (k : Int) * (j : Int)) % 256)) = cells8 (blockTo a0 k (j + 1) ++ zeros8 (64 - (j + 1)))) := blockTo_set a0 k j hj64
            generalize ((blockTo a0 k j ++ zeros8 (64 - j))[j]'_).toNat = old at hcl
            have j0 : (0 : Int) ≤ (j : Int) := by omega
            have j64 : (j : Int) < 64 := by omega
            have hkj : (0 : Int) ≤ (k : Int) * (j : Int) := Int.mul_nonneg (by omega) (by omega)
            have hkj2 : (k : Int) * (j : Int) ≤ 512 := by
              have h1 : (k : Int) * (j : Int) ≤ 8 * (j : Int) := Int.mul_le_mul_of_nonneg_right (by omega) (by omega)
              omega
            go_wp2
            go_roundw
            case rel => exact ⟨j + 1, by omega, by go_num, by rw [← HS.out]; exact hrow.set _ _, hd1.kept (Below.heap_setCell _ _ _ _ (by simp; omega)), b3.setCell hsw _⟩
            case measure => simp [intOf]; omega
          · have hj : j = 64 := by omega
            have hrow' : RowIs wr gb 5 (cells8 (blockTo a0 k 64)) := by
              rw [hj] at hrow
              simpa [zeros8] using hrow
            clear hrow hj
            have hconv := range_string (n := 64) (cap := 64) (hrow'.range (o := 0) (by rw [List.drop_zero, List.take_length])) (blockTo_len a0 k 64).symm
            have hbl := blocksL_len a0 k
            go_wp2_with fail
            refine (dig_add g (blocksL a0 k) (blockTo a0 k 64) _ hd1 (by rw [hbl, blockTo_len]; omega)).mono ?_
            rintro e w5 ⟨rfl, hd5, hu5⟩
            have hrow5 := hu5.row hrow' (by omega)
            have hconv5 := range_string (n := 64) (cap := 64) (hrow5.range (o := 0) (by rw [List.drop_zero, List.take_length])) (blockTo_len a0 k 64).symm
            have b5 := upon_below b3 hu5 hs0
            have hcat : str (blocksL a0 k) ++ str (blockTo a0 k 64) = str (blocksL a0 (k + 1)) := str_cat _ _
            have hsz1 : (str (blocksL a0 k)).size = 64 * k := by rw [str_size, hbl]
            have hsz2 : (str (blockTo a0 k 64)).size = 64 := by rw [str_size, blockTo_len]
            have hln : ¬ (9223372036854775807 < 64 * k + 64) := by omega
            clear hconv hrow' hrow5 hd1 b3 hu5 hbl
            go_wp2
            go_roundw
            case rel => exact ⟨k + 1, by omega, by go_num, rfl, Or.inl hd5, b5⟩
            case measure => simp [intOf]; omega
      · have hkn : k = n := by omega
        subst hkn
        have hbl := blocksL_len a0 k
        have hsz1 : (str (blocksL a0 k)).size = 64 * k := by rw [str_size, hbl]
        have HLEN : Hid ((blocksL a0 k).length = 64 * k) := hbl
        have hbl' : (blocksL a0 k).length ≤ 1000 := by omega
        have hlI : ((blocksL a0 k).length : Int) = 64 * (k : Int) := by omega
        clear hbl
        go_wp2_with fail
        refine (dig_sum g (blocksL a0 k) _ hd (by omega)).mono ?_
        rintro e w3 ⟨rfl, hd3, hu3⟩
        have b3 := upon_below hbel hu3 hs0
        go_wp2_with fail
        refine (digest_sum _ _ (by rw [hsz1]; omega)).mono ?_
        rintro e w4 ⟨rfl, b'⟩
        rw [shaS_str]
        have hd4 := hd3.below b'
        have b4 := bel_chain b3 b'
        clear b' hd3 hu3 b3
        go_wp2_with fail
        refine (dig_len g (blocksL a0 k) _ (Or.inl hd4)).mono ?_
        rintro e w' ⟨rfl, rfl⟩
        rw [hlI]
        go_wp2_with fail
        refine (dig_sum g (blocksL a0 k) _ (Or.inl hd4) (by omega)).mono ?_
        rintro e w5 ⟨rfl, hd5, hu5⟩
        have b5 := upon_below b4 hu5 hs0
        go_wp2_with fail
        refine (ref_sum _ _ (by rw [hsz1]; omega)).mono ?_
        rintro e w6 ⟨rfl, b'⟩
        rw [shaS_str]
        have b6 := bel_chain b5 b'
        go_wp2
        go_ret
        exact ⟨rfl, b6⟩

set_option maxRecDepth 100000 in
theorem lifted (os : Os) (started : os.Started) (H : Type) (enc : TypeId × Value → H) :
    ReturnsInHanded {} Try.checked os 7 .any (Rows.digestBlocksSpec.pre6 enc Try.prog Try.f7 Rows.digestBlocksRow.domain false) (Rows.digestBlocksSpec.post enc Try.prog Try.f7 false true false false) := by
  refine returnsInHanded_of_change (C := Try.checked) own started (by kernel_rfl) Try.func7
    (ChangeSpec.witness6 (enc := enc) (C := Try.checked) false ⟨#[], #[.int .u8 0, .int .i64 0], []⟩ 8 (by kernel_rfl) (by kernel_rfl) (by kernel_rfl) (by kernel_rfl)) ?_
  intro W base args ds gs before hval0 hW hcnd _
  have hval : ∀ (j : Nat) t v, Try.f7.params[j]? = some t → args[j]? = some v → Value.okWide Try.prog W .any base t v := hval0
  have hW' := hW
  obtain ⟨p, q, hA0, hV, rfl, hfz, hnd⟩ := hW
  have hA : DataW.TrodAll enc Try.prog W 0 (fun _ => true) true Try.f7.params.toList args.toList ds p := hA0
  rw [Try.params7] at hA hval
  obtain ⟨v0, vs0, d0, ds0, p0, q0, hargs, rfl, rfl, h0, r0⟩ := trodAll_cons hA
  obtain ⟨v1, vs1, d1, ds1, p1, q1, rfl, rfl, rfl, h1, r1⟩ := trodAll_cons r0
  obtain ⟨rfl, rfl, rfl⟩ := trodAll_nil r1
  obtain rfl : args = #[v0, v1] := by cases args; simp_all
  obtain ⟨rfl, rfl⟩ := trodVars_none hV
  obtain ⟨a0, rfl, rfl, rfl, w0⟩ := open_int Try.underlying5 (hval 0 5 v0 rfl rfl) h0
  obtain ⟨a1, rfl, rfl, rfl, w1⟩ := open_int Try.underlying3 (hval 1 3 v1 rfl rfl) h1
  clear hA0 hval0
  simp only [List.append_nil] at hW'
  refine (walk a0 a1 w0 w1 W).mono fun e W' ⟨he, hg⟩ => ?_
  subst he
  exact ⟨_, rfl, _, _, _, [], [], [], hW', (trodAll_cons_mk (shut_bool Try.underlying4 _) trodAll_mk0), (trodAll_cons_mk (shut_int Try.underlying5 w0) (trodAll_cons_mk (shut_int Try.underlying3 w1) trodAll_mk0)), rfl, hg.frame _, fun h => by cases h⟩

theorem over : Rows.digestBlocksRow.holds Try.pinned (OpenSpec.ofChange Rows.digestBlocksSpec) :=
  OpenClaim.holds_of_wide 7 Try.f7 rfl rfl rfl rfl rfl rfl rfl ⟨rfl, rfl, rfl, rfl, rfl⟩ rfl rfl rfl rfl rfl (by kernel_rfl) Try.func7 (by kernel_rfl)
    (of_decide_eq_true (by kernel_rfl)) (by unfold Func.isWrapper; first | (rw [if_pos (by decide +kernel)]; kernel_rfl) | (rw [if_neg (by decide +kernel)]; exact ⟨rfl, rfl⟩))
    (fun os started H enc _ => lifted os started H enc)

theorem proved : Rows.DigestBlocksSaid :=
  over
#print axioms proved
end Go.Proofs.Ytjdhmemnigohbaa.digestBlocks
