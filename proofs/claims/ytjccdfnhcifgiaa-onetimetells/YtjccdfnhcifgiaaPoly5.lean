/-
  The contract of package onetime's times.
-/
import Derived.Test.YtjccdfnhcifgiaaPoly4
namespace Go.Proofs.Ytjccdfnhcifgiaa
open Go.RowKit
set_option linter.unusedVariables false
set_option maxRecDepth 100000

/-- The product, as far as limbs ahead of (i, k) make it. -/
def mulS (x r : List Int) (i k : Nat) : Int := valN (x.take i) * valN r + 67108864 ^ i * x.getD i 0 * valN (r.take k)
theorem mulS_zero (x r : List Int) : mulS x r 0 0 = 0 := by simp [mulS, valN]
theorem mulS_end (x r : List Int) (hl : x.length = 5) : mulS x r 5 0 = valN x * valN r := by
  unfold mulS
  rw [List.take_of_length_le (by omega)]
  simp [valN]
theorem mulS_next (x r : List Int) (i : Nat) (hr : r.length = 5) (hi : i < x.length) : mulS x r i 5 = mulS x r (i + 1) 0 := by
  unfold mulS
  rw [List.take_of_length_le (l := r) (by omega), valN_take x i hi, List.take_zero, Int.add_mul]
  simp [valN]
theorem mulS_step (x r : List Int) (i k : Nat) (hk : k < r.length) : mulS x r i (k + 1) = mulS x r i k + 67108864 ^ (i + k) * (x.getD i 0 * r.getD k 0) := by
  unfold mulS
  rw [valN_take r k hk, Int.mul_add, Int.add_assoc]
  congr 2
  rw [Int.pow_add]
  ac_rfl
theorem rest_add (a b c d : Int) (h : a % p130 = b % p130) (h2 : c % p130 = d % p130) : (a + c) % p130 = (b + d) % p130 := by
  rw [Int.add_emod, h, h2, ← Int.add_emod]
theorem low_step (x r P : List Int) (i k : Nat) (hP : P.length = 5) (hk : k < r.length) (hj : i + k < 5) (h : valN P % p130 = mulS x r i k % p130) :
    valN (P.set (i + k) (P.getD (i + k) 0 + x.getD i 0 * r.getD k 0)) % p130 = mulS x r i (k + 1) % p130 := by
  rw [valN_set _ _ _ (by omega), mulS_step x r i k hk]
  refine rest_add _ _ _ _ h ?_
  rw [Int.add_comm (P.getD (i + k) 0), Int.add_sub_cancel]
theorem pow130 (j : Nat) (p : Int) : (67108864 ^ j * (5 * p)) % p130 = (67108864 ^ (j + 5) * p) % p130 := by
  rw [Int.pow_add, show (67108864 : Int) ^ 5 = 1361129467683753853853498429727072845824 from by decide]
  rw [show (67108864 : Int) ^ j * (5 * p) = 5 * (67108864 ^ j * p) from by ac_rfl, show (67108864 : Int) ^ j * 1361129467683753853853498429727072845824 * p = 1361129467683753853853498429727072845824 * (67108864 ^ j * p) from by ac_rfl]
  generalize (67108864 : Int) ^ j * p = q
  unfold p130
  omega
theorem high_step (x r P : List Int) (i k j : Nat) (hP : P.length = 5) (hk : k < r.length) (hj : j + 5 = i + k) (hj5 : j < 5) (h : valN P % p130 = mulS x r i k % p130) :
    valN (P.set j (P.getD j 0 + 5 * (x.getD i 0 * r.getD k 0))) % p130 = mulS x r i (k + 1) % p130 := by
  rw [valN_set _ _ _ (by omega), mulS_step x r i k hk, ← hj]
  refine rest_add _ _ _ _ h ?_
  rw [Int.add_comm (P.getD j 0), Int.add_sub_cancel]
  exact pow130 j _
theorem allB_set {P : List Int} {m n v : Int} (h : allB P m) (j : Nat) (hm : m ≤ n) (hv : 0 ≤ v ∧ v < n) : allB (P.set j v) n := fun i => by
  by_cases hj : j = i
  · subst hj
    by_cases hl : j < P.length
    · rw [List.getD_eq_getElem?_getD, List.getElem?_set_self hl]; exact hv
    · rw [List.getD_eq_getElem?_getD, List.getElem?_eq_none (by simp; omega)]
      exact ⟨Int.le_refl 0, by show (0 : Int) < n; omega⟩
  · rw [List.getD_eq_getElem?_getD, List.getElem?_set_ne hj, ← List.getD_eq_getElem?_getD]
    exact ⟨(h i).1, by have := (h i).2; omega⟩
theorem prod_bd (x y : Int) (hx : 0 ≤ x ∧ x < 268435456) (hy : 0 ≤ y ∧ y < 67108864) : 0 ≤ x * y ∧ x * y < 18014398509481984 := by
  refine ⟨Int.mul_nonneg hx.1 hy.1, ?_⟩
  have h1 : x * y ≤ 268435455 * y := Int.mul_le_mul_of_nonneg_right (by omega) hy.1
  omega

set_option maxRecDepth 100000 in
set_option maxHeartbeats 2000000 in
theorem onetime_times (x r : List Int) (w : World) (hl : x.length = 5) (hl2 : r.length = 5) (hb : allB x 268435456) (hb2 : allB r 67108864) :
    Calls Try.prog 19 #[.agg (cells64 x).toArray, .agg (cells64 r).toArray] w fun e w' => (∃ y, Settled y ∧ valN y % p130 = (valN x * valN r) % p130 ∧ e = .returned (.agg (cells64 y).toArray)) ∧ Below w.heap.size w w' := by
  obtain ⟨w4, hw4⟩ : ∃ w4, w4 = (((w.alloc (.cells (cells64 x).toArray 37)).alloc (.cells (cells64 r).toArray 37)).alloc (.cells (cells64 z5).toArray 37)).alloc (.cells (cells64 z5).toArray 37) := ⟨_, rfl⟩
  have r1 : RowIs w4 w.heap.size 37 (cells64 x) := hw4 ▸ (((RowIs.new w _ _).alloc _).alloc _).alloc _
  have r2 : RowIs w4 (w.heap.size + 1) 37 (cells64 r) := by
    have := ((RowIs.new (w.alloc (.cells (cells64 x).toArray 37)) 37 (cells64 r)).alloc (.cells (cells64 z5).toArray 37)).alloc (.cells (cells64 z5).toArray 37)
    rw [← hw4] at this
    simpa using this
  have r3 : RowIs w4 (w.heap.size + 1 + 1) 37 (cells64 z5) := by
    have := (RowIs.new ((w.alloc (.cells (cells64 x).toArray 37)).alloc (.cells (cells64 r).toArray 37)) 37 (cells64 z5)).alloc (.cells (cells64 z5).toArray 37)
    rw [← hw4] at this
    simpa using this
  have r4 : RowIs w4 (w.heap.size + 1 + 1 + 1) 37 (cells64 z5) := by
    have := RowIs.new (((w.alloc (.cells (cells64 x).toArray 37)).alloc (.cells (cells64 r).toArray 37)).alloc (.cells (cells64 z5).toArray 37)) 37 (cells64 z5)
    rw [← hw4] at this
    simpa using this
  have b1 : Below w.heap.size w w4 := hw4 ▸ ((((Below.refl _ _).alloc (Nat.le_refl _) _).alloc (by simp) _).alloc (by simp; omega) _).alloc (by simp; omega) _
  have HW4 : Hid ((((w.alloc (.cells (cells64 x).toArray 37)).alloc (.cells (cells64 r).toArray 37)).alloc (.cells (cells64 z5).toArray 37)).alloc (.cells (cells64 z5).toArray 37) = w4) := hw4.symm
  clear hw4
  obtain ⟨cx, hcx⟩ : ∃ cx, cx = (cells64 x).toArray := ⟨_, rfl⟩
  obtain ⟨cr, hcr⟩ : ∃ cr, cr = (cells64 r).toArray := ⟨_, rfl⟩
  rw [← hcx, ← hcr] at HW4
  rw [← hcx, ← hcr]
  clear hcx hcr
  have HST : Hid (∀ (P : List Int) (w : World), P.length = 5 → allB P 9223372036854775808 → Calls Try.prog 28 #[.agg (cells64 P).toArray] w fun e w' => e = .returned (.agg (cells64 (setL P)).toArray) ∧ Below w.heap.size w w') := onetime_settle
  have hs2 : ((w.alloc (.cells cx 37)).alloc (.cells cr 37)).heap.size = w.heap.size + 1 + 1 := by simp
  have hs3 : (((w.alloc (.cells cx 37)).alloc (.cells cr 37)).alloc (.cells (cells64 z5).toArray 37)).heap.size = w.heap.size + 1 + 1 + 1 := by simp
  go_enter Try.func19, Try.ntmps19
  go_wp2_with (first | (refine wpList_boxN (z := cx) rfl rfl rfl w.heap.size rfl ?_) | (refine wpList_boxN (z := cr) rfl rfl rfl (w.heap.size + 1) (by simp) ?_) | (refine wpList_allocN rfl rfl run_alloc5 (w.heap.size + 1 + 1) hs2 ?_) | (refine wpList_allocN rfl rfl run_alloc5 (w.heap.size + 1 + 1 + 1) hs3 ?_; rw [HW4.out]))
  clear HW4 hs2 hs3
  go_loopw [9] (fun i wr => ∃ (n : Nat) (P : List Int), n ≤ 5 ∧ i = .int .i64 n ∧ P.length = 5 ∧ allB P (5 * (n : Int) * 144115188075855872 + 1) ∧ valN P % p130 = mulS x r n 0 % p130 ∧ RowIs wr w.heap.size 37 (cells64 x) ∧ RowIs wr (w.heap.size + 1) 37 (cells64 r) ∧ RowIs wr (w.heap.size + 1 + 1) 37 (cells64 z5) ∧ RowIs wr (w.heap.size + 1 + 1 + 1) 37 (cells64 P) ∧ Below w.heap.size w wr) (fun i _ => 5 - (intOf i).toNat)
  case atStart => exact ⟨0, z5, by omega, rfl, rfl, allB_z5 _ (by decide), by rw [mulS_zero]; rfl, r1, r2, r3, r4, b1⟩
  case round =>
    clear r1 r2 r3 r4 b1
    obtain ⟨n, P, hn, rfl, hPl, hPb, hPv, q1, q2, q3, q4, hbel⟩ := hrel
    by_cases hlt : n < 5
    · have hd5 : decide ((n : Int) < 5) = true := by simp; omega
      go_wp2
      clear hd5
      go_loopw [12] (fun i wr => ∃ (k : Nat) (P : List Int), k ≤ 5 ∧ i = .int .i64 k ∧ P.length = 5 ∧ allB P ((5 * (n : Int) + k) * 144115188075855872 + 1) ∧ valN P % p130 = mulS x r n k % p130 ∧ RowIs wr w.heap.size 37 (cells64 x) ∧ RowIs wr (w.heap.size + 1) 37 (cells64 r) ∧ RowIs wr (w.heap.size + 1 + 1) 37 (cells64 z5) ∧ RowIs wr (w.heap.size + 1 + 1 + 1) 37 (cells64 P) ∧ Below w.heap.size w wr) (fun i _ => 5 - (intOf i).toNat)
      case atStart => exact ⟨0, P, by omega, rfl, hPl, by simpa using hPb, hPv, q1, q2, q3, q4, hbel⟩
      case round =>
        clear q1 q2 q3 q4 hbel hPl hPb hPv
        obtain ⟨k, P, hk, rfl, hPl, hPb, hPv, q1, q2, q3, q4, hbel⟩ := hrel
        by_cases hkl : k < 5
        · have hcx := q1.cellAt (cells64_at x n (by omega))
          have hcr := q2.cellAt (cells64_at r k (by omega))
          have hp := prod_bd _ _ (hb n) (hb2 k)
          have hxb := hb n
          have hrb := hb2 k
          have hx0 := hxb.1
          have hx1 := hxb.2
          have hr0 := hrb.1
          have hr1 := hrb.2
          have hp0 := hp.1
          have hp1 := hp.2
          clear hp hxb hrb
          by_cases h5 : n + k < 5
          · have hcp := q4.cellAt (cells64_at P (n + k) (by omega))
            have hz := q4.frozen (n + k)
            have hPk := hPb (n + k)
            have HV : Hid (valN (P.set (n + k) (P.getD (n + k) 0 + x.getD n 0 * r.getD k 0)) % p130 = mulS x r n (k + 1) % p130) := low_step x r P n k hPl (by omega) h5 hPv
            have HB : Hid (allB (P.set (n + k) (P.getD (n + k) 0 + x.getD n 0 * r.getD k 0)) ((5 * (n : Int) + ((k + 1 : Nat) : Int)) * 144115188075855872 + 1)) := allB_set hPb (n + k) (by omega) (by omega)
            have HN : Hid (RowIs (wr.setCell ⟨w.heap.size + 1 + 1 + 1, n + k, none⟩ (.int .u64 (P.getD (n + k) 0 + x.getD n 0 * r.getD k 0))) (w.heap.size + 1 + 1 + 1) 37 (cells64 (P.set (n + k) (P.getD (n + k) 0 + x.getD n 0 * r.getD k 0)))) := by
              have := q4.set (n + k) (.int .u64 (P.getD (n + k) 0 + x.getD n 0 * r.getD k 0))
              rw [cells64_set] at this
              exact this
            have HPL : Hid ((P.set (n + k) (P.getD (n + k) 0 + x.getD n 0 * r.getD k 0)).length = 5) := by show _ = _; rw [List.length_set, hPl]
            have g0 := hPk.1
            have g1 : P.getD (n + k) 0 < 9223372036854775808 := by omega
            clear hPk hPb hPv hPl
            have Q1 : Hid _ := q1
            have Q2 : Hid _ := q2
            have Q3 : Hid _ := q3
            clear q1 q2 q3 q4
            have ht : ((n : Int) + (k : Int)).toNat = n + k := by omega
            have hi5 : (n : Int) + (k : Int) < 5 := by omega
            have hi0 : 0 ≤ (n : Int) + (k : Int) := by omega
            generalize P.set (n + k) (P.getD (n + k) 0 + x.getD n 0 * r.getD k 0) = P' at *
            generalize P.getD (n + k) 0 = pv at *
            generalize x.getD n 0 = X at *
            generalize r.getD k 0 = R at *
            go_wp2
            go_region
            go_wp2
            go_roundw
            case rel => exact ⟨k + 1, P', by omega, by go_num, HPL.out, HB.out, HV.out, RowIs.setOther Q1.out (by show w.heap.size ≠ w.heap.size + 1 + 1 + 1; omega) _, RowIs.setOther Q2.out (by show w.heap.size + 1 ≠ w.heap.size + 1 + 1 + 1; omega) _, RowIs.setOther Q3.out (by show w.heap.size + 1 + 1 ≠ w.heap.size + 1 + 1 + 1; omega) _, HN.out, (hbel.setCell (by show w.heap.size ≤ w.heap.size + 1 + 1 + 1; omega) _).drew⟩
            case measure => simp [intOf]; omega
          · obtain ⟨j, hj⟩ : ∃ j, j + 5 = n + k := ⟨n + k - 5, by omega⟩
            have hj5 : j < 5 := by omega
            have hcp := q4.cellAt (cells64_at P j (by omega))
            have hz := q4.frozen j
            have hPk := hPb j
            have HV : Hid (valN (P.set j (P.getD j 0 + 5 * (x.getD n 0 * r.getD k 0))) % p130 = mulS x r n (k + 1) % p130) := high_step x r P n k j hPl (by omega) hj hj5 hPv
            have HB : Hid (allB (P.set j (P.getD j 0 + 5 * (x.getD n 0 * r.getD k 0))) ((5 * (n : Int) + ((k + 1 : Nat) : Int)) * 144115188075855872 + 1)) := allB_set hPb j (by omega) (by omega)
            have HN : Hid (RowIs (wr.setCell ⟨w.heap.size + 1 + 1 + 1, j, none⟩ (.int .u64 (P.getD j 0 + 5 * (x.getD n 0 * r.getD k 0)))) (w.heap.size + 1 + 1 + 1) 37 (cells64 (P.set j (P.getD j 0 + 5 * (x.getD n 0 * r.getD k 0))))) := by
              have := q4.set j (.int .u64 (P.getD j 0 + 5 * (x.getD n 0 * r.getD k 0)))
              rw [cells64_set] at this
              exact this
            have HPL : Hid ((P.set j (P.getD j 0 + 5 * (x.getD n 0 * r.getD k 0))).length = 5) := by show _ = _; rw [List.length_set, hPl]
            have g0 := hPk.1
            have g1 : P.getD j 0 < 9223372036854775808 := by omega
            clear hPk hPb hPv hPl
            have Q1 : Hid _ := q1
            have Q2 : Hid _ := q2
            have Q3 : Hid _ := q3
            clear q1 q2 q3 q4
            have ht : ((n : Int) + (k : Int) - 5).toNat = j := by omega
            have hi5 : ¬ ((n : Int) + (k : Int) < 5) := by omega
            have hi6 : (n : Int) + (k : Int) - 5 < 5 := by omega
            have hi0 : 0 ≤ (n : Int) + (k : Int) - 5 := by omega
            generalize P.set j (P.getD j 0 + 5 * (x.getD n 0 * r.getD k 0)) = P' at *
            generalize P.getD j 0 = pv at *
            generalize x.getD n 0 = X at *
            generalize r.getD k 0 = R at *
            go_wp2
            go_region
            go_wp2
            go_roundw
            case rel => exact ⟨k + 1, P', by omega, by go_num, HPL.out, HB.out, HV.out, RowIs.setOther Q1.out (by show w.heap.size ≠ w.heap.size + 1 + 1 + 1; omega) _, RowIs.setOther Q2.out (by show w.heap.size + 1 ≠ w.heap.size + 1 + 1 + 1; omega) _, RowIs.setOther Q3.out (by show w.heap.size + 1 + 1 ≠ w.heap.size + 1 + 1 + 1; omega) _, HN.out, (hbel.setCell (by show w.heap.size ≤ w.heap.size + 1 + 1 + 1; omega) _).drew⟩
            case measure => simp [intOf]; omega
        · obtain rfl : k = 5 := by omega
          have HB : Hid (allB P (5 * ((n + 1 : Nat) : Int) * 144115188075855872 + 1)) := by
            have e : (5 * (n : Int) + ((5 : Nat) : Int)) * 144115188075855872 + 1 = 5 * ((n + 1 : Nat) : Int) * 144115188075855872 + 1 := by omega
            exact e ▸ hPb
          have HV : Hid (valN P % p130 = mulS x r (n + 1) 0 % p130) := by show _ = _; rw [← mulS_next x r n hl2 (by omega)]; exact hPv
          clear hPb hPv
          go_wp2
          go_roundw
          case rel => exact ⟨n + 1, P, by omega, by go_num, hPl, HB.out, HV.out, q1, q2, q3, q4, hbel⟩
          case measure => simp [intOf]; omega
    · obtain rfl : n = 5 := by omega
      rw [mulS_end x r hl] at hPv
      have hB2 : allB P 9223372036854775808 := allB_mono hPb (by decide)
      have hsp := setL_spec P hPl (allB_mono hPb (by decide))
      have HSP : Hid (Settled (setL P) ∧ valN (setL P) % p130 = (valN x * valN r) % p130) := ⟨hsp.1, hsp.2.trans hPv⟩
      have hst := HST.out P
      have HS : Hid _ := fun w => hst w hPl hB2
      clear hst hsp hPv hPb hB2 HST q1 q2
      have hlen : (cells64 P).length = 5 := by rw [cells64_len, hPl]
      have hlen2 : (cells64 (setL P)).length = 5 := by rw [cells64_len, setL_len, hPl]
      have hone := all_oneCell_toArray (cells64_one (setL P))
      have hz5 : (cells64 z5).length = 5 := rfl
      generalize setL P = y at *
      have HY : Hid (∃ y, Settled y ∧ valN y % p130 = (valN x * valN r) % p130 ∧ cells64 y = cells64 y) := ⟨y, HSP.out.1, HSP.out.2, rfl⟩
      generalize hcs : cells64 y = cs at *
      have HE : Hid (cells64 y = cs) := hcs
      generalize cells64 P = cp at *
      clear hcs
      have hlt8 : w.heap.size + 1 + 1 + 1 < wr.heap.size := q4.lt
      have Q4 : Hid _ := q4.all
      clear q4
      go_wp2_with (first | (refine wpList_load_mid rfl 37 _ rfl (w.heap.size + 1 + 1 + 1) 0 rfl cp _ ?_ Try.underlying37 rfl (by rw [size5, hlen]) ?_; exact Q4.out))
      refine (HS.out _).mono ?_
      rintro e w5 ⟨rfl, b2⟩
      have p3 : RowIs w5 (w.heap.size + 1 + 1) 37 (cells64 z5) := q3.below b2 (by omega)
      have b3 : Below w.heap.size w w5 := hbel.trans (b2.mono hbel.size)
      clear q3 b2 hbel
      go_wp2_with (first | (refine wpList_store_mid rfl 37 _ _ rfl (w.heap.size + 1 + 1) 0 cs.toArray rfl rfl ?_ (by rw [size5]; simp [hlen2]) hone ?_; exact p3.there (by simp [hlen2, hz5])))
      refine bodyPost_ret (v := .agg cs.toArray) (results_row rfl _ _ (w.heap.size + 1 + 1) cs _ (by simp [Act.put]) ?_ Try.underlying37 rfl (by rw [size5, hlen2])) rfl ⟨⟨y, HSP.out.1, HSP.out.2, by rw [HE.out]⟩, bel_setCells b3 (by omega) _ _⟩
      exact World.rangeAt_setCells_same _ _ _ _ (p3.there (by simp [hlen2, hz5]))

end Go.Proofs.Ytjccdfnhcifgiaa
