/-
  The contract of package onetime's least.
-/
import Derived.Test.YtjccdfnhcifgiaaPoly7
namespace Go.Proofs.Ytjccdfnhcifgiaa
open Go.RowKit
set_option linter.unusedVariables false
set_option maxRecDepth 100000
set_option linter.unusedSimpArgs false

/-- What is picked, by the mask. -/
theorem least_pick (x : List Int) (h : Settled x) : ∃ (z : List Int) (T : Int), z.length = 5 ∧ Fair z ∧ valN z = valN x % p130 ∧ IntKind.u64.wrap (-carO (addL (setL x) fiveL 5) 5) = T ∧
    ∀ k, ∃ A B, bits BinOp.andNot IntKind.u64 ((setL x).getD k 0) T = A ∧ bits BinOp.and IntKind.u64 ((carL (addL (setL x) fiveL 5) 5).getD k 0) T = B ∧ bits BinOp.or IntKind.u64 A B = z.getD k 0 := by
  obtain ⟨hf, hv⟩ := setL_fair x h
  have hl : (carL (addL (setL x) fiveL 5) 5).length = 5 := by rw [carL_len, addL_len]; exact hf.1
  have hL := carL_lt (addL (setL x) fiveL 5) (by rw [addL_len]; exact hf.1)
  rcases more_five _ hf with ⟨h0, h1⟩ | ⟨h0, h1, h2⟩
  · refine ⟨setL x, 0, hf.1, hf, by rw [← h1, hv], by rw [h0]; rfl, fun k => ⟨_, _, rfl, rfl, ?_⟩⟩
    have := pick_none _ _ (hf.2 k) (hL k)
    rw [this.1, this.2.1, this.2.2]
  · refine ⟨carL (addL (setL x) fiveL 5) 5, 18446744073709551615, hl, h1, by rw [← h2, hv], by rw [h0]; rfl, fun k => ⟨_, _, rfl, rfl, ?_⟩⟩
    have := pick_all _ _ (hf.2 k) (hL k)
    rw [this.1, this.2.1, this.2.2]
theorem addL_bd {x y : List Int} {m n : Int} (hl : x.length = 5) (hy : y.length = 5) (hx : allB x m) (hy2 : allB y n) : allB (addL x y 5) (m + n) := by
  obtain ⟨a, b, c, d, e, rfl⟩ := five_of x hl
  obtain ⟨a', b', c', d', e', rfl⟩ := five_of y hy
  have h0 := hx 0
  have h1 := hx 1
  have h2 := hx 2
  have h3 := hx 3
  have h4 := hx 4
  have g0 := hy2 0
  have g1 := hy2 1
  have g2 := hy2 2
  have g3 := hy2 3
  have g4 := hy2 4
  simp only [List.getD_cons_zero, List.getD_cons_succ] at h0 h1 h2 h3 h4 g0 g1 g2 g3 g4
  rw [show addL [a, b, c, d, e] [a', b', c', d', e'] 5 = [a + a', b + b', c + c', d + d', e + e'] from rfl]
  exact allB_five (by omega) (by omega) (by omega) (by omega) (by omega) (by omega)

set_option maxRecDepth 100000 in
set_option maxHeartbeats 2000000 in
theorem onetime_least (x : List Int) (w : World) (h : Settled x) :
    Calls Try.prog 22 #[.agg (cells64 x).toArray] w fun e w' => (∃ y, Fair y ∧ valN y = valN x % p130 ∧ e = .returned (.agg (cells64 y).toArray)) ∧ Below w.heap.size w w' := by
  obtain ⟨w2, hw2⟩ : ∃ w2, w2 = (w.alloc (.cells (cells64 x).toArray 37)).alloc (.cells (cells64 z5).toArray 37) := ⟨_, rfl⟩
  have r1 : RowIs w2 w.heap.size 37 (cells64 x) := hw2 ▸ (RowIs.new w _ _).alloc _
  have r2 : RowIs w2 (w.heap.size + 1) 37 (cells64 z5) := by
    have := RowIs.new (w.alloc (.cells (cells64 x).toArray 37)) 37 (cells64 z5)
    rw [← hw2] at this
    simpa using this
  have b1 : Below w.heap.size w w2 := hw2 ▸ ((Below.refl _ _).alloc (Nat.le_refl _) _).alloc (by simp) _
  have s2 : w2.heap.size = w.heap.size + 1 + 1 := by rw [hw2]; simp
  have HW2 : Hid ((w.alloc (.cells (cells64 x).toArray 37)).alloc (.cells (cells64 z5).toArray 37) = w2) := hw2.symm
  clear hw2
  have hs1 : (w.alloc (.cells (cells64 x).toArray 37)).heap.size = w.heap.size + 1 := by simp
  obtain ⟨z, T, hzl, hzf, hzv, hT, hpick⟩ := least_pick x h
  have hxl : x.length = 5 := h.1
  have hxb : allB x 67141632 := h.2.1
  have hyb : allB (setL x) 67108864 := (setL_fair x h).1.2
  have hyl : (setL x).length = 5 := by rw [setL_len, hxl]
  have hfb : allB fiveL 6 := allB_five (by decide) ⟨by decide, by decide⟩ ⟨by decide, by decide⟩ ⟨by decide, by decide⟩ ⟨by decide, by decide⟩ ⟨by decide, by decide⟩
  have HSE : Hid (∀ w : World, Calls Try.prog 28 #[.agg (cells64 x).toArray] w fun e w' => e = .returned (.agg (cells64 (setL x)).toArray) ∧ Below w.heap.size w w') := fun w => onetime_settle x w hxl (allB_mono hxb (by decide))
  have HPL : Hid (∀ w : World, Calls Try.prog 20 #[.agg (cells64 (setL x)).toArray, .agg (cells64 fiveL).toArray] w fun e w' => e = .returned (.agg (cells64 (addL (setL x) fiveL 5)).toArray) ∧ Below w.heap.size w w') := fun w => onetime_plus (setL x) fiveL w hyl rfl (allB_mono hyb (by decide)) (allB_mono hfb (by decide))
  have hsl : (addL (setL x) fiveL 5).length = 5 := by rw [addL_len, hyl]
  have hsb : allB (addL (setL x) fiveL 5) 67108870 := addL_bd hyl rfl hyb hfb
  have HCA : Hid (∀ w : World, Calls Try.prog 32 #[.agg (cells64 (addL (setL x) fiveL 5)).toArray] w fun e w' => e = .returned (.tuple #[.agg (cells64 (carL (addL (setL x) fiveL 5) 5)).toArray, .int .u64 (carO (addL (setL x) fiveL 5) 5)]) ∧ Below w.heap.size w w') := fun w => onetime_carry _ w hsl (allB_mono hsb (by decide))
  have hll : (carL (addL (setL x) fiveL 5) 5).length = 5 := by rw [carL_len, hsl]
  have HZ : Hid (Fair z ∧ valN z = valN x % p130) := ⟨hzf, hzv⟩
  have ho := carO_bd (addL (setL x) fiveL 5) (allB_mono hsb (by decide)) 5
  have ho0 := ho.1
  have ho1 := ho.2
  clear hxb hyb hfb hsb h hzf hzv hsl ho
  have hlx : (cells64 x).length = 5 := by rw [cells64_len, hxl]
  clear hxl
  generalize carO (addL (setL x) fiveL 5) 5 = O at *
  generalize carL (addL (setL x) fiveL 5) 5 = l at *
  generalize addL (setL x) fiveL 5 = s at *
  generalize setL x = y at *
  have hly : (cells64 y).length = 5 := by rw [cells64_len, hyl]
  have hoy := all_oneCell_toArray (cells64_one y)
  have hlc : (cells64 l).length = 5 := by rw [cells64_len, hll]
  have hol := all_oneCell_toArray (cells64_one l)
  have hz5 : (cells64 z5).length = 5 := rfl
  obtain ⟨cx, hcx⟩ : ∃ cx, cx = cells64 x := ⟨_, rfl⟩
  rw [← hcx] at r1 HW2 hs1 HSE hlx ⊢
  have HZV : Hid (valN x = valN x) := rfl
  clear hcx
  have HP : Hid (∀ k : Nat, ∃ A B, bits BinOp.andNot IntKind.u64 (y.getD k 0) T = A ∧ bits BinOp.and IntKind.u64 (l.getD k 0) T = B ∧ bits BinOp.or IntKind.u64 A B = z.getD k 0) := hpick
  clear hpick
  go_enter Try.func22, Try.ntmps22
  go_wp2_with (first | (refine wpList_boxN (z := cx.toArray) rfl rfl rfl w.heap.size rfl ?_) | (refine wpList_allocN rfl rfl run_alloc5 (w.heap.size + 1) hs1 ?_; rw [HW2.out]) | (refine wpList_load_mid rfl 37 _ rfl w.heap.size 0 rfl cx _ r1.all Try.underlying37 rfl (by rw [size5, hlx]) ?_))
  refine (HSE.out _).mono ?_
  rintro e w3 ⟨rfl, b2⟩
  have p1 : RowIs w3 w.heap.size 37 cx := r1.below b2 (by omega)
  have p2 : RowIs w3 (w.heap.size + 1) 37 (cells64 z5) := r2.below b2 (by omega)
  have b3 : Below w.heap.size w w3 := b1.trans (b2.mono b1.size)
  have s3 : w.heap.size + 1 + 1 ≤ w3.heap.size := by have := b2.size; omega
  clear r1 r2 b1 b2 s2 HW2 hs1
  have HT : Hid (w3.there w.heap.size 0 (cells64 y).toArray.size) := p1.there (by simp [hly, hlx])
  generalize hw4 : w3.setCells w.heap.size 0 (cells64 y) = w4
  have q1 : RowIs w4 w.heap.size 37 (cells64 y) := hw4 ▸ p1.putAll (by rw [hly, hlx])
  have q2 : RowIs w4 (w.heap.size + 1) 37 (cells64 z5) := (hw4 ▸ (Upon.refl w.heap.size _).setCells 0 (cells64 y) : Upon w.heap.size _ w4).row p2 (by simp)
  have q3 : Below w.heap.size w w4 := hw4 ▸ bel_setCells b3 (Nat.le_refl _) 0 (cells64 y)
  have s4 : w.heap.size + 1 + 1 ≤ w4.heap.size := by rw [← hw4, size_setCells]; exact s3
  have HW4 : Hid (w3.setCells w.heap.size 0 (cells64 y).toArray.toList = w4) := hw4
  clear hw4 p1 p2 b3 s3
  have hys : (Try.prog.info? 37).map (·.size) = some (cells64 y).toArray.size := by rw [size5]; simp [hly]
  have Q1 : Hid _ := q1.all
  go_wp2_with (first | (refine wpList_store_mid rfl 37 _ _ rfl w.heap.size 0 (cells64 y).toArray rfl rfl ?_ hys hoy ?_; exact HT.out; rw [HW4.out]) | (refine wpList_load_mid rfl 37 _ rfl w.heap.size 0 rfl (cells64 y) _ ?_ Try.underlying37 rfl (by rw [size5, hly]) ?_; exact Q1.out) | (refine wpList_build rfl 37 _ rfl (cells64 fiveL).toArray (by kernel_rfl) ?_))
  refine (HPL.out _).mono ?_
  rintro e w5 ⟨rfl, b5⟩
  go_wp2_with fail
  refine (HCA.out _).mono ?_
  rintro e w6 ⟨rfl, b6⟩
  have p1 : RowIs w6 w.heap.size 37 (cells64 y) := (q1.below b5 (by omega)).below b6 (by have := b5.size; omega)
  have p2 : RowIs w6 (w.heap.size + 1) 37 (cells64 z5) := (q2.below b5 (by omega)).below b6 (by have := b5.size; omega)
  have b7 : Below w.heap.size w w6 := (q3.trans (b5.mono q3.size)).trans (b6.mono (by have := q3.size; have := b5.size; omega))
  have s6 : w.heap.size + 1 + 1 ≤ w6.heap.size := by have := b5.size; have := b6.size; omega
  clear q1 q2 q3 b5 b6 s4 Q1 HT HW4 hys hoy
  have HW7 : Hid (∃ g, g = w6.heap.size) := ⟨_, rfl⟩
  obtain ⟨g, hg⟩ := HW7.out
  have HG : Hid (w6.heap.size = g) := hg.symm
  rw [← hg] at s6
  obtain ⟨w7, hw7⟩ : ∃ w7, w7 = w6.alloc (.cells (cells64 z5).toArray 37) := ⟨_, rfl⟩
  have t1 : RowIs w7 w.heap.size 37 (cells64 y) := hw7 ▸ p1.alloc _
  have t2 : RowIs w7 (w.heap.size + 1) 37 (cells64 z5) := hw7 ▸ p2.alloc _
  have t3 : RowIs w7 g 37 (cells64 z5) := by
    have := RowIs.new w6 37 (cells64 z5)
    rw [← hw7, ← hg] at this
    exact this
  have b8 : Below w.heap.size w w7 := hw7 ▸ b7.alloc (by omega) _
  have HA : Hid (w6.alloc (.cells (cells64 z5).toArray 37) = w7) := hw7.symm
  clear hw7 hg HW7 p1 p2 b7
  have HT : Hid (w7.there g 0 (cells64 l).toArray.size) := t3.there (by simp [hlc, hz5])
  generalize hw8 : w7.setCells g 0 (cells64 l) = w8
  have u1 : RowIs w8 w.heap.size 37 (cells64 (mixL y z 0)) := (hw8 ▸ (Upon.refl g _).setCells 0 (cells64 l) : Upon g _ w8).row t1 (by omega)
  have u2 : RowIs w8 (w.heap.size + 1) 37 (cells64 z5) := (hw8 ▸ (Upon.refl g _).setCells 0 (cells64 l) : Upon g _ w8).row t2 (by omega)
  have u3 : RowIs w8 g 37 (cells64 l) := hw8 ▸ t3.putAll (by rw [hlc, hz5])
  have b9 : Below w.heap.size w w8 := hw8 ▸ bel_setCells b8 (by omega) 0 (cells64 l)
  have HW8 : Hid (w7.setCells g 0 (cells64 l).toArray.toList = w8) := hw8
  clear hw8 t1 t2 t3 b8
  have hls : (Try.prog.info? 37).map (·.size) = some (cells64 l).toArray.size := by rw [size5]; simp [hlc]
  go_wp2_with (first | (refine wpList_allocN rfl rfl run_alloc5 g HG.out ?_; rw [HA.out]) | (refine wpList_store_mid rfl 37 _ _ rfl g 0 (cells64 l).toArray rfl rfl ?_ hls hol ?_; exact HT.out; rw [HW8.out]))
  clear HT HW8 hls hol HA HG HCA HPL HSE hT ho0 ho1
  go_loopw [18] (fun i wr => ∃ k : Nat, k ≤ 5 ∧ i = .int .i64 k ∧ RowIs wr w.heap.size 37 (cells64 (mixL y z k)) ∧ RowIs wr (w.heap.size + 1) 37 (cells64 z5) ∧ RowIs wr g 37 (cells64 l) ∧ Below w.heap.size w wr) (fun i _ => 5 - (intOf i).toNat)
  case atStart => exact ⟨0, by omega, rfl, u1, u2, u3, b9⟩
  case round =>
    clear u1 u2 u3 b9
    obtain ⟨k, hk, rfl, q1, q2, q3, hbel⟩ := hrel
    by_cases hlt : k < 5
    · have hc := q1.cellAt (cells64_at (mixL y z k) k (by rw [mixL_len]; omega))
      rw [mixL_at y z k k (Nat.le_refl _)] at hc
      have hz := q1.frozen k
      have hc2 := q3.cellAt (cells64_at l k (by omega))
      obtain ⟨A, B, hA, hB, hAB⟩ := HP.out k
      have HN : Hid (RowIs (wr.setCell ⟨w.heap.size, k, none⟩ (.int .u64 (z.getD k 0))) w.heap.size 37 (cells64 (mixL y z (k + 1)))) := by
        have := q1.set k (.int .u64 (z.getD k 0))
        rw [cells64_set] at this
        exact this
      have Q2 : Hid _ := q2
      have Q3 : Hid _ := q3
      clear q1 q2 q3
      have hne : w.heap.size ≠ g := by omega
      generalize y.getD k 0 = X at *
      generalize l.getD k 0 = L at *
      generalize z.getD k 0 = Z at *
      go_wp2
      go_region
      go_wp2
      go_roundw
      case rel => exact ⟨k + 1, by omega, by go_num, HN.out, RowIs.setOther Q2.out (by show w.heap.size + 1 ≠ w.heap.size; omega) _, RowIs.setOther Q3.out (by show g ≠ w.heap.size; omega) _, (hbel.setCell (Nat.le_refl _) _).drew⟩
      case measure => simp [intOf]; omega
    · obtain rfl : k = 5 := by omega
      rw [mixL_all y z hyl hzl] at q1
      have hlen : (cells64 z).length = 5 := by rw [cells64_len, hzl]
      have hone := all_oneCell_toArray (cells64_one z)
      obtain ⟨cs, hcs⟩ : ∃ cs, cs = cells64 z := ⟨_, rfl⟩
      rw [← hcs] at q1 hlen hone
      have HE : Hid (cs = cells64 z) := hcs
      clear hcs
      go_wp2_with (first | (refine wpList_load_mid rfl 37 _ rfl w.heap.size 0 rfl cs _ q1.all Try.underlying37 rfl (by rw [size5, hlen]) ?_) | (refine wpList_store_mid rfl 37 _ _ rfl (w.heap.size + 1) 0 cs.toArray rfl rfl (q2.there (by simp [hlen, hz5])) (by rw [size5]; simp [hlen]) hone ?_))
      refine bodyPost_ret (v := .agg cs.toArray) (results_row rfl _ _ (w.heap.size + 1) cs _ (by simp [Act.put]) ?_ Try.underlying37 rfl (by rw [size5, hlen])) rfl ⟨⟨z, HZ.out.1, HZ.out.2, by rw [HE.out]⟩, bel_setCells hbel (by omega) _ _⟩
      exact World.rangeAt_setCells_same _ _ _ _ (q2.there (by simp [hlen, hz5]))

end Go.Proofs.Ytjccdfnhcifgiaa
