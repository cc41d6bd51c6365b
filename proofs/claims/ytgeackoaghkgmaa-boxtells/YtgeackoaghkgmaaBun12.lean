/-
  Parts of this proof, one behind the other: Poly7, Poly8.
-/
import Derived.Test.YtgeackoaghkgmaaBun11

/-
  Plain facts: the number of a text's limbs; the least number; two words of a number.
-/
namespace Go.Proofs.Ytgeackoaghkgmaa
open Go.RowKit
set_option linter.unusedVariables false
set_option maxRecDepth 100000

theorem leV_nil : leV [] = 0 := rfl
theorem leV_cons (b : UInt8) (l : List UInt8) : leV (b :: l) = (b.toNat : Int) + 256 * leV l := rfl
theorem leV_append (a b : List UInt8) : leV (a ++ b) = leV a + 256 ^ a.length * leV b := by
  unfold leV
  rw [List.map_append, valD_append, List.length_map]
theorem leV_rev (l : List UInt8) : numOf l.reverse = leV l := by
  induction l with
  | nil => rfl
  | cons b l ih => rw [List.reverse_cons, numOf_snoc, ih, leV_cons]; omega
theorem leV_split (l : List UInt8) (n : Nat) : leV (l.take n) = leV l % 256 ^ n ∧ leV (l.drop n) = leV l / 256 ^ n := by
  by_cases h : n ≤ l.length
  · have e := leV_append (l.take n) (l.drop n)
    rw [List.take_append_drop, List.length_take, Nat.min_eq_left h] at e
    have b := leV_bd (l.take n)
    rw [List.length_take, Nat.min_eq_left h] at b
    have hp : (0 : Int) < 256 ^ n := Int.pow_pos (by decide)
    constructor
    · rw [e, Int.add_mul_emod_self_left, Int.emod_eq_of_lt b.1 b.2]
    · rw [e, Int.add_mul_ediv_left _ _ (by omega), Int.ediv_eq_zero_of_lt b.1 b.2, Int.zero_add]
  · rw [List.take_of_length_le (by omega), List.drop_of_length_le (by omega)]
    have b := leV_bd l
    have hp : (256 : Int) ^ l.length ≤ 256 ^ n := pow256_le _ _ (by omega)
    exact ⟨(Int.emod_eq_of_lt b.1 (by omega)).symm, (Int.ediv_eq_zero_of_lt b.1 (by omega)).symm⟩
theorem littleS_le (s : ByteArray) : littleS s = leV s.data.toList % 18446744073709551616 := by
  unfold littleS
  rw [leV_rev, (leV_split s.data.toList 8).1]
  rfl
theorem extract_list (b : ByteArray) (m : Nat) (h : m ≤ b.size) : (b.extract m b.size).data.toList = b.data.toList.drop m := by
  rw [ByteArray.data_extract, Array.toList_extract]
  rw [List.extract_eq_take_drop]
  exact List.take_of_length_le (by simp)
theorem little_from (b : ByteArray) (m : Nat) : littleS (b.extract (min m b.size) b.size) = leV b.data.toList / 256 ^ m % 18446744073709551616 := by
  rw [littleS_le, extract_list b _ (by omega), ← (leV_split b.data.toList m).2]
  congr 2
  by_cases h : m ≤ b.size
  · rw [Nat.min_eq_left h]
  · rw [List.drop_of_length_le (l := b.data.toList) (i := m) (by simp; omega), List.drop_of_length_le (by simp; omega)]

theorem nuL_five (b : ByteArray) : nuL b 5 = [limbN b 0, limbN b 1, limbN b 2, limbN b 3, limbN b 4] := rfl
theorem limb_of (b : ByteArray) : limbN b 0 = leV b.data.toList % 67108864 ∧ limbN b 1 = leV b.data.toList / 67108864 % 67108864 ∧ limbN b 2 = leV b.data.toList / 4503599627370496 % 67108864 ∧ limbN b 3 = leV b.data.toList / 302231454903657293676544 % 67108864 ∧ limbN b 4 = leV b.data.toList / 20282409603651670423947251286016 % 67108864 := by
  unfold limbN
  rw [little_from, little_from, little_from, little_from, little_from]
  generalize leV b.data.toList = v
  refine ⟨?_, ?_, ?_, ?_, ?_⟩
  · rw [show (256 : Int) ^ (3 * 0) = 1 from by decide, show (2 : Int) ^ (2 * 0) = 1 from by decide]; omega
  · rw [show (256 : Int) ^ (3 * 1) = 16777216 from by decide, show (2 : Int) ^ (2 * 1) = 4 from by decide]; omega
  · rw [show (256 : Int) ^ (3 * 2) = 281474976710656 from by decide, show (2 : Int) ^ (2 * 2) = 16 from by decide]; omega
  · rw [show (256 : Int) ^ (3 * 3) = 4722366482869645213696 from by decide, show (2 : Int) ^ (2 * 3) = 64 from by decide]; omega
  · rw [show (256 : Int) ^ (3 * 4) = 79228162514264337593543950336 from by decide, show (2 : Int) ^ (2 * 4) = 256 from by decide]; omega
theorem nuL_spec (b : ByteArray) (h : leV b.data.toList < 1361129467683753853853498429727072845824) : Fair (nuL b 5) ∧ valN (nuL b 5) = leV b.data.toList := by
  rw [nuL_five]
  obtain ⟨h0, h1, h2, h3, h4⟩ := limb_of b
  have hb := (leV_bd b.data.toList).1
  rw [h0, h1, h2, h3, h4]
  generalize leV b.data.toList = v at *
  clear h0 h1 h2 h3 h4
  refine ⟨⟨rfl, allB_five (by decide) (by omega) (by omega) (by omega) (by omega) (by omega)⟩, ?_⟩
  simp only [valN]
  omega

/-! The least number. -/
def fiveL : List Int := [5, 0, 0, 0, 0]
theorem fair_bd {y : List Int} (h : Fair y) : 0 ≤ valN y ∧ valN y < 1361129467683753853853498429727072845824 := by
  obtain ⟨hl, hb⟩ := h
  obtain ⟨a, b, c, d, e, rfl⟩ := five_of y hl
  have h0 := hb 0
  have h1 := hb 1
  have h2 := hb 2
  have h3 := hb 3
  have h4 := hb 4
  simp only [List.getD_cons_zero, List.getD_cons_succ] at h0 h1 h2 h3 h4
  simp only [valN]
  omega
/-- Carrying x + 5: 1 is carried out just if x reaches the modulus. -/
theorem more_five (y : List Int) (h : Fair y) : (carO (addL y fiveL 5) 5 = 0 ∧ valN y % p130 = valN y) ∨ (carO (addL y fiveL 5) 5 = 1 ∧ Fair (carL (addL y fiveL 5) 5) ∧ valN y % p130 = valN (carL (addL y fiveL 5) 5)) := by
  have hv := fair_bd h
  obtain ⟨hl, hb⟩ := h
  have hf : Fair (carL (addL y fiveL 5) 5) := ⟨by rw [carL_len, addL_len, hl], carL_lt _ (by rw [addL_len, hl])⟩
  have hfv := fair_bd hf
  obtain ⟨a, b, c, d, e, rfl⟩ := five_of y hl
  have h0 := hb 0
  have h1 := hb 1
  have h2 := hb 2
  have h3 := hb 3
  have h4 := hb 4
  simp only [List.getD_cons_zero, List.getD_cons_succ] at h0 h1 h2 h3 h4
  have e0 : addL [a, b, c, d, e] fiveL 5 = [a + 5, b + 0, c + 0, d + 0, e + 0] := rfl
  rw [e0] at hf hfv ⊢
  have e1 := carL_five (a + 5) (b + 0) (c + 0) (d + 0) (e + 0)
  have e2 := carO_five (a + 5) (b + 0) (c + 0) (d + 0) (e + 0)
  have hsum : valN (carL [a + 5, b + 0, c + 0, d + 0, e + 0] 5) + 1361129467683753853853498429727072845824 * carO [a + 5, b + 0, c + 0, d + 0, e + 0] 5 = valN [a, b, c, d, e] + 5 := by
    rw [e1, e2]
    simp only [valN]
    omega
  generalize carO [a + 5, b + 0, c + 0, d + 0, e + 0] 5 = O at *
  generalize valN (carL [a + 5, b + 0, c + 0, d + 0, e + 0] 5) = L at *
  generalize valN [a, b, c, d, e] = V at *
  have hO : O = 0 ∨ O = 1 := by omega
  have hr := rest_last V hv.1 hv.2
  rcases hO with rfl | rfl
  · left
    refine ⟨rfl, ?_⟩
    rw [hr, if_neg (by omega)]
  · right
    refine ⟨rfl, hf, ?_⟩
    rw [hr, if_pos (by omega)]
    omega

/-- Limbs taken over one by one. -/
def mixL (y z : List Int) : Nat → List Int
  | 0 => y
  | k + 1 => (mixL y z k).set k (z.getD k 0)
theorem mixL_len (y z : List Int) : ∀ k, (mixL y z k).length = y.length
  | 0 => rfl
  | k + 1 => by rw [mixL, List.length_set, mixL_len y z k]
theorem mixL_at (y z : List Int) (j : Nat) : ∀ k, k ≤ j → (mixL y z k).getD j 0 = y.getD j 0
  | 0, _ => rfl
  | k + 1, h => by
    rw [mixL, List.getD_eq_getElem?_getD, List.getElem?_set_ne (by omega), ← List.getD_eq_getElem?_getD]
    exact mixL_at y z j k (by omega)
theorem mixL_all (y z : List Int) (hy : y.length = 5) (hz : z.length = 5) : mixL y z 5 = z := by
  obtain ⟨a, b, c, d, e, rfl⟩ := five_of y hy
  obtain ⟨a', b', c', d', e', rfl⟩ := five_of z hz
  rfl
/-- What the mask takes. -/
theorem pick_none (X L : Int) (hX : 0 ≤ X ∧ X < 67108864) (hL : 0 ≤ L ∧ L < 67108864) : bits BinOp.andNot IntKind.u64 X 0 = X ∧ bits BinOp.and IntKind.u64 L 0 = 0 ∧ bits BinOp.or IntKind.u64 X 0 = X := by
  rw [u64_andNot _ _ hX.1 (by omega) (by decide) (by decide), u64_and _ _ hL.1 (by omega) (by decide) (by decide), u64_or _ _ hX.1 (by omega) (by decide) (by decide)]
  rw [show (18446744073709551615 - (0 : Int).toNat) = 2 ^ 64 - 1 from rfl, Nat.and_two_pow_sub_one_eq_mod]
  refine ⟨?_, ?_, ?_⟩
  · omega
  · simp
  · simp; omega
theorem pick_all (X L : Int) (hX : 0 ≤ X ∧ X < 67108864) (hL : 0 ≤ L ∧ L < 67108864) : bits BinOp.andNot IntKind.u64 X 18446744073709551615 = 0 ∧ bits BinOp.and IntKind.u64 L 18446744073709551615 = L ∧ bits BinOp.or IntKind.u64 0 L = L := by
  rw [u64_andNot _ _ hX.1 (by omega) (by decide) (by decide), u64_and _ _ hL.1 (by omega) (by decide) (by decide), u64_or _ _ (by decide) (by decide) hL.1 (by omega)]
  rw [show (18446744073709551615 : Int).toNat = 2 ^ 64 - 1 from rfl, Nat.and_two_pow_sub_one_eq_mod]
  refine ⟨?_, ?_, ?_⟩
  · simp
  · omega
  · simp; omega

end Go.Proofs.Ytgeackoaghkgmaa

/-
  The contract of package onetime's least.
-/
namespace Go.Proofs.Ytgeackoaghkgmaa
open Go.RowKit
set_option linter.unusedVariables false
set_option maxRecDepth 100000
set_option linter.unusedSimpArgs false

/-- What is picked, by the mask. -/
theorem least_pick (x : List Int) (h : Settled x) : ∃ (z : List Int) (T : Int), z.length = 5 ∧ Fair z ∧ valN z = valN x % p130 ∧ IntKind.u64.wrap (-carO (addL (setL x) fiveL 5) 5) = T ∧
    ∀ k, ∃ A B, bits BinOp.andNot IntKind.u64 ((setL x).getD k 0) T = A ∧ bits BinOp.and IntKind.u64 ((carL (addL (setL x) fiveL 5) 5).getD k 0) T = B ∧ bits BinOp.or IntKind.u64 A B = z.getD k 0 := by
  obtain ⟨hf, hv⟩ := setL_fair x h
  have hl : (carL (addL (setL x) fiveL 5) 5).length = 5 := by rw [carL_len, addL_len]; exact hf.1
  have hL := carL_lt (addL (setL x) fiveL 5) (by rw [addL_len]; exact hf.1)
  rcases more_five _ hf with ⟨h0, h1⟩ | ⟨h0, h1, h2⟩
  · refine ⟨setL x, 0, hf.1, hf, by rw [← h1, hv], by rw [h0]; rfl, fun k => ⟨_, _, rfl, rfl, ?_⟩⟩
    have := pick_none _ _ (hf.2 k) (hL k)
    rw [this.1, this.2.1, this.2.2]
  · refine ⟨carL (addL (setL x) fiveL 5) 5, 18446744073709551615, hl, h1, by rw [← h2, hv], by rw [h0]; rfl, fun k => ⟨_, _, rfl, rfl, ?_⟩⟩
    have := pick_all _ _ (hf.2 k) (hL k)
    rw [this.1, this.2.1, this.2.2]
theorem addL_bd {x y : List Int} {m n : Int} (hl : x.length = 5) (hy : y.length = 5) (hx : allB x m) (hy2 : allB y n) : allB (addL x y 5) (m + n) := by
  obtain ⟨a, b, c, d, e, rfl⟩ := five_of x hl
  obtain ⟨a', b', c', d', e', rfl⟩ := five_of y hy
  have h0 := hx 0
  have h1 := hx 1
  have h2 := hx 2
  have h3 := hx 3
  have h4 := hx 4
  have g0 := hy2 0
  have g1 := hy2 1
  have g2 := hy2 2
  have g3 := hy2 3
  have g4 := hy2 4
  simp only [List.getD_cons_zero, List.getD_cons_succ] at h0 h1 h2 h3 h4 g0 g1 g2 g3 g4
  rw [show addL [a, b, c, d, e] [a', b', c', d', e'] 5 = [a + a', b + b', c + c', d + d', e + e'] from rfl]
  exact allB_five (by omega) (by omega) (by omega) (by omega) (by omega) (by omega)

set_option maxRecDepth 100000 in
set_option maxHeartbeats 2000000 in
theorem onetime_least (x : List Int) (w : World) (h : Settled x) :
    Calls Try.prog 56 #[.agg (cells64 x).toArray] w fun e w' => (∃ y, Fair y ∧ valN y = valN x % p130 ∧ e = .returned (.agg (cells64 y).toArray)) ∧ Below w.heap.size w w' := by
  obtain ⟨w2, hw2⟩ : ∃ w2, w2 = (w.alloc (.cells (cells64 x).toArray 79)).alloc (.cells (cells64 z5).toArray 79) := ⟨_, rfl⟩
  have r1 : RowIs w2 w.heap.size 79 (cells64 x) := hw2 ▸ (RowIs.new w _ _).alloc _
  have r2 : RowIs w2 (w.heap.size + 1) 79 (cells64 z5) := by
    have := RowIs.new (w.alloc (.cells (cells64 x).toArray 79)) 79 (cells64 z5)
    rw [← hw2] at this
    simpa using this
  have b1 : Below w.heap.size w w2 := hw2 ▸ ((Below.refl _ _).alloc (Nat.le_refl _) _).alloc (by simp) _
  have s2 : w2.heap.size = w.heap.size + 1 + 1 := by rw [hw2]; simp
  have HW2 : Hid ((w.alloc (.cells (cells64 x).toArray 79)).alloc (.cells (cells64 z5).toArray 79) = w2) := hw2.symm
  clear hw2
  have hs1 : (w.alloc (.cells (cells64 x).toArray 79)).heap.size = w.heap.size + 1 := by simp
  obtain ⟨z, T, hzl, hzf, hzv, hT, hpick⟩ := least_pick x h
  have hxl : x.length = 5 := h.1
  have hxb : allB x 67141632 := h.2.1
  have hyb : allB (setL x) 67108864 := (setL_fair x h).1.2
  have hyl : (setL x).length = 5 := by rw [setL_len, hxl]
  have hfb : allB fiveL 6 := allB_five (by decide) ⟨by decide, by decide⟩ ⟨by decide, by decide⟩ ⟨by decide, by decide⟩ ⟨by decide, by decide⟩ ⟨by decide, by decide⟩
  have HSE : Hid (∀ w : World, Calls Try.prog 68 #[.agg (cells64 x).toArray] w fun e w' => e = .returned (.agg (cells64 (setL x)).toArray) ∧ Below w.heap.size w w') := fun w => onetime_settle x w hxl (allB_mono hxb (by decide))
  have HPL : Hid (∀ w : World, Calls Try.prog 54 #[.agg (cells64 (setL x)).toArray, .agg (cells64 fiveL).toArray] w fun e w' => e = .returned (.agg (cells64 (addL (setL x) fiveL 5)).toArray) ∧ Below w.heap.size w w') := fun w => onetime_plus (setL x) fiveL w hyl rfl (allB_mono hyb (by decide)) (allB_mono hfb (by decide))
  have hsl : (addL (setL x) fiveL 5).length = 5 := by rw [addL_len, hyl]
  have hsb : allB (addL (setL x) fiveL 5) 67108870 := addL_bd hyl rfl hyb hfb
  have HCA : Hid (∀ w : World, Calls Try.prog 71 #[.agg (cells64 (addL (setL x) fiveL 5)).toArray] w fun e w' => e = .returned (.tuple #[.agg (cells64 (carL (addL (setL x) fiveL 5) 5)).toArray, .int .u64 (carO (addL (setL x) fiveL 5) 5)]) ∧ Below w.heap.size w w') := fun w => onetime_carry _ w hsl (allB_mono hsb (by decide))
  have hll : (carL (addL (setL x) fiveL 5) 5).length = 5 := by rw [carL_len, hsl]
  have HZ : Hid (Fair z ∧ valN z = valN x % p130) := ⟨hzf, hzv⟩
  have ho := carO_bd (addL (setL x) fiveL 5) (allB_mono hsb (by decide)) 5
  have ho0 := ho.1
  have ho1 := ho.2
  clear hxb hyb hfb hsb h hzf hzv hsl ho
  have hlx : (cells64 x).length = 5 := by rw [cells64_len, hxl]
  clear hxl
  generalize carO (addL (setL x) fiveL 5) 5 = O at *
  generalize carL (addL (setL x) fiveL 5) 5 = l at *
  generalize addL (setL x) fiveL 5 = s at *
  generalize setL x = y at *
  have hly : (cells64 y).length = 5 := by rw [cells64_len, hyl]
  have hoy := all_oneCell_toArray (cells64_one y)
  have hlc : (cells64 l).length = 5 := by rw [cells64_len, hll]
  have hol := all_oneCell_toArray (cells64_one l)
  have hz5 : (cells64 z5).length = 5 := rfl
  obtain ⟨cx, hcx⟩ : ∃ cx, cx = cells64 x := ⟨_, rfl⟩
  rw [← hcx] at r1 HW2 hs1 HSE hlx ⊢
  have HZV : Hid (valN x = valN x) := rfl
  clear hcx
  have HP : Hid (∀ k : Nat, ∃ A B, bits BinOp.andNot IntKind.u64 (y.getD k 0) T = A ∧ bits BinOp.and IntKind.u64 (l.getD k 0) T = B ∧ bits BinOp.or IntKind.u64 A B = z.getD k 0) := hpick
  clear hpick
  go_enter Try.func56, Try.ntmps56
  go_wp2_with (first | (refine wpList_boxN (z := cx.toArray) rfl rfl rfl w.heap.size rfl ?_) | (refine wpList_allocN rfl rfl run_alloc5 (w.heap.size + 1) hs1 ?_; rw [HW2.out]) | (refine wpList_load_mid rfl 79 _ rfl w.heap.size 0 rfl cx _ r1.all Try.underlying79 rfl (by rw [size5, hlx]) ?_))
  refine (HSE.out _).mono ?_
  rintro e w3 ⟨rfl, b2⟩
  have p1 : RowIs w3 w.heap.size 79 cx := r1.below b2 (by omega)
  have p2 : RowIs w3 (w.heap.size + 1) 79 (cells64 z5) := r2.below b2 (by omega)
  have b3 : Below w.heap.size w w3 := b1.trans (b2.mono b1.size)
  have s3 : w.heap.size + 1 + 1 ≤ w3.heap.size := by have := b2.size; omega
  clear r1 r2 b1 b2 s2 HW2 hs1
  have HT : Hid (w3.there w.heap.size 0 (cells64 y).toArray.size) := p1.there (by simp [hly, hlx])
  generalize hw4 : w3.setCells w.heap.size 0 (cells64 y) = w4
  have q1 : RowIs w4 w.heap.size 79 (cells64 y) := hw4 ▸ p1.putAll (by rw [hly, hlx])
  have q2 : RowIs w4 (w.heap.size + 1) 79 (cells64 z5) := (hw4 ▸ (Upon.refl w.heap.size _).setCells 0 (cells64 y) : Upon w.heap.size _ w4).row p2 (by simp)
  have q3 : Below w.heap.size w w4 := hw4 ▸ bel_setCells b3 (Nat.le_refl _) 0 (cells64 y)
  have s4 : w.heap.size + 1 + 1 ≤ w4.heap.size := by rw [← hw4, size_setCells]; exact s3
  have HW4 : Hid (w3.setCells w.heap.size 0 (cells64 y).toArray.toList = w4) := hw4
  clear hw4 p1 p2 b3 s3
  have hys : (Try.prog.info? 79).map (·.size) = some (cells64 y).toArray.size := by rw [size5]; simp [hly]
  have Q1 : Hid _ := q1.all
  go_wp2_with (first | (refine wpList_store_mid rfl 79 _ _ rfl w.heap.size 0 (cells64 y).toArray rfl rfl ?_ hys hoy ?_; exact HT.out; rw [HW4.out]) | (refine wpList_load_mid rfl 79 _ rfl w.heap.size 0 rfl (cells64 y) _ ?_ Try.underlying79 rfl (by rw [size5, hly]) ?_; exact Q1.out) | (refine wpList_build rfl 79 _ rfl (cells64 fiveL).toArray (by kernel_rfl) ?_))
  refine (HPL.out _).mono ?_
  rintro e w5 ⟨rfl, b5⟩
  go_wp2_with fail
  refine (HCA.out _).mono ?_
  rintro e w6 ⟨rfl, b6⟩
  have p1 : RowIs w6 w.heap.size 79 (cells64 y) := (q1.below b5 (by omega)).below b6 (by have := b5.size; omega)
  have p2 : RowIs w6 (w.heap.size + 1) 79 (cells64 z5) := (q2.below b5 (by omega)).below b6 (by have := b5.size; omega)
  have b7 : Below w.heap.size w w6 := (q3.trans (b5.mono q3.size)).trans (b6.mono (by have := q3.size; have := b5.size; omega))
  have s6 : w.heap.size + 1 + 1 ≤ w6.heap.size := by have := b5.size; have := b6.size; omega
  clear q1 q2 q3 b5 b6 s4 Q1 HT HW4 hys hoy
  have HW7 : Hid (∃ g, g = w6.heap.size) := ⟨_, rfl⟩
  obtain ⟨g, hg⟩ := HW7.out
  have HG : Hid (w6.heap.size = g) := hg.symm
  rw [← hg] at s6
  obtain ⟨w7, hw7⟩ : ∃ w7, w7 = w6.alloc (.cells (cells64 z5).toArray 79) := ⟨_, rfl⟩
  have t1 : RowIs w7 w.heap.size 79 (cells64 y) := hw7 ▸ p1.alloc _
  have t2 : RowIs w7 (w.heap.size + 1) 79 (cells64 z5) := hw7 ▸ p2.alloc _
  have t3 : RowIs w7 g 79 (cells64 z5) := by
    have := RowIs.new w6 79 (cells64 z5)
    rw [← hw7, ← hg] at this
    exact this
  have b8 : Below w.heap.size w w7 := hw7 ▸ b7.alloc (by omega) _
  have HA : Hid (w6.alloc (.cells (cells64 z5).toArray 79) = w7) := hw7.symm
  clear hw7 hg HW7 p1 p2 b7
  have HT : Hid (w7.there g 0 (cells64 l).toArray.size) := t3.there (by simp [hlc, hz5])
  generalize hw8 : w7.setCells g 0 (cells64 l) = w8
  have u1 : RowIs w8 w.heap.size 79 (cells64 (mixL y z 0)) := (hw8 ▸ (Upon.refl g _).setCells 0 (cells64 l) : Upon g _ w8).row t1 (by omega)
  have u2 : RowIs w8 (w.heap.size + 1) 79 (cells64 z5) := (hw8 ▸ (Upon.refl g _).setCells 0 (cells64 l) : Upon g _ w8).row t2 (by omega)
  have u3 : RowIs w8 g 79 (cells64 l) := hw8 ▸ t3.putAll (by rw [hlc, hz5])
  have b9 : Below w.heap.size w w8 := hw8 ▸ bel_setCells b8 (by omega) 0 (cells64 l)
  have HW8 : Hid (w7.setCells g 0 (cells64 l).toArray.toList = w8) := hw8
  clear hw8 t1 t2 t3 b8
  have hls : (Try.prog.info? 79).map (·.size) = some (cells64 l).toArray.size := by rw [size5]; simp [hlc]
  go_wp2_with (first | (refine wpList_allocN rfl rfl run_alloc5 g HG.out ?_; rw [HA.out]) | (refine wpList_store_mid rfl 79 _ _ rfl g 0 (cells64 l).toArray rfl rfl ?_ hls hol ?_; exact HT.out; rw [HW8.out]))
  clear HT HW8 hls hol HA HG HCA HPL HSE hT ho0 ho1
  go_loopw [18] (fun i wr => ∃ k : Nat, k ≤ 5 ∧ i = .int .i64 k ∧ RowIs wr w.heap.size 79 (cells64 (mixL y z k)) ∧ RowIs wr (w.heap.size + 1) 79 (cells64 z5) ∧ RowIs wr g 79 (cells64 l) ∧ Below w.heap.size w wr) (fun i _ => 5 - (intOf i).toNat)
  case atStart => exact ⟨0, by omega, rfl, u1, u2, u3, b9⟩
  case round =>
    clear u1 u2 u3 b9
    obtain ⟨k, hk, rfl, q1, q2, q3, hbel⟩ := hrel
    by_cases hlt : k < 5
    · have hc := q1.cellAt (cells64_at (mixL y z k) k (by rw [mixL_len]; omega))
      rw [mixL_at y z k k (Nat.le_refl _)] at hc
      have hz := q1.frozen k
      have hc2 := q3.cellAt (cells64_at l k (by omega))
      obtain ⟨A, B, hA, hB, hAB⟩ := HP.out k
      have HN : Hid (RowIs (wr.setCell ⟨w.heap.size, k, none⟩ (.int .u64 (z.getD k 0))) w.heap.size 79 (cells64 (mixL y z (k + 1)))) := by
        have := q1.set k (.int .u64 (z.getD k 0))
        rw [cells64_set] at this
        exact this
      have Q2 : Hid _ := q2
      have Q3 : Hid _ := q3
      clear q1 q2 q3
      have hne : w.heap.size ≠ g := by omega
      generalize y.getD k 0 = X at *
      generalize l.getD k 0 = L at *
      generalize z.getD k 0 = Z at *
      go_wp2
      go_region
      go_wp2
      go_roundw
      case rel => exact ⟨k + 1, by omega, by go_num, HN.out, RowIs.setOther Q2.out (by show w.heap.size + 1 ≠ w.heap.size; omega) _, RowIs.setOther Q3.out (by show g ≠ w.heap.size; omega) _, (hbel.setCell (Nat.le_refl _) _).drew⟩
      case measure => simp [intOf]; omega
    · obtain rfl : k = 5 := by omega
      rw [mixL_all y z hyl hzl] at q1
      have hlen : (cells64 z).length = 5 := by rw [cells64_len, hzl]
      have hone := all_oneCell_toArray (cells64_one z)
      obtain ⟨cs, hcs⟩ : ∃ cs, cs = cells64 z := ⟨_, rfl⟩
      rw [← hcs] at q1 hlen hone
      have HE : Hid (cs = cells64 z) := hcs
      clear hcs
      go_wp2_with (first | (refine wpList_load_mid rfl 79 _ rfl w.heap.size 0 rfl cs _ q1.all Try.underlying79 rfl (by rw [size5, hlen]) ?_) | (refine wpList_store_mid rfl 79 _ _ rfl (w.heap.size + 1) 0 cs.toArray rfl rfl (q2.there (by simp [hlen, hz5])) (by rw [size5]; simp [hlen]) hone ?_))
      refine bodyPost_ret (v := .agg cs.toArray) (results_row rfl _ _ (w.heap.size + 1) cs _ (by simp [Act.put]) ?_ Try.underlying79 rfl (by rw [size5, hlen])) rfl ⟨⟨z, HZ.out.1, HZ.out.2, by rw [HE.out]⟩, bel_setCells hbel (by omega) _ _⟩
      exact World.rangeAt_setCells_same _ _ _ _ (q2.there (by simp [hlen, hz5]))

end Go.Proofs.Ytgeackoaghkgmaa
