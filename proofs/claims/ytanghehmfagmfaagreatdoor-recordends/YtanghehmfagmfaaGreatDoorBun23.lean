/-
  Parts of this proof, one behind the other: Poly9.
-/
import Derived.Test.YtanghehmfagmfaaGreatDoorBun22
import Derived.Laws.Externs

/-
  The contracts of package onetime's words and lowSum.
-/
namespace Go.Proofs.YtanghehmfagmfaaGreatDoor
open Go.RowKit
set_option linter.unusedVariables false
set_option maxRecDepth 100000
set_option linter.unusedSimpArgs false

/-- Bits that lie apart: 'or' is the sum. -/
theorem or_apart (n : Nat) (x q : Int) (hx : 0 ≤ x) (hxn : x < 2 ^ n) (hq : 0 ≤ q) (hs : x + 2 ^ n * q < 18446744073709551616) : bits BinOp.or IntKind.u64 x (2 ^ n * q) = x + 2 ^ n * q := by
  have hp : (0 : Int) < 2 ^ n := Int.pow_pos (by decide)
  have hm : 0 ≤ (2 : Int) ^ n * q := Int.mul_nonneg (Int.le_of_lt hp) hq
  rw [u64_or _ _ hx (by omega) hm (by omega)]
  obtain ⟨X, rfl⟩ := Int.eq_ofNat_of_zero_le hx
  obtain ⟨Q, rfl⟩ := Int.eq_ofNat_of_zero_le hq
  have e : ((2 : Int) ^ n * (Q : Int)) = ((2 ^ n * Q : Nat) : Int) := by rw [Int.natCast_mul, Int.natCast_pow]; rfl
  have hX : X < 2 ^ n := by
    have e2 : ((2 : Int) ^ n) = ((2 ^ n : Nat) : Int) := by rw [Int.natCast_pow]; rfl
    rw [e2] at hxn
    exact Int.ofNat_lt.1 hxn
  rw [e, Int.toNat_natCast, Int.toNat_natCast, Nat.or_comm, ← Nat.two_pow_add_eq_or_of_lt hX, Int.natCast_add, Int.add_comm]
theorem low_word (a b c d e : Int) (h0 : 0 ≤ a ∧ a < 67108864) (h1 : 0 ≤ b ∧ b < 67108864) (h2 : 0 ≤ c ∧ c < 67108864) (h3 : 0 ≤ d ∧ d < 67108864) (h4 : 0 ≤ e ∧ e < 67108864) :
    bits BinOp.or IntKind.u64 (bits BinOp.or IntKind.u64 a (b * 67108864)) (IntKind.u64.wrap (c * 4503599627370496)) = valN [a, b, c, d, e] % 18446744073709551616 := by
  have e1 := or_apart 26 a b h0.1 h0.2 h1.1 (by omega)
  rw [show (2 : Int) ^ 26 = 67108864 from by decide] at e1
  rw [Int.mul_comm b, e1, IntKind.wrap_u64, show c * 4503599627370496 % 18446744073709551616 = 4503599627370496 * (c % 4096) from by omega]
  have e2 := or_apart 52 (a + 67108864 * b) (c % 4096) (by omega) (by omega) (by omega) (by omega)
  rw [show (2 : Int) ^ 52 = 4503599627370496 from by decide] at e2
  rw [e2]
  simp only [valN]
  omega
theorem high_word (a b c d e : Int) (h0 : 0 ≤ a ∧ a < 67108864) (h1 : 0 ≤ b ∧ b < 67108864) (h2 : 0 ≤ c ∧ c < 67108864) (h3 : 0 ≤ d ∧ d < 67108864) (h4 : 0 ≤ e ∧ e < 67108864) :
    bits BinOp.or IntKind.u64 (bits BinOp.or IntKind.u64 (c / 4096) (d * 16384)) (IntKind.u64.wrap (e * 1099511627776)) = valN [a, b, c, d, e] / 18446744073709551616 % 18446744073709551616 := by
  have e1 := or_apart 14 (c / 4096) d (by omega) (by omega) h3.1 (by omega)
  rw [show (2 : Int) ^ 14 = 16384 from by decide] at e1
  rw [Int.mul_comm d, e1, IntKind.wrap_u64, show e * 1099511627776 % 18446744073709551616 = 1099511627776 * (e % 16777216) from by omega]
  have e2 := or_apart 40 (c / 4096 + 16384 * d) (e % 16777216) (by omega) (by omega) (by omega) (by omega)
  rw [show (2 : Int) ^ 40 = 1099511627776 from by decide] at e2
  rw [e2]
  simp only [valN]
  omega

set_option maxHeartbeats 1000000 in
theorem onetime_words (x : List Int) (w : World) (h : Fair x) :
    Calls Tryz.prog 200 #[.agg (cells64 x).toArray] w fun e w' => e = .returned (.tuple #[.int .u64 (valN x % 18446744073709551616), .int .u64 (valN x / 18446744073709551616 % 18446744073709551616)]) ∧ Below w.heap.size w w' := by
  obtain ⟨hl, hb⟩ := h
  have r1 : RowIs (w.alloc (.cells (cells64 x).toArray 220)) w.heap.size 220 (cells64 x) := RowIs.new w _ _
  have b1 : Below w.heap.size w (w.alloc (.cells (cells64 x).toArray 220)) := (Below.refl _ _).alloc (Nat.le_refl _) _
  obtain ⟨a, b, c, d, e, rfl⟩ := five_of x hl
  have c0 := r1.cellAt (cells64_at [a, b, c, d, e] 0 (by simp))
  have c1 := r1.cellAt (cells64_at [a, b, c, d, e] 1 (by simp))
  have c2 := r1.cellAt (cells64_at [a, b, c, d, e] 2 (by simp))
  have c3 := r1.cellAt (cells64_at [a, b, c, d, e] 3 (by simp))
  have c4 := r1.cellAt (cells64_at [a, b, c, d, e] 4 (by simp))
  have h0 := hb 0
  have h1 := hb 1
  have h2 := hb 2
  have h3 := hb 3
  have h4 := hb 4
  simp only [List.getD_cons_zero, List.getD_cons_succ] at h0 h1 h2 h3 h4 c0 c1 c2 c3 c4
  obtain ⟨cx, hcx⟩ : ∃ cx, cx = (cells64 [a, b, c, d, e]).toArray := ⟨_, rfl⟩
  rw [← hcx] at c0 c1 c2 c3 c4 b1 ⊢
  have hlo := low_word a b c d e h0 h1 h2 h3 h4
  have hhi := high_word a b c d e h0 h1 h2 h3 h4
  generalize valN [a, b, c, d, e] = V at *
  clear hcx r1 hl hb
  have a0 := h0.1
  have a1 := h0.2
  have a2 := h1.1
  have a3 := h1.2
  have a4 := h2.1
  have a5 := h2.2
  have a6 := h3.1
  have a7 := h3.2
  have a8 := h4.1
  have a9 := h4.2
  go_enter Tryz.func200, Tryz.ntmps200
  go_wp2_with (first | (refine wpList_boxN (z := cx) rfl rfl rfl w.heap.size rfl ?_; generalize w.alloc (.cells cx 220) = w2 at *))
  go_ret2
  exact ⟨rfl, b1⟩

theorem run_add (x y c : Int) (hx : 0 ≤ x) (hy : 0 ≤ y) (hc0 : 0 ≤ c) (hc : c ≤ 1) (w : World) :
    (callFunc 201 #[.int .u64 x, .int .u64 y, .int .u64 c]).run Tryz.prog w = .ok (.value (.tuple #[.int .u64 ((x + y + c) % 18446744073709551616), .int .u64 ((x + y + c) / 18446744073709551616)])) w := by
  rw [run_callFunc_extern (P := Tryz.prog) (e := add64Entry) Tryz.func201 (by kernel_rfl) (by kernel_rfl) (by kernel_rfl) (by kernel_rfl), run_add64 x y c hx hy hc0 hc w]
  rfl

/-- The sixteen bytes of a number, the lowest first. -/
def put16 (v : Int) : List UInt8 := (List.range 16).map (byteOf v)
def put16S (v : Int) : ByteArray := str (put16 v)
theorem put16S_size (v : Int) : (put16S v).size = 16 := by rw [put16S, str_size, put16, List.length_map, List.length_range]

theorem byte_low (v : Int) (i : Nat) (h : i < 8) : byteOf v i = byteOf (v % 18446744073709551616) i := by
  unfold byteOf
  congr 2
  match i, h with
  | 0, _ => rw [show (2 : Int) ^ (8 * 0) = 1 from by decide]; omega
  | 1, _ => rw [show (2 : Int) ^ (8 * 1) = 256 from by decide]; omega
  | 2, _ => rw [show (2 : Int) ^ (8 * 2) = 65536 from by decide]; omega
  | 3, _ => rw [show (2 : Int) ^ (8 * 3) = 16777216 from by decide]; omega
  | 4, _ => rw [show (2 : Int) ^ (8 * 4) = 4294967296 from by decide]; omega
  | 5, _ => rw [show (2 : Int) ^ (8 * 5) = 1099511627776 from by decide]; omega
  | 6, _ => rw [show (2 : Int) ^ (8 * 6) = 281474976710656 from by decide]; omega
  | 7, _ => rw [show (2 : Int) ^ (8 * 7) = 72057594037927936 from by decide]; omega
theorem byte_high (v : Int) (i : Nat) : byteOf v (8 + i) = byteOf (v / 18446744073709551616) i := by
  unfold byteOf
  rw [Int.ediv_ediv_of_nonneg (by decide), Nat.mul_add, Int.pow_add, show (2 : Int) ^ (8 * 8) = 18446744073709551616 from by decide]
theorem put16_of (v : Int) : putLittle (v % 18446744073709551616) 8 ++ putLittle (v / 18446744073709551616 % 18446744073709551616) 8 = put16 v := by
  unfold putLittle put16
  rw [if_pos (by decide), if_pos (by decide), show (8 : Int).toNat = 8 from rfl]
  have e1 : (List.range 8).map (byteOf (v % 18446744073709551616)) = (List.range 8).map (byteOf v) := List.map_congr_left fun i hi => (byte_low v i (List.mem_range.1 hi)).symm
  have e2 : (List.range 8).map (byteOf (v / 18446744073709551616 % 18446744073709551616)) = (List.range 8).map (fun i => byteOf v (8 + i)) := List.map_congr_left fun i hi => by rw [byte_high, ← byte_low _ i (List.mem_range.1 hi)]
  rw [e1, e2]
  rfl
theorem put16S_of (v : Int) : putLittleS (v % 18446744073709551616) 8 ++ putLittleS (v / 18446744073709551616 % 18446744073709551616) 8 = put16S v := by
  unfold putLittleS put16S
  rw [← put16_of]
  simp [str, ByteArray.ext_iff]
theorem putLittleS8 (v : Int) : (putLittleS v 8).size = 8 := by
  unfold putLittleS putLittle
  rw [str_size, if_pos (by decide), List.length_map, List.length_range]; rfl
theorem little_first (b : ByteArray) : littleS (b.extract 0 8) = leV b.data.toList % 18446744073709551616 := by
  rw [littleS_le]
  have e : (b.extract 0 8).data.toList = b.data.toList.take 8 := by rw [ByteArray.data_extract, Array.toList_extract, List.extract_eq_take_drop]; simp
  rw [e, (leV_split b.data.toList 8).1]
  rw [show (256 : Int) ^ 8 = 18446744073709551616 from by decide]
  omega
theorem little_last (b : ByteArray) (hb : b.size = 16) : littleS (b.extract 8 b.size) = leV b.data.toList / 18446744073709551616 := by
  rw [littleS_le, extract_list b 8 (by omega), (leV_split b.data.toList 8).2]
  have := leV_bd b.data.toList
  rw [show b.data.toList.length = 16 from by simpa using hb] at this
  rw [show (256 : Int) ^ 8 = 18446744073709551616 from by decide]
  rw [show (256 : Int) ^ 16 = 340282366920938463463374607431768211456 from by decide] at this
  omega

set_option maxHeartbeats 1000000 in
theorem onetime_lowSum (x : List Int) (b : ByteArray) (w : World) (h : Fair x) (hb : b.size = 16) :
    Calls Tryz.prog 178 #[.agg (cells64 x).toArray, .string b] w fun e w' => e = .returned (.string (put16S (valN x + leV b.data.toList))) ∧ Below w.heap.size w w' := by
  have HW : Hid (∀ w : World, Calls Tryz.prog 200 #[.agg (cells64 x).toArray] w fun e w' => e = .returned (.tuple #[.int .u64 (valN x % 18446744073709551616), .int .u64 (valN x / 18446744073709551616 % 18446744073709551616)]) ∧ Below w.heap.size w w') := fun w => onetime_words x w h
  have r1 : RowIs (w.alloc (.cells (cells64 x).toArray 220)) w.heap.size 220 (cells64 x) := RowIs.new w _ _
  have b1 : Below w.heap.size w (w.alloc (.cells (cells64 x).toArray 220)) := (Below.refl _ _).alloc (Nat.le_refl _) _
  have hlx : (cells64 x).length = 5 := by rw [cells64_len, h.1]
  have hv := fair_bd h
  generalize valN x = V at *
  generalize cells64 x = cx at *
  clear h
  have Q1 : Hid _ := r1.all
  clear r1
  have l0 := little_first b
  have l1 := little_last b hb
  have hU := leV_bd b.data.toList
  rw [show b.data.toList.length = 16 from by simpa using hb, show (256 : Int) ^ 16 = 340282366920938463463374607431768211456 from by decide] at hU
  have HP : Hid (_ = put16S (V + leV b.data.toList)) := put16S_of (V + leV b.data.toList)
  generalize leV b.data.toList = U at *
  have HL0 : Hid (∀ w : World, Calls Tryz.prog 198 #[.string (b.extract 0 8)] w fun e w' => e = .returned (.int .u64 (littleS (b.extract 0 8))) ∧ w = w') := fun w => octet_little _ w (by unfold maxLen; simp; omega)
  have HL1 : Hid (∀ w : World, Calls Tryz.prog 198 #[.string (b.extract 8 b.size)] w fun e w' => e = .returned (.int .u64 (littleS (b.extract 8 b.size))) ∧ w = w') := fun w => octet_little _ w (by unfold maxLen; simp; omega)
  rw [l0] at HL0
  rw [l1, hb] at HL1
  clear l0 l1
  have A0 : ∀ w : World, (callFunc 201 #[.int .u64 (V % 18446744073709551616), .int .u64 (U % 18446744073709551616), .int .u64 0]).run Tryz.prog w = .ok (.value (.tuple #[.int .u64 ((V + U) % 18446744073709551616), .int .u64 ((V % 18446744073709551616 + U % 18446744073709551616) / 18446744073709551616)])) w := fun w => by
    have e1 : (V % 18446744073709551616 + U % 18446744073709551616 + 0) % 18446744073709551616 = (V + U) % 18446744073709551616 := by omega
    rw [run_add _ _ _ (by omega) (by omega) (by decide) (by decide), e1, Int.add_zero]
  have A1 : ∀ w : World, (callFunc 201 #[.int .u64 (V / 18446744073709551616 % 18446744073709551616), .int .u64 (U / 18446744073709551616), .int .u64 ((V % 18446744073709551616 + U % 18446744073709551616) / 18446744073709551616)]).run Tryz.prog w = .ok (.value (.tuple #[.int .u64 ((V + U) / 18446744073709551616 % 18446744073709551616), .int .u64 ((V / 18446744073709551616 % 18446744073709551616 + U / 18446744073709551616 + (V % 18446744073709551616 + U % 18446744073709551616) / 18446744073709551616) / 18446744073709551616)])) w := fun w => by
    have e1 : (V / 18446744073709551616 % 18446744073709551616 + U / 18446744073709551616 + (V % 18446744073709551616 + U % 18446744073709551616) / 18446744073709551616) % 18446744073709551616 = (V + U) / 18446744073709551616 % 18446744073709551616 := by omega
    rw [run_add _ _ _ (by omega) (by omega) (by omega) (by omega), e1]
  have HPU : Hid (∀ (v : Int) (w : World), 0 ≤ v → v < 18446744073709551616 → Calls Tryz.prog 172 #[.int .u64 v, .int .i64 8] w fun e w' => e = .returned (.string (putLittleS v 8)) ∧ Below w.heap.size w w') := fun v w h0 h1 => octet_putLittle v 8 w h0 h1
  have g0 : 0 ≤ (V + U) % 18446744073709551616 ∧ (V + U) % 18446744073709551616 < 18446744073709551616 := by omega
  have g1 : 0 ≤ (V + U) / 18446744073709551616 % 18446744073709551616 ∧ (V + U) / 18446744073709551616 % 18446744073709551616 < 18446744073709551616 := by omega
  generalize (V / 18446744073709551616 % 18446744073709551616 + U / 18446744073709551616 + (V % 18446744073709551616 + U % 18446744073709551616) / 18446744073709551616) / 18446744073709551616 = C1 at *
  generalize (V % 18446744073709551616 + U % 18446744073709551616) / 18446744073709551616 = C0 at *
  generalize (V + U) / 18446744073709551616 % 18446744073709551616 = S1 at *
  generalize (V + U) % 18446744073709551616 = S0 at *
  generalize V / 18446744073709551616 % 18446744073709551616 = V1 at *
  generalize V % 18446744073709551616 = V0 at *
  generalize U / 18446744073709551616 = U1 at *
  generalize U % 18446744073709551616 = U0 at *
  go_enter Tryz.func178, Tryz.ntmps178
  go_wp2_with (first | (refine wpList_boxN (z := cx.toArray) rfl rfl rfl w.heap.size rfl ?_) | (refine wpList_load_mid rfl 220 _ rfl w.heap.size 0 rfl cx _ ?_ Tryz.underlying220 rfl (by rw [size5, hlx]) ?_; exact Q1.out))
  refine (HW.out _).mono ?_
  rintro e w3 ⟨rfl, b2⟩
  go_wp2_with fail
  refine (HL0.out _).mono ?_
  rintro e w' ⟨rfl, rfl⟩
  go_wp2_with fail
  refine (HL1.out _).mono ?_
  rintro e w' ⟨rfl, rfl⟩
  have hz1 := putLittleS8 S0
  have hz2 := putLittleS8 S1
  have HP0 : Hid _ := fun w => HPU.out S0 w g0.1 g0.2
  have HP1 : Hid _ := fun w => HPU.out S1 w g1.1 g1.2
  generalize putLittleS S0 8 = A at *
  generalize putLittleS S1 8 = B at *
  go_wp2_with fail
  refine (HP0.out _).mono ?_
  rintro e w4 ⟨rfl, b4⟩
  go_wp2_with fail
  refine (HP1.out _).mono ?_
  rintro e w5 ⟨rfl, b5⟩
  go_wp2
  go_ret
  exact ⟨ret_str HP.out, (b1.trans (b2.mono b1.size)).trans ((b4.mono (by have := b1.size; have := b2.size; omega)).trans (b5.mono (by have := b1.size; have := b2.size; have := b4.size; omega)))⟩

end Go.Proofs.YtanghehmfagmfaaGreatDoor
