/-
  The contract of the reference's Sum, whole.
-/
import Derived.Test.YtlhlpcfjoccgcaaRefE
namespace Go.Proofs.Ytlhlpcfjoccgcaa
open Go.RowKit
set_option linter.unusedVariables false
set_option maxRecDepth 100000

theorem str_cat (a b : List UInt8) : str a ++ str b = str (a ++ b) := by
  unfold str
  apply ByteArray.ext
  apply Array.toList_inj.1
  simp
theorem zeros_snoc (k : Nat) : List.replicate k (0 : UInt8) ++ [0] = List.replicate (k + 1) 0 := by
  rw [List.replicate_succ']

set_option maxRecDepth 1000000 in
set_option maxHeartbeats 4000000 in
theorem ref_sum (s : ByteArray) (w : World) (hlen : s.size ≤ 288230376151711744) :
    Calls Try.prog 45 #[.string s] w fun e w' => e = .returned (.string (shaS s)) ∧ Below w.heap.size w w' := by
  obtain ⟨l, rfl⟩ : ∃ l, s = str l := ⟨_, (str_back s).symm⟩
  have HSH : Hid (shaS (str l) = str (shaL l)) := by unfold shaS str; rfl
  rw [str_size] at hlen
  have HSL : Hid (str l = str l) := rfl
  have hsl : (str l).size = l.length := str_size l
  obtain ⟨i0, hi, hz0, hz1, hz2⟩ := info_parts info32
  have hcat0 : str l ++ ⟨#[128]⟩ = str (l ++ 128 :: List.replicate 0 0) := str_cat l [128]
  have hln0 : ¬ (9223372036854775807 < l.length + 1) := by omega
  go_enter Try.func45, Try.ntmps45
  go_wp2_with (first | (refine wpList_buildSlice rfl 75 70 64 _ rfl kCells.toArray Try.underlying75 hi hz0 hz1 (by omega) (by omega) (by kernel_rfl) w.heap.size rfl ?_) | (refine wpList_buildSlice rfl 75 70 8 _ rfl (cells32 hZero.list).toArray Try.underlying75 hi hz0 hz1 (by omega) (by omega) (by kernel_rfl) (w.heap.size + 1) (by simp) ?_))
  have hrT : RowIs ((w.alloc (.cells kCells.toArray 70)).alloc (.cells (cells32 hZero.list).toArray 70)) w.heap.size 70 kCells := (RowIs.new w _ _).alloc _
  have hrH : RowIs ((w.alloc (.cells kCells.toArray 70)).alloc (.cells (cells32 hZero.list).toArray 70)) (w.heap.size + 1) 70 (cells32 hZero.list) := by
    have := RowIs.new (w.alloc (.cells kCells.toArray 70)) 70 (cells32 hZero.list)
    simpa using this
  have hb2 : Below w.heap.size w ((w.alloc (.cells kCells.toArray 70)).alloc (.cells (cells32 hZero.list).toArray 70)) := ((Below.refl _ _).alloc (Nat.le_refl _) _).alloc (by simp) _
  generalize (w.alloc (.cells kCells.toArray 70)).alloc (.cells (cells32 hZero.list).toArray 70) = w2 at *
  have hz := padZ_lt l.length
  clear hcat0 hln0
  go_loop [5] (fun v => ∃ k : Nat, k ≤ padZ l.length ∧ v = .string (str (l ++ 128 :: List.replicate k 0))) (fun v => padZ l.length + l.length + 1 - strLen v)
  case atStart => exact ⟨0, by omega, rfl⟩
  case round =>
    obtain ⟨k, hk, rfl⟩ := hrel
    have hsz : (str (l ++ 128 :: List.replicate k 0)).size = l.length + 1 + k := by rw [str_size]; simp; omega
    by_cases hlt : k < padZ l.length
    · have hne : ((l.length + 1 + k) % 64 != 56) = true := by unfold padZ at hlt; rw [bne_iff_ne]; omega
      have hneI : ((((l.length + 1 + k : Nat) : Int)) % 64 != 56) = true := by unfold padZ at hlt; rw [bne_iff_ne]; omega
      have hneJ : (((l.length : Int) + 1 + (k : Int)) % 64 != 56) = true := by unfold padZ at hlt; rw [bne_iff_ne]; omega
      have hcat : str (l ++ 128 :: List.replicate k 0) ++ ⟨#[0]⟩ = str (l ++ 128 :: List.replicate (k + 1) 0) := by
        rw [show (⟨#[0]⟩ : ByteArray) = str [0] from rfl, str_cat, List.append_assoc, List.cons_append, zeros_snoc]
      have hln : ¬ (9223372036854775807 < l.length + 1 + k + 1) := by omega
      go_wp2
      go_round
      case rel => exact ⟨k + 1, by omega, rfl⟩
      case measure =>
        simp only [strLen]
        rw [hsz, str_size]
        simp
        omega
    · have hkz : k = padZ l.length := by omega
      have hne : ((l.length + 1 + k) % 64 != 56) = false := by unfold padZ at hkz; rw [bne_eq_false_iff_eq]; omega
      have hneI : ((((l.length + 1 + k : Nat) : Int)) % 64 != 56) = false := by unfold padZ at hkz; rw [bne_eq_false_iff_eq]; omega
      have hneJ : (((l.length : Int) + 1 + (k : Int)) % 64 != 56) = false := by unfold padZ at hkz; rw [bne_eq_false_iff_eq]; omega
      have HALL : Hid ((l ++ 128 :: List.replicate k 0) ++ putBig (8 * (l.length : Int)) 8 = l ++ padL l.length) := by
        rw [hkz, padL, List.append_assoc]; rfl
      have HKZ : Hid (k = padZ l.length) := hkz
      clear hkz hlt hk
      go_wp2_with fail
      refine (ref_putBig _ _ _ (by omega) (by omega)).mono ?_
      rintro e w3 ⟨rfl, hb3⟩
      have hrT3 := hrT.below hb3 hrT.lt
      have hrH3 := hrH.below hb3 hrH.lt
      have hbel3 : Below w.heap.size w w3 := hb2.trans (hb3.mono hb2.size)
      clear hrT hrH hb3 hb2
      rw [show (l.length : Int) * 8 = 8 * (l.length : Int) from by omega]
      obtain ⟨all, hall⟩ : ∃ all, all = l ++ padL l.length := ⟨_, rfl⟩
      have hcat : str (l ++ 128 :: List.replicate k 0) ++ putBigS (8 * (l.length : Int)) 8 = str all := by
        rw [show putBigS (8 * (l.length : Int)) 8 = str (putBig (8 * (l.length : Int)) 8) from rfl, str_cat, HALL.out, hall]
      have hpb : (putBigS (8 * (l.length : Int)) 8).size = 8 := by unfold putBigS; rw [str_size, putBig8_len]
      have hln : ¬ (9223372036854775807 < l.length + 1 + k + 8) := by have := HKZ.out; omega
      have HAL : Hid (all.length = l.length + 9 + padZ l.length) := by rw [hall, List.length_append, padL_len]; show _ = _; omega
      have hall60 : all.length ≤ 1152921504606846976 := by have := HAL.out; omega
      have HMOD : Hid (all.length % 64 = 0) := by have := HAL.out; unfold padZ at this; show _ % _ = _; omega
      have HRES : Hid (toldTo (absorb all (all.length / 64)).list 8 = shaL l) := by rw [hall]; exact sha_of l
      clear hall HALL
      go_wp2_with fail
      refine ref_blocks _ _ _ _ _ _ _ _ _ _ _ _ _ _ _ _ _ _ _ _ _ _ _ _ _ _ _ _ _ _ _ _ _ _ _ _ _ _ _ _ _ _ _ _ _ _ _ _ _ _ _ _ _ _ _ _ _ _ _ _ _ _ _ _ _ _ _ _ _ _ _ _ _ _ _ _ _ _ _ _ _ _ _ _ _ _ _ _ _ _ _ _ _ _ _ _ _ _ _ _ _ _ _ _ _ _ _ _ _ _ _ _ _ _ _ _ _ _ _ _ _ _ _ _ _ _ _ _ _ _ _ _ _ _ _ _ _ _ _ _ _ _ _ _ _ _ _ _ _ _ _ _ _ _ _ _ _ _ _ _ _ _ _ _ _ _ _ _ _ _ _ _ _ _ _ _ _ _ _ _ _ _ _ _ _ _ _ _ _ _ _ _ _ _ _ _ _ _ _ _ _ _ _ _ _ _ _ _ _ _ _ _ _ _ _ _ _ _ _ _ _ _ _ _ _ _ _ _ _ _ _ w.heap.size (w.heap.size + 1) all _ _ hall60 HMOD.out (hrT3.range (by rw [List.drop_zero]; exact List.take_length)) hrT3.lt (by omega) hrH3 ?_
      intro e6 e7 e8 e9 e10 e11 e12 e13 e14 e15 e16 e17 e18 e19 e39 e40 e41 e42 e43 e44 e45 e46 e47 e48 e49 e50 e51 e52 e53 e54 e55 e56 e57 e58 e59 e60 e61 e62 e63 e64 e65 e66 e67 e68 e69 e70 e71 e72 e73 e74 e75 e76 e77 e78 e79 e80 e81 e82 e83 e84 e85 e86 e87 e88 e89 e90 e91 e92 e93 e94 e95 e96 e97 e98 e99 e100 e101 e102 e103 e104 e105 e106 e107 e108 e109 e110 e111 e112 e113 e114 e115 e116 e117 e118 e119 e120 e121 e122 e123 e124 e125 e126 e127 e128 e129 e130 e131 e132 e133 e134 e135 e136 e137 e138 e139 e140 e141 e142 e143 e144 e145 e146 e147 e148 e149 e150 e151 e152 e153 e154 e155 e156 e157 e158 e159 e160 e161 e162 e163 e164 e165 e166 e167 e168 e169 e170 e171 e172 e173 e174 e175 e176 e177 e178 e179 e180 e181 e182 e183 e184 e185 e186 e187 e188 e189 e190 e191 e192 e193 e194 e195 e196 e197 e198 e199 e200 e201 e202 e203 e204 e205 e206 e207 e208 e209 e210 e211 e212 e213 e214 e215 e216 e217 e218 e219 e220 e221 w4 hr4 hu4
      have hbel4 : Below w.heap.size w w4 := hbel3.trans (hu4.below (by omega) (Nat.le_of_lt hrT3.lt))
      clear hrT3 hrH3 hbel3 hu4 hcat hne hneI hneJ hsz hln
      have hwl := list_w (absorb_ok all (all.length / 64))
      have hll := list_len (absorb all (all.length / 64))
      generalize (absorb all (all.length / 64)).list = hl at *
      go_wp2_with fail
      have hg4 := hr4.lt
      go_loopw [20, 21] (fun o i wr => ∃ k : Nat, k ≤ 8 ∧ i = .int .i64 k ∧ o = .string (str (toldTo hl k)) ∧ RowIs wr (w.heap.size + 1) 70 (cells32 hl) ∧ Below w.heap.size w wr) (fun _ i _ => 8 - (intOf i).toNat)
      case atStart => exact ⟨0, by omega, rfl, rfl, hr4, hbel4⟩
      case round =>
        clear hr4 hbel4 hg4
        obtain ⟨j, hj, rfl, rfl, hr5, hbel5⟩ := hrel
        by_cases hlt : j < 8
        · have hc := hr5.cellAt (cells32_at hl j (by omega))
          have hwj : W32 (hl.getD j 0) := getD_w hwl j
          have hw0 := hwj.1
          have hw1 := hwj.2
          have HT : Hid (toldTo hl (j + 1) = toldTo hl j ++ putBig (hl.getD j 0) 4) := toldTo_succ hl j (by omega)
          have htl : (str (toldTo hl j)).size = 4 * j := by rw [str_size, toldTo_len hl j (by omega)]
          generalize hl.getD j 0 = x at *
          have hpx : (putBigS x 4).size = 4 := by unfold putBigS; rw [str_size, putBig4_len]
          have hcat5 : str (toldTo hl j) ++ putBigS x 4 = str (toldTo hl (j + 1)) := by
            rw [show putBigS x 4 = str (putBig x 4) from rfl, str_cat, HT.out]
          have hln5 : ¬ (9223372036854775807 < 4 * j + 4) := by omega
          have j0 : (0 : Int) ≤ (j : Int) := by omega
          have j8 : (j : Int) < 8 := by omega
          go_wp2_with fail
          refine (ref_putBig _ _ _ (by omega) (by omega)).mono ?_
          rintro e w6 ⟨rfl, hb6⟩
          have hr6 := hr5.below hb6 hr5.lt
          have hbel6 : Below w.heap.size w w6 := hbel5.trans (hb6.mono hbel5.size)
          clear hr5 hbel5 hb6 hc
          go_wp2
          go_roundw
          case rel => exact ⟨j + 1, by omega, by go_num, rfl, hr6, hbel6⟩
          case measure => simp [intOf]; omega
        · have hj8 : j = 8 := by omega
          have HO : Hid (toldTo hl j = shaL l) := by rw [hj8]; exact HRES
          go_wp2
          go_ret
          exact ⟨ret_str (by rw [HO.out, HSH.out]), hbel5⟩

end Go.Proofs.Ytlhlpcfjoccgcaa
