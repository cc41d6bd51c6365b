/-
  Parts of this proof, one behind the other: Sha6, Cha1, Cha2, RefG, RefT, RefI, RefJ, Cha3, Cha4, RefH, Cha5.
-/
import Derived.Test.YtanghehmfagmfaaGreatDoorBun9
import Derived.Test.YtanghehmfagmfaaGreatDoorBun4
import Derived.Test.YtanghehmfagmfaaGreatDoorBun11
import Derived.Lib.AppendStr
import Derived.Test.YtanghehmfagmfaaGreatDoorBun10
import Derived.Test.YtanghehmfagmfaaGreatDoorBun12
import Derived.Deep.AppendLies
import Derived.Deep.RegionHeld3

/-
  The contracts of package digest's padding and told.
-/
namespace Go.Proofs.YtanghehmfagmfaaGreatDoor
open Go.RowKit
set_option linter.unusedVariables false
set_option maxRecDepth 100000

/-- So many bytes 0. -/
def zeros8 (m : Nat) : List UInt8 := List.replicate m 0
theorem zeros8_len (m : Nat) : (zeros8 m).length = m := by simp [zeros8]
theorem owns_below {w w' : World} {base n size : Nat} {e : TypeId} {v : Value} {xs : List Value} (h : w.ownsRow base e size v n xs) (hb : Below w.heap.size w w') : w'.ownsRow base e size v n xs := by
  obtain ⟨h1, h2⟩ := h
  refine ⟨h1, ?_⟩
  rcases h2 with h2 | ⟨g, cap, cur, hv, hg, hh, r⟩
  · exact Or.inl h2
  · exact Or.inr ⟨g, cap, cur, hv, hg, by rw [hb.block g (Array.getElem?_eq_some_iff.1 hh).1]; exact hh, r⟩
theorem owns_block {w : World} {base n size : Nat} {e : TypeId} {v : Value} {xs : List Value} (h : w.ownsRow base e size v n xs) : ∀ k, v.ownBlock = some k → base ≤ k := by
  intro k hk
  rcases h.2 with ⟨rfl, _⟩ | ⟨g, cap, cur, rfl, hg, _⟩
  · cases hk
  · simp only [Value.ownBlock, Option.some.injEq] at hk; omega
/-- 'make([]byte, n, m)'. -/
theorem wpList_make8 {w : World} {ops : Array Oper} {rest : List Oper} {o : Oper} {a : Act} {Q : Exit → Act → World → Prop} (hg : o.guard = none) (l c : Operand) (ho : o.op = .makeSlice 51 l c)
    (L C : Int) (n m : Nat) (hl : a.eval l = .int .i64 L) (hc : a.eval c = .int .i64 C) (hL : L = (n : Int)) (hC : C = (m : Int)) (hnm : n ≤ m) (hm : m ≤ 140737488355328) (N : Nat) (hN : w.heap.size = N)
    (h : wpList Tryz.prog ops Q rest (a.put o.dst (.slice (some ⟨N, 0, none⟩) n m)) (w.alloc (.cells (cells8 (zeros8 m)).toArray 5))) : wpList Tryz.prog ops Q (o :: rest) a w := by
  subst hL hC hN
  obtain ⟨i0, hi, hz0, hz1, hz2⟩ := info_parts info8
  have hr := run_make (P := Tryz.prog) w 51 5 i0 (.int .u8 0) Tryz.underlying51 hi hz0 .i64 .i64 (n : Int) (m : Int) (by omega) (by omega) (by rw [hz2]; omega) (by omega)
  rw [hz1, Nat.mul_one, Int.toNat_natCast, Int.toNat_natCast] at hr
  have e : madeCells (Value.int .u8 0).cells m = (cells8 (zeros8 m)).toArray := by
    apply Array.toList_inj.1
    exact made8 m
  rw [e] at hr
  refine wpList_value hg (w' := w.alloc (.cells (cells8 (zeros8 m)).toArray 5)) ?_ h
  unfold execOp
  simp only [ho, hl, hc, Sem.run_bind, hr]
  rfl
/-- A row that is known whole, and lies from 'base' on, is owned. -/
theorem RowIs.owns {w : World} {g base n cap : Nat} {t : TypeId} {l : List Value} (h : RowIs w g t l) (hb : base ≤ g) (hc : l.length = cap) (hn : n ≤ cap) (hm : cap ≤ maxLen) : w.ownsRow base t 1 (.slice (some ⟨g, 0, none⟩) n cap) n (l.take n) := by
  refine ⟨by simp; omega, Or.inr ⟨g, cap, l.toArray, rfl, hb, h, hn, hm, by simpa using hc, by simp⟩⟩
theorem strCells_str (l : List UInt8) : Lib.strCells (str l) = cells8 l := by
  unfold Lib.strCells str cells8
  rfl

theorem padZ_lt (n : Nat) : padZ n < 64 := by unfold padZ; omega
theorem padZ_int (n : Nat) : (64 - ((n : Int) + 9) % 64) % 64 = (padZ n : Int) := by unfold padZ; omega

set_option maxRecDepth 100000 in
set_option maxHeartbeats 1000000 in
theorem dig_padding (n : Nat) (w : World) (hn : n ≤ 576460752303423488) :
    Calls Tryz.prog 246 #[.int .i64 n] w fun e w' => e = .returned (.string (str (padL n))) ∧ Below w.heap.size w w' := by
  have hz := padZ_lt n
  have hzi := padZ_int n
  have HD : Hid (padL n = (128 :: List.replicate (padZ n) 0) ++ putBig (8 * (n : Int)) 8) := rfl
  obtain ⟨i0, hi, hz0, hz1, hz2⟩ := info_parts info8
  generalize padZ n = z at *
  have hrow0 : RowIs (w.alloc (.cells (cells8 (zeros8 (9 + z))).toArray 5)) w.heap.size 5 (cells8 (zeros8 (9 + z))) := RowIs.new _ _ _
  have hb0 : Below w.heap.size w (w.alloc (.cells (cells8 (zeros8 (9 + z))).toArray 5)) := (Below.refl _ _).alloc (Nat.le_refl _) _
  have hc0 : (w.alloc (.cells (cells8 (zeros8 (9 + z))).toArray 5)).cell? ⟨w.heap.size, 0, none⟩ = some (.int .u8 0) := hrow0.cellAt (by rw [show 9 + z = (8 + z) + 1 from by omega]; rfl)
  have hf0 := hrow0.frozen 0
  go_enter Tryz.func246, Tryz.ntmps246
  go_wp2_with (first | (at_make; refine wpList_make8 rfl _ _ rfl _ _ (1 + z) (9 + z) rfl rfl (by omega) (by omega) (by omega) (by omega) w.heap.size rfl ?_))
  have hrow1 : RowIs (w.alloc (.cells ((cells8 (zeros8 (9 + z))).set 0 (.int .u8 128)).toArray 5)) w.heap.size 5 (cells8 ((128 :: List.replicate z 0) ++ List.replicate 8 0)) := by
    have := RowIs.new w 5 ((cells8 (zeros8 (9 + z))).set 0 (.int .u8 128))
    rw [show (cells8 (zeros8 (9 + z))).set 0 (.int .u8 128) = cells8 ((128 :: List.replicate z 0) ++ List.replicate 8 0) from by
      rw [zeros8, show (Value.int .u8 128) = cell8 128 from rfl, cells8_set, show 9 + z = (z + 8) + 1 from by omega, List.replicate_succ, List.set_cons_zero, List.cons_append, List.replicate_append_replicate]] at this ⊢
    exact this
  have hb1 : Below w.heap.size w (w.alloc (.cells ((cells8 (zeros8 (9 + z))).set 0 (.int .u8 128)).toArray 5)) := (Below.refl _ _).alloc (Nat.le_refl _) _
  have hs1 : w.heap.size < (w.alloc (.cells ((cells8 (zeros8 (9 + z))).set 0 (.int .u8 128)).toArray 5)).heap.size := by simp
  clear hrow0 hb0 hc0 hf0
  generalize w.alloc (.cells ((cells8 (zeros8 (9 + z))).set 0 (.int .u8 128)).toArray 5) = w1 at *
  refine (octet_putBig _ _ _ (by omega) (by omega)).mono ?_
  rintro e w2 ⟨rfl, hb2⟩
  have hrow2 := hrow1.below hb2 hs1
  have hs2 := hb2.size
  have hbel : Below w.heap.size w w2 := hb1.trans (hb2.mono (by omega))
  have hown := hrow2.owns (base := w.heap.size) (n := 1 + z) (cap := 9 + z) (Nat.le_refl _) (by rw [cells8_len]; simp; omega) (by omega) (by unfold maxLen; omega)
  have hsz : (putBigS (8 * (n : Int)) 8).size = 8 := by unfold putBigS; rw [str_size, putBig8_len]
  have hcl : (cells8 ((128 :: List.replicate z 0) ++ List.replicate 8 0)).take (1 + z) = cells8 (128 :: List.replicate z 0) := by
    rw [cells8_append, List.take_append_of_le_length (by rw [cells8_len]; simp; omega), List.take_of_length_le (by rw [cells8_len]; simp; omega)]
  rw [hcl] at hown
  clear hcl hrow1 hrow2 hb1 hb2
  go_wp2_with (at_builtin; go_loud (refine Lib.wpList_append_own_string (P := Tryz.prog) _ rfl _ _ 51 9 rfl w.heap.size 5 i0 Tryz.underlying51 Tryz.underlying9 hi hz0 hz1 hz2 _ (1 + z) (cells8 (128 :: List.replicate z 0)) rfl hown (putBigS (8 * (n : Int)) 8) rfl (by rw [hsz]; unfold maxLen; omega) (by rw [hsz]; omega) (by omega) ?_); intro v' w3 hown3 hgrow3 hiff)
  have hbel3 := hbel.grown hgrow3 (by omega) (owns_block hown)
  rw [show putBigS (8 * (n : Int)) 8 = str (putBig (8 * (n : Int)) 8) from rfl, strCells_str, ← cells8_append] at hown3
  have hconv := own_string_any hown3
  clear hown hgrow3 hiff hown3
  rw [hconv]
  go_wp2
  go_ret
  exact ⟨ret_str (by rw [HD.out]; rfl), hbel3⟩

/-- The bytes of the first k words. -/
def toldTo (l : List Int) (k : Nat) : List UInt8 := ((l.take k).map fun v => putBig v 4).flatten
theorem toldTo_succ (l : List Int) (k : Nat) (h : k < l.length) : toldTo l (k + 1) = toldTo l k ++ putBig (l.getD k 0) 4 := by
  unfold toldTo
  rw [List.take_succ_eq_append_getElem h, List.getD_eq_getElem?_getD, List.getElem?_eq_getElem h, List.map_append, List.flatten_append]
  simp
theorem toldTo_len (l : List Int) (k : Nat) (h : k ≤ l.length) : (toldTo l k).length = 4 * k := by
  induction k with
  | zero => rfl
  | succ k ih => rw [toldTo_succ l k (by omega), List.length_append, ih (by omega), putBig4_len]; omega

set_option maxRecDepth 100000 in
set_option maxHeartbeats 1000000 in
theorem dig_told (b : Nat) (l : List Int) (w : World) (hl : l.length = 8) (hw : ∀ x ∈ l, W32 x) (hr : w.rangeAt b 67 (cells32 l)) (hb : b < w.heap.size) :
    Calls Tryz.prog 247 #[.pointer (some ⟨b, 0, none⟩)] w fun e w' => e = .returned (.string (str (toldTo l 8))) ∧ Below w.heap.size w w' := by
  obtain ⟨i0, hi, hz0, hz1, hz2⟩ := info_parts info8
  have hlen : (cells32 l).length = 8 := by rw [cells32_len, hl]
  have hr8 : (w.alloc (.cells (cells8 (zeros8 32)).toArray 5)).rangeAt b 67 (cells32 l) := range_below hr ((Below.refl w.heap.size w).alloc (Nat.le_refl _) _) hb
  have hown0 : (w.alloc (.cells (cells8 (zeros8 32)).toArray 5)).ownsRow w.heap.size 5 1 (.slice (some ⟨w.heap.size, 0, none⟩) 0 32) (4 * 0) (cells8 (toldTo l 0)) := (RowIs.new w 5 (cells8 (zeros8 32))).owns (Nat.le_refl _) (by rw [cells8_len]; rfl) (by omega) (by unfold maxLen; omega)
  have hb0 : Below w.heap.size w (w.alloc (.cells (cells8 (zeros8 32)).toArray 5)) := (Below.refl w.heap.size w).alloc (Nat.le_refl _) _
  have hs0 : w.heap.size < (w.alloc (.cells (cells8 (zeros8 32)).toArray 5)).heap.size := by simp
  have HA : Hid (∀ j : Nat, j < 8 → ∀ w : World, (Instr.index 274 (.agg (cells32 l).toArray) (.int .i64 (j : Int))).run Tryz.prog w = .ok (.int .u32 (l.getD j 0)) w) := by
    intro j hj w
    exact run_index_arr _ _ j _ w rfl hj (by rw [List.getElem?_toArray]; exact cells32_at l j (by omega)) Tryz.underlying274 Tryz.underlying73 cells30
  go_enter Tryz.func247, Tryz.ntmps247
  go_wp2_with (first | (at_make; refine wpList_make8 rfl _ _ rfl _ _ 0 32 rfl rfl rfl rfl (by omega) (by omega) w.heap.size rfl ?_) | (refine wpList_load_mid rfl 274 _ rfl b 67 rfl (cells32 l) _ hr8 Tryz.underlying274 rfl (by rw [size8, hlen]) ?_))
  generalize w.alloc (.cells (cells8 (zeros8 32)).toArray 5) = w1 at *
  go_loopw [3, 11] (fun v i wr => ∃ k : Nat, k ≤ 8 ∧ i = .int .i64 k ∧ wr.ownsRow w.heap.size 5 1 v (4 * k) (cells8 (toldTo l k)) ∧ Below w.heap.size w wr) (fun _ i _ => 8 - (intOf i).toNat)
  case atStart => exact ⟨0, by omega, rfl, hown0, hb0⟩
  case round =>
    have hws : w.heap.size ≤ w.heap.size := Nat.le_refl _
    clear hown0 hb0 hr8 hs0 hr
    obtain ⟨k, hk, rfl, hown, hbel⟩ := hrel
    by_cases hlt : k < 8
    · have hix := HA.out k hlt
      have hwk : W32 (l.getD k 0) := getD_w hw k
      have hw0 := hwk.1
      have hw1 := hwk.2
      have HT : Hid (toldTo l (k + 1) = toldTo l k ++ putBig (l.getD k 0) 4) := toldTo_succ l k (by omega)
      generalize l.getD k 0 = x at *
      have hsz : (putBigS x 4).size = 4 := by unfold putBigS; rw [str_size, putBig4_len]
      go_wp2_with (first | (go_at_call 34; refine (octet_putBig _ _ _ (by omega) (by omega)).mono ?_; rintro e w2 ⟨rfl, hb2⟩) | (at_builtin; refine Lib.wpList_append_own_string (P := Tryz.prog) _ rfl _ _ 51 9 rfl w.heap.size 5 i0 Tryz.underlying51 Tryz.underlying9 hi hz0 hz1 hz2 _ (4 * k) (cells8 (toldTo l k)) rfl (owns_below hown hb2) (putBigS x 4) rfl (by rw [hsz]; unfold maxLen; omega) (by rw [hsz]; omega) (Nat.le_trans (Nat.le_trans hws hbel.size) hb2.size) ?_; intro v' w3 hown3 hgrow3 hiff))
      have hbel3 : Below w.heap.size w w3 := (hbel.trans (hb2.mono (Nat.le_trans hws hbel.size))).grown hgrow3 (Nat.le_trans (Nat.le_trans hws hbel.size) hb2.size) (owns_block hown)
      rw [hsz, show putBigS x 4 = str (putBig x 4) from rfl, strCells_str, ← cells8_append] at hown3
      go_roundw
      case rel => exact ⟨k + 1, by omega, by go_num, by rw [HT.out]; exact hown3, hbel3⟩
      case measure => simp [intOf]; omega
    · have hk8 : k = 8 := by omega
      rw [hk8] at hown
      have hconv := own_string_any hown
      clear hown
      go_wp2
      go_ret
      exact ⟨rfl, hbel⟩

end Go.Proofs.YtanghehmfagmfaaGreatDoor

/-
  The contracts of package stream's Quarter and areFit, and of the reference's Quarter.
-/
namespace Go.Proofs.YtanghehmfagmfaaGreatDoor
open Go.RowKit
set_option linter.unusedVariables false
set_option maxRecDepth 100000

/-- Four results. -/
theorem results_tmp4 {fn : Func} {t u v x : Tmp} (h : fn.results = #[.tmp t, .tmp u, .tmp v, .tmp x]) (tmps : Array Value) (P : Program) (w : World) :
    (results fn tmps).run P w = .ok (.tuple #[tmps.getD t undef, tmps.getD u undef, tmps.getD v undef, tmps.getD x undef]) w := by
  simp [results, h]

theorem stream_quarter (a b c d : Int) (w : World) (ha : W32 a) (hb : W32 b) (hc : W32 c) (hd : W32 d) :
    Calls Tryz.prog 197 #[.int .u32 a, .int .u32 b, .int .u32 c, .int .u32 d] w fun e w' => e = .returned (.tuple #[.int .u32 (qA a b c d), .int .u32 (qB a b c d), .int .u32 (qC a b c d), .int .u32 (qD a b c d)]) ∧ w = w' := by
  have hL : Hid (∀ (x n : Int) (w : World), W32 x → Calls Tryz.prog 215 #[.int .u32 x, .int .i64 n] w fun e w' => e = .returned (.int .u32 (rotl x n)) ∧ w = w') := fun x n w h => octet_left x n w h.1 h.2
  have h1 : W32 (xorI d ((a + b) % 4294967296)) := xorI_w hd (addI_w a b)
  have e1 := bxor_eq hd (show W32 ((a + b) % 4294967296) from addI_w a b)
  have D1 : Hid (rotl (xorI d ((a + b) % 4294967296)) 16 = qD1 a b d) := rfl
  have hD1 : W32 (qD1 a b d) := qD1_w hd
  have hC1 : W32 ((c + qD1 a b d) % 4294967296) := qC1_w a b c d
  have h2 : W32 (xorI b ((c + qD1 a b d) % 4294967296)) := xorI_w hb hC1
  have e2 := bxor_eq hb hC1
  have B1 : Hid (rotl (xorI b ((c + qD1 a b d) % 4294967296)) 12 = qB1 a b c d) := rfl
  have hB1 : W32 (qB1 a b c d) := qB1_w hb
  have hA2 : W32 (((a + b) % 4294967296 + qB1 a b c d) % 4294967296) := qA_w a b c d
  have h3 : W32 (xorI (qD1 a b d) (((a + b) % 4294967296 + qB1 a b c d) % 4294967296)) := xorI_w hD1 hA2
  have e3 := bxor_eq hD1 hA2
  have D2 : Hid (rotl (xorI (qD1 a b d) (((a + b) % 4294967296 + qB1 a b c d) % 4294967296)) 8 = qD a b c d) := rfl
  have hD2 : W32 (qD a b c d) := qD_w hd
  have hC2 : W32 (((c + qD1 a b d) % 4294967296 + qD a b c d) % 4294967296) := qC_w a b c d
  have h4 : W32 (xorI (qB1 a b c d) (((c + qD1 a b d) % 4294967296 + qD a b c d) % 4294967296)) := xorI_w hB1 hC2
  have e4 := bxor_eq hB1 hC2
  have B2 : Hid (rotl (xorI (qB1 a b c d) (((c + qD1 a b d) % 4294967296 + qD a b c d) % 4294967296)) 7 = qB a b c d) := rfl
  have hfin : Hid (((a + b) % 4294967296 + qB1 a b c d) % 4294967296 = qA a b c d ∧ ((c + qD1 a b d) % 4294967296 + qD a b c d) % 4294967296 = qC a b c d) := ⟨rfl, rfl⟩
  generalize qD1 a b d = d1 at *
  generalize qB1 a b c d = b1 at *
  generalize qD a b c d = d2 at *
  generalize qB a b c d = b2 at *
  go_enter Tryz.func197, Tryz.ntmps197
  go_wp2_with fail
  refine (hL.out _ _ _ h1).mono ?_
  rintro e w' ⟨rfl, rfl⟩
  rw [D1.out]
  clear D1 h1 e1
  generalize (a + b) % 4294967296 = a1 at *
  go_wp2_with fail
  refine (hL.out _ _ _ h2).mono ?_
  rintro e w' ⟨rfl, rfl⟩
  rw [B1.out]
  clear B1 h2 e2
  generalize (c + d1) % 4294967296 = c1 at *
  go_wp2_with fail
  refine (hL.out _ _ _ h3).mono ?_
  rintro e w' ⟨rfl, rfl⟩
  rw [D2.out]
  clear D2 h3 e3
  generalize (a1 + b1) % 4294967296 = a2 at *
  go_wp2_with fail
  refine (hL.out _ _ _ h4).mono ?_
  rintro e w' ⟨rfl, rfl⟩
  rw [B2.out]
  clear B2 h4 e4
  generalize (c1 + d2) % 4294967296 = c2 at *
  go_wp2
  refine bodyPost_ret (results_tmp4 rfl _ _ _) rfl ?_
  refine ⟨?_, rfl⟩
  rw [← hfin.out.1, ← hfin.out.2]
  rfl

theorem ref_quarter (a b c d : Int) (w : World) (ha : W32 a) (hb : W32 b) (hc : W32 c) (hd : W32 d) :
    Calls Tryz.prog 148 #[.int .u32 a, .int .u32 b, .int .u32 c, .int .u32 d] w fun e w' => e = .returned (.tuple #[.int .u32 (qA a b c d), .int .u32 (qB a b c d), .int .u32 (qC a b c d), .int .u32 (qD a b c d)]) ∧ w = w' := by
  have hL : Hid (∀ (x n : Int) (w : World), W32 x → Calls Tryz.prog 186 #[.int .u32 x, .int .i64 n] w fun e w' => e = .returned (.int .u32 (rotl x n)) ∧ w = w') := fun x n w h => ref_left x n w h.1 h.2
  have h1 : W32 (xorI d ((a + b) % 4294967296)) := xorI_w hd (addI_w a b)
  have e1 := bxor_eq hd (show W32 ((a + b) % 4294967296) from addI_w a b)
  have D1 : Hid (rotl (xorI d ((a + b) % 4294967296)) 16 = qD1 a b d) := rfl
  have hD1 : W32 (qD1 a b d) := qD1_w hd
  have hC1 : W32 ((c + qD1 a b d) % 4294967296) := qC1_w a b c d
  have h2 : W32 (xorI b ((c + qD1 a b d) % 4294967296)) := xorI_w hb hC1
  have e2 := bxor_eq hb hC1
  have B1 : Hid (rotl (xorI b ((c + qD1 a b d) % 4294967296)) 12 = qB1 a b c d) := rfl
  have hB1 : W32 (qB1 a b c d) := qB1_w hb
  have hA2 : W32 (((a + b) % 4294967296 + qB1 a b c d) % 4294967296) := qA_w a b c d
  have h3 : W32 (xorI (qD1 a b d) (((a + b) % 4294967296 + qB1 a b c d) % 4294967296)) := xorI_w hD1 hA2
  have e3 := bxor_eq hD1 hA2
  have D2 : Hid (rotl (xorI (qD1 a b d) (((a + b) % 4294967296 + qB1 a b c d) % 4294967296)) 8 = qD a b c d) := rfl
  have hD2 : W32 (qD a b c d) := qD_w hd
  have hC2 : W32 (((c + qD1 a b d) % 4294967296 + qD a b c d) % 4294967296) := qC_w a b c d
  have h4 : W32 (xorI (qB1 a b c d) (((c + qD1 a b d) % 4294967296 + qD a b c d) % 4294967296)) := xorI_w hB1 hC2
  have e4 := bxor_eq hB1 hC2
  have B2 : Hid (rotl (xorI (qB1 a b c d) (((c + qD1 a b d) % 4294967296 + qD a b c d) % 4294967296)) 7 = qB a b c d) := rfl
  have hfin : Hid (((a + b) % 4294967296 + qB1 a b c d) % 4294967296 = qA a b c d ∧ ((c + qD1 a b d) % 4294967296 + qD a b c d) % 4294967296 = qC a b c d) := ⟨rfl, rfl⟩
  generalize qD1 a b d = d1 at *
  generalize qB1 a b c d = b1 at *
  generalize qD a b c d = d2 at *
  generalize qB a b c d = b2 at *
  go_enter Tryz.func148, Tryz.ntmps148
  go_wp2_with fail
  refine (hL.out _ _ _ h1).mono ?_
  rintro e w' ⟨rfl, rfl⟩
  rw [D1.out]
  clear D1 h1 e1
  generalize (a + b) % 4294967296 = a1 at *
  go_wp2_with fail
  refine (hL.out _ _ _ h2).mono ?_
  rintro e w' ⟨rfl, rfl⟩
  rw [B1.out]
  clear B1 h2 e2
  generalize (c + d1) % 4294967296 = c1 at *
  go_wp2_with fail
  refine (hL.out _ _ _ h3).mono ?_
  rintro e w' ⟨rfl, rfl⟩
  rw [D2.out]
  clear D2 h3 e3
  generalize (a1 + b1) % 4294967296 = a2 at *
  go_wp2_with fail
  refine (hL.out _ _ _ h4).mono ?_
  rintro e w' ⟨rfl, rfl⟩
  rw [B2.out]
  clear B2 h4 e4
  generalize (c1 + d2) % 4294967296 = c2 at *
  go_wp2
  refine bodyPost_ret (results_tmp4 rfl _ _ _) rfl ?_
  refine ⟨?_, rfl⟩
  rw [← hfin.out.1, ← hfin.out.2]
  rfl

theorem stream_areFit (k n : ByteArray) (w : World) :
    Calls Tryz.prog 133 #[.string k, .string n] w fun e w' => e = .returned (.bool (decide (k.size = 32 ∧ n.size = 12))) ∧ w = w' := by
  by_cases h : k.size = 32 <;> by_cases h' : n.size = 12
  all_goals
    go_enter Tryz.func133, Tryz.ntmps133
    go_wp2
    go_ret
    exact ⟨by simp [h, h']; try omega, rfl⟩

end Go.Proofs.YtanghehmfagmfaaGreatDoor

/-
  The contract of package stream's doubleRound.
-/
namespace Go.Proofs.YtanghehmfagmfaaGreatDoor
open Go.RowKit
set_option linter.unusedVariables false
set_option maxRecDepth 100000
set_option linter.unusedSimpArgs false

theorem RowIs.has {w : World} {g : Nat} {t : TypeId} {l : List Value} (h : RowIs w g t l) {j : Nat} (hj : j < l.length) : ∃ v, w.cell? ⟨g, j, none⟩ = some v := ⟨_, h.cellAt (List.getElem?_eq_getElem hj)⟩
theorem row_set4 {w : World} {g : Nat} {t : TypeId} {s : List Int} (h : RowIs w g t (cells32 s)) (i j k m : Nat) (a b c d : Int) :
    RowIs ((((w.setCell ⟨g, i, none⟩ (.int .u32 a)).setCell ⟨g, j, none⟩ (.int .u32 b)).setCell ⟨g, k, none⟩ (.int .u32 c)).setCell ⟨g, m, none⟩ (.int .u32 d)) g t (cells32 ((((s.set i a).set j b).set k c).set m d)) := by
  have := (((h.set i (.int .u32 a)).set j (.int .u32 b)).set k (.int .u32 c)).set m (.int .u32 d)
  simpa [cells32, List.map_set] using this

/-- The operations of 's[i], s[j], s[k], s[m] = Quarter(s[i], s[j], s[k], s[m])', the slots from B on. -/
def qList (B i j k m : Nat) : List (Option Tmp × Op) :=
  [(some (B + 3), .move (.tmp 0)), (some (B + 4), .move (.tmp 0)), (some (B + 5), .move (.tmp 0)), (some (B + 6), .move (.tmp 0)),
   (some (B + 7), .move (.tmp 0)), (some (B + 8), .nilCheck (.tmp (B + 7))), (some (B + 9), .indexAddr 214 (.tmp (B + 8)) (.const (.int .i64 (i : Int)))), (some (B + 10), .load 73 (.tmp (B + 9))),
   (some (B + 11), .move (.tmp 0)), (some (B + 12), .nilCheck (.tmp (B + 11))), (some (B + 13), .indexAddr 214 (.tmp (B + 12)) (.const (.int .i64 (j : Int)))), (some (B + 14), .load 73 (.tmp (B + 13))),
   (some (B + 15), .move (.tmp 0)), (some (B + 16), .nilCheck (.tmp (B + 15))), (some (B + 17), .indexAddr 214 (.tmp (B + 16)) (.const (.int .i64 (k : Int)))), (some (B + 18), .load 73 (.tmp (B + 17))),
   (some (B + 19), .move (.tmp 0)), (some (B + 20), .nilCheck (.tmp (B + 19))), (some (B + 21), .indexAddr 214 (.tmp (B + 20)) (.const (.int .i64 (m : Int)))), (some (B + 22), .load 73 (.tmp (B + 21))),
   (some (B + 23), .call { callee := .value (.func 197), args := #[.tmp (B + 10), .tmp (B + 14), .tmp (B + 18), .tmp (B + 22)], argTypes := #[73, 73, 73, 73] }),
   (some (B + 2), .move (.tmp (B + 23))), (some (B + 24), .extract (.tmp (B + 2)) 0), (some (B + 25), .extract (.tmp (B + 2)) 1), (some (B + 26), .extract (.tmp (B + 2)) 2), (some (B + 27), .extract (.tmp (B + 2)) 3),
   (some (B + 28), .nilCheck (.tmp (B + 3))), (some (B + 29), .indexAddr 214 (.tmp (B + 28)) (.const (.int .i64 (i : Int)))), (none, .store 73 (.tmp (B + 29)) (.tmp (B + 24))),
   (some (B + 30), .nilCheck (.tmp (B + 4))), (some (B + 31), .indexAddr 214 (.tmp (B + 30)) (.const (.int .i64 (j : Int)))), (none, .store 73 (.tmp (B + 31)) (.tmp (B + 25))),
   (some (B + 32), .nilCheck (.tmp (B + 5))), (some (B + 33), .indexAddr 214 (.tmp (B + 32)) (.const (.int .i64 (k : Int)))), (none, .store 73 (.tmp (B + 33)) (.tmp (B + 26))),
   (some (B + 34), .nilCheck (.tmp (B + 6))), (some (B + 35), .indexAddr 214 (.tmp (B + 34)) (.const (.int .i64 (m : Int)))), (none, .store 73 (.tmp (B + 35)) (.tmp (B + 27)))]
def qA0 : List Nat := [0, 1, 2, 3, 4, 5, 6, 8, 9, 10, 12, 13, 14, 16, 17, 18, 26, 29, 32, 35]
def qL0 : Array Bool := Array.replicate 38 false
def qL1 : Array Bool := listAll qA0 qL0
def qL2 : Array Bool := listAll [7, 11, 15, 19] qL1
def qL3 : Array Bool := qL2.setIfInBounds 20 true
def qL4 : Array Bool := listAll [21, 22, 23, 24, 25, 27] qL3
def qL5 : Array Bool := qL4.setIfInBounds 28 true
def qL6 : Array Bool := listAll [30] qL5
def qL7 : Array Bool := qL6.setIfInBounds 31 true
def qL8 : Array Bool := listAll [33] qL7
def qL9 : Array Bool := qL8.setIfInBounds 34 true
def qLa : Array Bool := listAll [36] qL9
def qLb : Array Bool := qLa.setIfInBounds 37 true
def plainAt (ops : Array Oper) (i : Nat) : Bool := (ops[i]?).any fun o => o.guard.isNone
theorem plainAt_spec {ops : Array Oper} {i : Nat} {o : Oper} (h : plainAt ops i = true) (ho : ops[i]? = some o) : o.guard = none := by
  simpa [plainAt, ho] using h
/-- What the kernel is asked of such a region: whoever may come up, and who waits for whom. -/
def qOk (ops : Array Oper) : Bool :=
  ops.size == 38 && Region.noSelect ops && planOk .any ops qA0 qL0 && planOk .any ops [7, 11, 15, 19] qL1 && ([7, 11, 15, 19].all fun i => awaits .any ops 20 i) && Region.ready .any ops qL2 == [20] && plainAt ops 20 &&
  planOk .any ops [21, 22, 23, 24, 25, 27] qL3 && Region.ready .any ops qL4 == [28] && plainAt ops 28 && planOk .any ops [30] qL5 && Region.ready .any ops qL6 == [31] && plainAt ops 31 && planOk .any ops [33] qL7 && Region.ready .any ops qL8 == [34] && plainAt ops 34 &&
  planOk .any ops [36] qL9 && Region.ready .any ops qLa == [37] && plainAt ops 37 && Region.ready .any ops qLb == []

theorem arr16 : Tryz.prog.underlying 214 = some (.array 16 73) := Tryz.underlying214

set_option maxRecDepth 100000 in
set_option maxHeartbeats 2000000 in
theorem quarter_region {ops : Array Oper} {id : Nat} {Q : Exit → Act → World → Prop} (B i j k m : Nat) (hi : i < 16) (hj : j < 16) (hk : k < 16) (hm : m < 16) (hops : kinds ops = qList B i j k m) (hok : qOk ops = true)
    (hQ : ∀ c a d v w, Q (.panic c) (a.put d v) w → Q (.panic c) a w) (g : Nat) (s : List Int) (w : World) (a : Act) (hl : s.length = 16) (hw : allW s) (hr : RowIs w g 214 (cells32 s))
    (hB : ∀ n, n < 36 → B + n < a.tmps.size) (h0 : a.eval (.tmp 0) = .pointer (some ⟨g, 0, none⟩))
    (K : ∀ b w', b.tmps.size = a.tmps.size → b.eval (.tmp 0) = .pointer (some ⟨g, 0, none⟩) → b.defers = a.defers → RowIs w' g 214 (cells32 (qAt s i j k m)) → Upon g w w' → Q .normal b w') :
    (Code.region id ops true).wp Tryz.prog Q a w := by
  simp only [qOk, Bool.and_eq_true, beq_iff_eq] at hok
  obtain ⟨⟨⟨⟨⟨⟨⟨⟨⟨⟨⟨⟨⟨⟨⟨⟨⟨⟨⟨o1, o2⟩, o3⟩, o4⟩, o5⟩, o6⟩, o7⟩, o8⟩, o9⟩, oa⟩, ob⟩, oc'⟩, od⟩, oe⟩, of⟩, og⟩, oh⟩, oi⟩, oj⟩, ok⟩ := hok
  have hlen : (cells32 s).length = 16 := by rw [cells32_len, hl]
  have hr0 := hr.drew
  have ci := hr0.cellAt (cells32_at s i (by omega))
  have cj := hr0.cellAt (cells32_at s j (by omega))
  have ck := hr0.cellAt (cells32_at s k (by omega))
  have cm := hr0.cellAt (cells32_at s m (by omega))
  have wi := getD_w' hw i
  have wj := getD_w' hw j
  have wk := getD_w' hw k
  have wm := getD_w' hw m
  have hu := hr0
  have K' : ∀ b w', b.tmps.size = a.tmps.size → b.eval (.tmp 0) = .pointer (some ⟨g, 0, none⟩) → b.defers = a.defers → RowIs w' g 214 (cells32 ((((s.set i (qA (s.getD i 0) (s.getD j 0) (s.getD k 0) (s.getD m 0))).set j (qB (s.getD i 0) (s.getD j 0) (s.getD k 0) (s.getD m 0))).set k (qC (s.getD i 0) (s.getD j 0) (s.getD k 0) (s.getD m 0))).set m (qD (s.getD i 0) (s.getD j 0) (s.getD k 0) (s.getD m 0)))) → Upon g w w' → Q .normal b w' := K
  clear K
  generalize s.getD i 0 = xi at *
  generalize s.getD j 0 = xj at *
  generalize s.getD k 0 = xk at *
  generalize s.getD m 0 = xm at *
  have u0 : Upon g w w.drew := (Upon.refl g w).drew
  generalize hw0 : w.drew = w0 at *
  have hq := stream_quarter xi xj xk xm w0 wi wj wk wm
  generalize qA xi xj xk xm = ya at *
  generalize qB xi xj xk xm = yb at *
  generalize qC xi xj xk xm = yc at *
  generalize qD xi xj xk xm = yd at *
  have HC : Hid (∀ w : World, (callFunc 197 #[.int .u32 xi, .int .u32 xj, .int .u32 xk, .int .u32 xm]).run Tryz.prog w = .ok (.enter 197 #[.int .u32 xi, .int .u32 xj, .int .u32 xk, .int .u32 xm]) w) := fun w => by simp [go_sem]
  have hB0 := hB
  obtain ⟨p, hp⟩ : ∃ p : Value, p = .pointer (some ⟨g, 0, none⟩) := ⟨_, rfl⟩
  have idx : ∀ (a : Act) (o : Oper) (x : Operand) (n : Nat), n < 16 → o.op = .indexAddr 214 x (.const (.int .i64 (n : Int))) → a.eval x = p → ∀ w, (execOp a.eval o).run Tryz.prog w = .ok (.value (.pointer (some ⟨g, n, none⟩))) w := by
    intro a o x n hn ho hx w
    have := run_index' ho (hx.trans hp) rfl hn arr16 cells30 w
    rwa [Nat.zero_add] at this
  have nil : ∀ (a : Act) (o : Oper) (x : Operand), o.op = .nilCheck x → a.eval x = p → ∀ w, (execOp a.eval o).run Tryz.prog w = .ok (.value p) w := by
    intro a o x ho hx w
    rw [hp]
    exact run_nil' ho (hx.trans hp) w
  have h0' : a.eval (.tmp 0) = p := h0.trans hp.symm
  have hA : ∃ b, Chain Tryz.prog ops (fun _ => True) [(0, p), (1, p), (2, p), (3, p), (4, p), (5, p), (6, .pointer (some ⟨g, i, none⟩)), (8, p), (9, p), (10, .pointer (some ⟨g, j, none⟩)), (12, p), (13, p), (14, .pointer (some ⟨g, k, none⟩)), (16, p), (17, p), (18, .pointer (some ⟨g, m, none⟩)), (26, p), (29, p), (32, p), (35, p)] a b ∧ b.tmps.size = a.tmps.size ∧ b.defers = a.defers ∧ b.eval (.tmp 0) = p ∧ b.eval (.tmp (B + 9)) = .pointer (some ⟨g, i, none⟩) ∧ b.eval (.tmp (B + 13)) = .pointer (some ⟨g, j, none⟩) ∧ b.eval (.tmp (B + 17)) = .pointer (some ⟨g, k, none⟩) ∧ b.eval (.tmp (B + 21)) = .pointer (some ⟨g, m, none⟩) ∧ b.eval (.tmp (B + 28)) = p ∧ b.eval (.tmp (B + 30)) = p ∧ b.eval (.tmp (B + 32)) = p ∧ b.eval (.tmp (B + 34)) = p := by
    refine Chain.exCons hops rfl (fun o ho w _ => run_move' ho h0' w) ?_
    refine Chain.exCons hops rfl (fun o ho w _ => run_move' ho (by simp [eval_put, size_put, hB, h0']) w) ?_
    refine Chain.exCons hops rfl (fun o ho w _ => run_move' ho (by simp [eval_put, size_put, hB, h0']) w) ?_
    refine Chain.exCons hops rfl (fun o ho w _ => run_move' ho (by simp [eval_put, size_put, hB, h0']) w) ?_
    refine Chain.exCons hops rfl (fun o ho w _ => run_move' ho (by simp [eval_put, size_put, hB, h0']) w) ?_
    refine Chain.exCons hops rfl (fun o ho w _ => nil _ o _ ho (by simp [eval_put, size_put, hB, h0']) w) ?_
    refine Chain.exCons hops rfl (fun o ho w _ => idx _ o _ i hi ho (by simp [eval_put, size_put, hB, h0']) w) ?_
    refine Chain.exCons hops rfl (fun o ho w _ => run_move' ho (by simp [eval_put, size_put, hB, h0']) w) ?_
    refine Chain.exCons hops rfl (fun o ho w _ => nil _ o _ ho (by simp [eval_put, size_put, hB, h0']) w) ?_
    refine Chain.exCons hops rfl (fun o ho w _ => idx _ o _ j hj ho (by simp [eval_put, size_put, hB, h0']) w) ?_
    refine Chain.exCons hops rfl (fun o ho w _ => run_move' ho (by simp [eval_put, size_put, hB, h0']) w) ?_
    refine Chain.exCons hops rfl (fun o ho w _ => nil _ o _ ho (by simp [eval_put, size_put, hB, h0']) w) ?_
    refine Chain.exCons hops rfl (fun o ho w _ => idx _ o _ k hk ho (by simp [eval_put, size_put, hB, h0']) w) ?_
    refine Chain.exCons hops rfl (fun o ho w _ => run_move' ho (by simp [eval_put, size_put, hB, h0']) w) ?_
    refine Chain.exCons hops rfl (fun o ho w _ => nil _ o _ ho (by simp [eval_put, size_put, hB, h0']) w) ?_
    refine Chain.exCons hops rfl (fun o ho w _ => idx _ o _ m hm ho (by simp [eval_put, size_put, hB, h0']) w) ?_
    refine Chain.exCons hops rfl (fun o ho w _ => nil _ o _ ho (by simp [eval_put, size_put, hB, h0']) w) ?_
    refine Chain.exCons hops rfl (fun o ho w _ => nil _ o _ ho (by simp [eval_put, size_put, hB, h0']) w) ?_
    refine Chain.exCons hops rfl (fun o ho w _ => nil _ o _ ho (by simp [eval_put, size_put, hB, h0']) w) ?_
    refine Chain.exCons hops rfl (fun o ho w _ => nil _ o _ ho (by simp [eval_put, size_put, hB, h0']) w) ?_
    refine Chain.exNil ⟨?_, ?_, ?_, ?_, ?_, ?_, ?_, ?_, ?_, ?_, ?_⟩
    all_goals simp [eval_put, size_put, defers_put, hB, h0']
  obtain ⟨b, hA, s1, d1, e0, ei, ej, ek, em, f1, f2, f3, f4⟩ := hA
  have hB1 : ∀ n, n < 36 → B + n < b.tmps.size := by rw [s1]; exact hB
  have hT : w0.cell? ⟨g, i, none⟩ = some (.int .u32 xi) ∧ w0.cell? ⟨g, j, none⟩ = some (.int .u32 xj) ∧ w0.cell? ⟨g, k, none⟩ = some (.int .u32 xk) ∧ w0.cell? ⟨g, m, none⟩ = some (.int .u32 xm) := ⟨ci, cj, ck, cm⟩
  refine wp_region_T (n := 38) (fun _ => True) (fun w => w.cell? ⟨g, i, none⟩ = some (.int .u32 xi) ∧ w.cell? ⟨g, j, none⟩ = some (.int .u32 xj) ∧ w.cell? ⟨g, k, none⟩ = some (.int .u32 xk) ∧ w.cell? ⟨g, m, none⟩ = some (.int .u32 xm)) 20 (by kernel_rfl) o1 ?_
  rw [hw0]
  refine wpAnyT_takesS (T := fun w => w.cell? ⟨g, i, none⟩ = some (.int .u32 xi) ∧ w.cell? ⟨g, j, none⟩ = some (.int .u32 xj) ∧ w.cell? ⟨g, k, none⟩ = some (.int .u32 xk) ∧ w.cell? ⟨g, m, none⟩ = some (.int .u32 xm)) o2 hQ _ 18 _ a b _ o3 rfl hA True.intro hT ?_
  have hL : ∃ b', Chain Tryz.prog ops (fun w => True ∧ (w.cell? ⟨g, i, none⟩ = some (.int .u32 xi) ∧ w.cell? ⟨g, j, none⟩ = some (.int .u32 xj) ∧ w.cell? ⟨g, k, none⟩ = some (.int .u32 xk) ∧ w.cell? ⟨g, m, none⟩ = some (.int .u32 xm))) [(7, .int .u32 xi), (11, .int .u32 xj), (15, .int .u32 xk), (19, .int .u32 xm)] b b' ∧ b'.tmps.size = a.tmps.size ∧ b'.defers = a.defers ∧ b'.eval (.tmp 0) = p ∧ b'.eval (.tmp (B + 10)) = .int .u32 xi ∧ b'.eval (.tmp (B + 14)) = .int .u32 xj ∧ b'.eval (.tmp (B + 18)) = .int .u32 xk ∧ b'.eval (.tmp (B + 22)) = .int .u32 xm ∧ b'.eval (.tmp (B + 28)) = p ∧ b'.eval (.tmp (B + 30)) = p ∧ b'.eval (.tmp (B + 32)) = p ∧ b'.eval (.tmp (B + 34)) = p := by
    refine Chain.exCons hops rfl (fun o ho w hw => run_load' ho (by simp [eval_put, size_put, hB1, ei, ej, ek, em]) Tryz.underlying73 w hw.2.1) ?_
    refine Chain.exCons hops rfl (fun o ho w hw => run_load' ho (by simp [eval_put, size_put, hB1, ei, ej, ek, em]) Tryz.underlying73 w hw.2.2.1) ?_
    refine Chain.exCons hops rfl (fun o ho w hw => run_load' ho (by simp [eval_put, size_put, hB1, ei, ej, ek, em]) Tryz.underlying73 w hw.2.2.2.1) ?_
    refine Chain.exCons hops rfl (fun o ho w hw => run_load' ho (by simp [eval_put, size_put, hB1, ei, ej, ek, em]) Tryz.underlying73 w hw.2.2.2.2) ?_
    refine Chain.exNil ⟨?_, ?_, ?_, ?_, ?_, ?_, ?_, ?_, ?_, ?_, ?_⟩
    all_goals simp [eval_put, size_put, defers_put, hB0, s1, d1, e0, f1, f2, f3, f4]
  clear ei ej ek em e0 f1 f2 f3 f4 hB1 hA
  obtain ⟨c, hL, s2, d2, e0, ei, ej, ek, em, f1, f2, f3, f4⟩ := hL
  clear s1 d1
  refine wpAnyT_takesT (T := fun w => w.cell? ⟨g, i, none⟩ = some (.int .u32 xi) ∧ w.cell? ⟨g, j, none⟩ = some (.int .u32 xj) ∧ w.cell? ⟨g, k, none⟩ = some (.int .u32 xk) ∧ w.cell? ⟨g, m, none⟩ = some (.int .u32 xm)) o2 hQ _ 14 _ b c _ o4 o5 hL True.intro hT ?_
  obtain ⟨oc, hoc, hd, hx⟩ := kinds_at hops (i := 20) rfl
  refine wpAnyT_call o6 hoc (plainAt_spec o7 hoc) ?_
  refine wp_call' hx (vs := #[.int .u32 xi, .int .u32 xj, .int .u32 xk, .int .u32 xm]) (by simp [ei, ej, ek, em]) (HC.out w0) (hq.mono (fun e w'' h => ⟨h.1, h.2.symm⟩)) ⟨True.intro, ?_⟩
  rw [hd]
  have hB2 : ∀ n, n < 36 → B + n < (c.put (some (B + 23)) (.tuple #[.int .u32 ya, .int .u32 yb, .int .u32 yc, .int .u32 yd])).tmps.size := by rw [size_put, s2]; exact hB
  have s3 : (c.put (some (B + 23)) (.tuple #[.int .u32 ya, .int .u32 yb, .int .u32 yc, .int .u32 yd])).tmps.size = a.tmps.size := by rw [size_put, s2]
  have d3 : (c.put (some (B + 23)) (.tuple #[.int .u32 ya, .int .u32 yb, .int .u32 yc, .int .u32 yd])).defers = a.defers := by rw [defers_put, d2]
  have t3 : (c.put (some (B + 23)) (.tuple #[.int .u32 ya, .int .u32 yb, .int .u32 yc, .int .u32 yd])).eval (.tmp (B + 23)) = (.tuple #[.int .u32 ya, .int .u32 yb, .int .u32 yc, .int .u32 yd]) := by simp [eval_put, s2, hB]
  have z0 : (c.put (some (B + 23)) (.tuple #[.int .u32 ya, .int .u32 yb, .int .u32 yc, .int .u32 yd])).eval (.tmp 0) = p := by simp [eval_put, e0, f1, f2, f3, f4]
  have z1 : (c.put (some (B + 23)) (.tuple #[.int .u32 ya, .int .u32 yb, .int .u32 yc, .int .u32 yd])).eval (.tmp (B + 28)) = p := by simp [eval_put, e0, f1, f2, f3, f4]
  have z2 : (c.put (some (B + 23)) (.tuple #[.int .u32 ya, .int .u32 yb, .int .u32 yc, .int .u32 yd])).eval (.tmp (B + 30)) = p := by simp [eval_put, e0, f1, f2, f3, f4]
  have z3 : (c.put (some (B + 23)) (.tuple #[.int .u32 ya, .int .u32 yb, .int .u32 yc, .int .u32 yd])).eval (.tmp (B + 32)) = p := by simp [eval_put, e0, f1, f2, f3, f4]
  have z4 : (c.put (some (B + 23)) (.tuple #[.int .u32 ya, .int .u32 yb, .int .u32 yc, .int .u32 yd])).eval (.tmp (B + 34)) = p := by simp [eval_put, e0, f1, f2, f3, f4]
  clear hB s2 d2 e0 ei ej ek em f1 f2 f3 f4 hx hd hL h0 h0'
  generalize c.put (some (B + 23)) (.tuple #[.int .u32 ya, .int .u32 yb, .int .u32 yc, .int .u32 yd]) = d at *
  have hE : ∃ b', Chain Tryz.prog ops (fun _ => True) [(21, .tuple #[.int .u32 ya, .int .u32 yb, .int .u32 yc, .int .u32 yd]), (22, .int .u32 ya), (23, .int .u32 yb), (24, .int .u32 yc), (25, .int .u32 yd), (27, .pointer (some ⟨g, i, none⟩))] d b' ∧ b'.tmps.size = a.tmps.size ∧ b'.defers = a.defers ∧ b'.eval (.tmp 0) = p ∧ b'.eval (.tmp (B + 29)) = .pointer (some ⟨g, i, none⟩) ∧ b'.eval (.tmp (B + 24)) = .int .u32 ya ∧ b'.eval (.tmp (B + 25)) = .int .u32 yb ∧ b'.eval (.tmp (B + 26)) = .int .u32 yc ∧ b'.eval (.tmp (B + 27)) = .int .u32 yd ∧ b'.eval (.tmp (B + 30)) = p ∧ b'.eval (.tmp (B + 32)) = p ∧ b'.eval (.tmp (B + 34)) = p := by
    refine Chain.exCons hops rfl (fun o ho w _ => run_move' ho t3 w) ?_
    refine Chain.exCons hops rfl (fun o ho w _ => run_extract' ho (vs := #[.int .u32 ya, .int .u32 yb, .int .u32 yc, .int .u32 yd]) (by simp [eval_put, size_put, hB2, t3, z1]) rfl w) ?_
    refine Chain.exCons hops rfl (fun o ho w _ => run_extract' ho (vs := #[.int .u32 ya, .int .u32 yb, .int .u32 yc, .int .u32 yd]) (by simp [eval_put, size_put, hB2, t3, z1]) rfl w) ?_
    refine Chain.exCons hops rfl (fun o ho w _ => run_extract' ho (vs := #[.int .u32 ya, .int .u32 yb, .int .u32 yc, .int .u32 yd]) (by simp [eval_put, size_put, hB2, t3, z1]) rfl w) ?_
    refine Chain.exCons hops rfl (fun o ho w _ => run_extract' ho (vs := #[.int .u32 ya, .int .u32 yb, .int .u32 yc, .int .u32 yd]) (by simp [eval_put, size_put, hB2, t3, z1]) rfl w) ?_
    refine Chain.exCons hops rfl (fun o ho w _ => idx _ o _ i hi ho (by simp [eval_put, size_put, hB2, t3, z1]) w) ?_
    refine Chain.exNil ⟨?_, ?_, ?_, ?_, ?_, ?_, ?_, ?_, ?_, ?_, ?_⟩
    all_goals simp [eval_put, size_put, defers_put, hB0, s3, d3, z0, z2, z3, z4]
  obtain ⟨e1, hE, s4, d4, z0', g0, ga, gb, gc, gd, z2', z3', z4'⟩ := hE
  refine wpAnyH_takes o2 hQ _ 7 _ d e1 _ o8 hE True.intro ?_
  clear hE hB2 s3 d3 t3 z0 z1 z2 z3 z4
  have hB3 : ∀ n, n < 36 → B + n < e1.tmps.size := by rw [s4]; exact hB0
  obtain ⟨v1, c1⟩ := hr0.has (j := i) (by omega)
  obtain ⟨q1, hq1, hd1, hx1⟩ := kinds_at hops (i := 28) rfl
  refine wpAnyH_step o9 hq1 (plainAt_spec oa hq1) (wp_store' hx1 hd1 g0 ga cells30 c1 (hr0.frozen _) ⟨True.intro, ?_⟩)
  have r1 := hr0.set i (.int .u32 ya)
  refine wpAnyH_takes o2 hQ [(30, .pointer (some ⟨g, j, none⟩))] 5 _ e1 _ _ ob (.cons hops rfl (fun o ho w _ => idx _ o _ j hj ho z2' w) .nil) True.intro ?_
  obtain ⟨v2, c2⟩ := r1.has (j := j) (by rw [List.length_set]; omega)
  obtain ⟨q2, hq2, hd2, hx2⟩ := kinds_at hops (i := 31) rfl
  refine wpAnyH_step oc' hq2 (plainAt_spec od hq2) (wp_store' (k := .u32) (n := yb) (p := ⟨g, j, none⟩) hx2 hd2 (by simp [eval_put, hB3]) (by simp [eval_put, gb]) cells30 c2 (r1.frozen _) ⟨True.intro, ?_⟩)
  have r2 := r1.set j (.int .u32 yb)
  refine wpAnyH_takes o2 hQ [(33, .pointer (some ⟨g, k, none⟩))] 3 _ _ _ _ oe (.cons hops rfl (fun o ho w _ => idx _ o _ k hk ho (by simp [eval_put, z3']) w) .nil) True.intro ?_
  obtain ⟨v3, c3⟩ := r2.has (j := k) (by rw [List.length_set, List.length_set]; omega)
  obtain ⟨q3, hq3, hd3, hx3⟩ := kinds_at hops (i := 34) rfl
  refine wpAnyH_step of hq3 (plainAt_spec og hq3) (wp_store' (k := .u32) (n := yc) (p := ⟨g, k, none⟩) hx3 hd3 (by simp [eval_put, size_put, hB3]) (by simp [eval_put, gc]) cells30 c3 (r2.frozen _) ⟨True.intro, ?_⟩)
  have r3 := r2.set k (.int .u32 yc)
  refine wpAnyH_takes o2 hQ [(36, .pointer (some ⟨g, m, none⟩))] 1 _ _ _ _ oh (.cons hops rfl (fun o ho w _ => idx _ o _ m hm ho (by simp [eval_put, z4']) w) .nil) True.intro ?_
  obtain ⟨v4, c4⟩ := r3.has (j := m) (by rw [List.length_set, List.length_set, List.length_set]; omega)
  obtain ⟨q4, hq4, hd4, hx4⟩ := kinds_at hops (i := 37) rfl
  refine wpAnyH_step oi hq4 (plainAt_spec oj hq4) (wp_store' (k := .u32) (n := yd) (p := ⟨g, m, none⟩) hx4 hd4 (by simp [eval_put, size_put, hB3]) (by simp [eval_put, gd]) cells30 c4 (r3.frozen _) ⟨True.intro, ?_⟩)
  refine ⟨ok, K' _ _ (by simp [size_put, s4]) (by simp [eval_put, z0', hp]) (by simp [defers_put, d4]) (row_set4 hr0 i j k m ya yb yc yd) ((((u0.setCell i _).setCell j _).setCell k _).setCell m _)⟩
end Go.Proofs.YtanghehmfagmfaaGreatDoor

/-
  The region 'w[r[0]], w[r[1]], w[r[2]], w[r[3]] = Quarter(w[r[0]], w[r[1]], w[r[2]], w[r[3]])' of the reference's Block.
-/
namespace Go.Proofs.YtanghehmfagmfaaGreatDoor
open Go.RowKit
set_option linter.unusedVariables false
set_option maxRecDepth 100000
set_option linter.unusedSimpArgs false

theorem run_indexS {P : Program} {a : Act} {o : Oper} {x ix : Operand} {t e : TypeId} {n cap b j k : Nat} (ho : o.op = .indexAddr t x ix) (hx : a.eval x = .slice (some ⟨b, j, none⟩) n cap) (hi : a.eval ix = .int .i64 (k : Int)) (hk : k < n)
    (hu : P.underlying t = some (.slice e)) (hz : (P.info? e).map (·.size) = some 1) (w : World) : (execOp a.eval o).run P w = .ok (.value (.pointer (some ⟨b, j + k, none⟩))) w := by
  have hz' : (sizeOf e).run P w = .ok 1 w := by
    cases hi : P.info? e with
    | none => simp [hi] at hz
    | some i => simp [hi] at hz; simp [sizeOf, typeInfo, hi, hz]
  have h0 : (0 : Int) ≤ (k : Int) := by omega
  have h1 : (k : Int) < (n : Int) := by omega
  have hrun : (Instr.indexAt t (.slice (some ⟨b, j, none⟩) n cap) (.int .i64 (k : Int))).run P w = .ok (.pointer (some ⟨b, j + k, none⟩)) w := by
    simp [go_sem, hu, hz', h0, h1]
  unfold execOp
  simp only [ho, hx, hi, Sem.run_bind, hrun]
  rfl
theorem eval_out {a : Act} {j n : Nat} {v : Value} (h1 : 79 ≤ j) (h2 : j ≤ 128) (hn : n < 79 ∨ 128 < n) : (a.put (some j) v).eval (.tmp n) = a.eval (.tmp n) := eval_put_ne (by omega)
theorem size_int : (Tryz.prog.info? 3).map (·.size) = some 1 := by kernel_rfl

def rList : List (Option Tmp × Op) :=
  [(some 80, .move (.tmp 10)),
   (some 81, .move (.tmp 14)),
   (some 82, .indexAddr 30 (.tmp 81) (.const (.int .i64 ((0 : Nat) : Int)))),
   (some 83, .load 3 (.tmp 82)),
   (some 84, .move (.tmp 10)),
   (some 85, .move (.tmp 14)),
   (some 86, .indexAddr 30 (.tmp 85) (.const (.int .i64 ((1 : Nat) : Int)))),
   (some 87, .load 3 (.tmp 86)),
   (some 88, .move (.tmp 10)),
   (some 89, .move (.tmp 14)),
   (some 90, .indexAddr 30 (.tmp 89) (.const (.int .i64 ((2 : Nat) : Int)))),
   (some 91, .load 3 (.tmp 90)),
   (some 92, .move (.tmp 10)),
   (some 93, .move (.tmp 14)),
   (some 94, .indexAddr 30 (.tmp 93) (.const (.int .i64 ((3 : Nat) : Int)))),
   (some 95, .load 3 (.tmp 94)),
   (some 96, .move (.tmp 10)),
   (some 97, .move (.tmp 14)),
   (some 98, .indexAddr 30 (.tmp 97) (.const (.int .i64 ((0 : Nat) : Int)))),
   (some 99, .load 3 (.tmp 98)),
   (some 100, .indexAddr 192 (.tmp 96) (.tmp 99)),
   (some 101, .load 73 (.tmp 100)),
   (some 102, .move (.tmp 10)),
   (some 103, .move (.tmp 14)),
   (some 104, .indexAddr 30 (.tmp 103) (.const (.int .i64 ((1 : Nat) : Int)))),
   (some 105, .load 3 (.tmp 104)),
   (some 106, .indexAddr 192 (.tmp 102) (.tmp 105)),
   (some 107, .load 73 (.tmp 106)),
   (some 108, .move (.tmp 10)),
   (some 109, .move (.tmp 14)),
   (some 110, .indexAddr 30 (.tmp 109) (.const (.int .i64 ((2 : Nat) : Int)))),
   (some 111, .load 3 (.tmp 110)),
   (some 112, .indexAddr 192 (.tmp 108) (.tmp 111)),
   (some 113, .load 73 (.tmp 112)),
   (some 114, .move (.tmp 10)),
   (some 115, .move (.tmp 14)),
   (some 116, .indexAddr 30 (.tmp 115) (.const (.int .i64 ((3 : Nat) : Int)))),
   (some 117, .load 3 (.tmp 116)),
   (some 118, .indexAddr 192 (.tmp 114) (.tmp 117)),
   (some 119, .load 73 (.tmp 118)),
   (some 120, .call { callee := .value (.func 148), args := #[.tmp 101, .tmp 107, .tmp 113, .tmp 119], argTypes := #[73, 73, 73, 73] }),
   (some 79, .move (.tmp 120)),
   (some 121, .extract (.tmp 79) 0),
   (some 122, .extract (.tmp 79) 1),
   (some 123, .extract (.tmp 79) 2),
   (some 124, .extract (.tmp 79) 3),
   (some 125, .indexAddr 192 (.tmp 80) (.tmp 83)),
   (none, .store 73 (.tmp 125) (.tmp 121)),
   (some 126, .indexAddr 192 (.tmp 84) (.tmp 87)),
   (none, .store 73 (.tmp 126) (.tmp 122)),
   (some 127, .indexAddr 192 (.tmp 88) (.tmp 91)),
   (none, .store 73 (.tmp 127) (.tmp 123)),
   (some 128, .indexAddr 192 (.tmp 92) (.tmp 95)),
   (none, .store 73 (.tmp 128) (.tmp 124))]
def rA : List Nat := [0, 1, 2, 3, 4, 5, 6, 7, 8, 9, 10, 11, 12, 13, 14, 15, 16, 17, 18, 19, 20, 22, 23, 24, 25, 26, 28, 29, 30, 31, 32, 34, 35, 36, 37, 38]
def rL0 : Array Bool := Array.replicate 54 false
def rL1 : Array Bool := listAll rA rL0
def rL2 : Array Bool := listAll [21, 27, 33, 39] rL1
def rL3 : Array Bool := rL2.setIfInBounds 40 true
def rL4 : Array Bool := listAll [41, 42, 43, 44, 45, 46] rL3
def rL5 : Array Bool := rL4.setIfInBounds 47 true
def rL6 : Array Bool := listAll [48] rL5
def rL7 : Array Bool := rL6.setIfInBounds 49 true
def rL8 : Array Bool := listAll [50] rL7
def rL9 : Array Bool := rL8.setIfInBounds 51 true
def rLa : Array Bool := listAll [52] rL9
def rLb : Array Bool := rLa.setIfInBounds 53 true
def rOk (ops : Array Oper) : Bool :=
  ops.size == 54 && Region.noSelect ops && planOk .any ops rA rL0 && planOk .any ops [21, 27, 33, 39] rL1 && ([21, 27, 33, 39].all fun i => awaits .any ops 40 i) && Region.ready .any ops rL2 == [40] && plainAt ops 40 &&
  planOk .any ops [41, 42, 43, 44, 45, 46] rL3 && Region.ready .any ops rL4 == [47] && plainAt ops 47 && planOk .any ops [48] rL5 && Region.ready .any ops rL6 == [49] && plainAt ops 49 && planOk .any ops [50] rL7 && Region.ready .any ops rL8 == [51] && plainAt ops 51 &&
  planOk .any ops [52] rL9 && Region.ready .any ops rLa == [53] && plainAt ops 53 && Region.ready .any ops rLb == []

set_option maxRecDepth 100000 in
set_option maxHeartbeats 2000000 in
theorem ref_region {ops : Array Oper} {id : Nat} {Q : Exit → Act → World → Prop} (hops : kinds ops = rList) (hok : rOk ops = true)
    (hQ : ∀ c a d v w, Q (.panic c) (a.put d v) w → Q (.panic c) a w) (B gw cap gr i j k m : Nat) (s : List Int) (w : World) (a : Act) (hi : i < 16) (hj : j < 16) (hk0 : k < 16) (hm : m < 16) (hl : s.length = 16) (hw : allW s) (hne : gr ≠ gw) (hBg : B ≤ gw)
    (hown : w.ownsRow B 73 1 (.slice (some ⟨gw, 0, none⟩) 16 cap) 16 (cells32 s))
    (q0 : w.cell? ⟨gr, 0, none⟩ = some (.int .i64 (i : Int))) (q1 : w.cell? ⟨gr, 1, none⟩ = some (.int .i64 (j : Int))) (q2 : w.cell? ⟨gr, 2, none⟩ = some (.int .i64 (k : Int))) (q3 : w.cell? ⟨gr, 3, none⟩ = some (.int .i64 (m : Int)))
    (hs : a.tmps.size = 147) (h10 : a.eval (.tmp 10) = .slice (some ⟨gw, 0, none⟩) 16 cap) (h14 : a.eval (.tmp 14) = .slice (some ⟨gr, 0, none⟩) 4 4)
    (K : ∀ b w', b.tmps.size = 147 → b.defers = a.defers → (∀ n, n < 79 ∨ 128 < n → b.eval (.tmp n) = a.eval (.tmp n)) → w'.ownsRow B 73 1 (.slice (some ⟨gw, 0, none⟩) 16 cap) 16 (cells32 (qAt s i j k m)) → Upon gw w w' → Q .normal b w') :
    (Code.region id ops true).wp Tryz.prog Q a w := by
  simp only [rOk, Bool.and_eq_true, beq_iff_eq] at hok
  obtain ⟨⟨⟨⟨⟨⟨⟨⟨⟨⟨⟨⟨⟨⟨⟨⟨⟨⟨⟨o1, o2⟩, o3⟩, o4⟩, o5⟩, o6⟩, o7⟩, o8⟩, o9⟩, oa⟩, ob⟩, oc'⟩, od⟩, oe⟩, of⟩, og⟩, oh⟩, oi⟩, oj⟩, ok⟩ := hok
  have hlen : (cells32 s).length = 16 := by rw [cells32_len, hl]
  have hu0 : w.drew.ownsRow B 73 1 (.slice (some ⟨gw, 0, none⟩) 16 cap) 16 (cells32 s) := hown
  have cellAt : ∀ n, n < 16 → w.drew.cell? ⟨gw, n, none⟩ = some (.int .u32 (s.getD n 0)) := fun n hn => by
    have h1 := hu0.cellAt n (by omega)
    rw [cells32_at s n (by omega)] at h1
    exact h1
  have ci := cellAt i hi
  have cj := cellAt j hj
  have ck := cellAt k hk0
  have cm := cellAt m hm
  clear cellAt
  have wi := getD_w' hw i
  have wj := getD_w' hw j
  have wk := getD_w' hw k
  have wm := getD_w' hw m
  have K' : ∀ b w', b.tmps.size = 147 → b.defers = a.defers → (∀ n, n < 79 ∨ 128 < n → b.eval (.tmp n) = a.eval (.tmp n)) → w'.ownsRow B 73 1 (.slice (some ⟨gw, 0, none⟩) 16 cap) 16 (cells32 ((((s.set i (qA (s.getD i 0) (s.getD j 0) (s.getD k 0) (s.getD m 0))).set j (qB (s.getD i 0) (s.getD j 0) (s.getD k 0) (s.getD m 0))).set k (qC (s.getD i 0) (s.getD j 0) (s.getD k 0) (s.getD m 0))).set m (qD (s.getD i 0) (s.getD j 0) (s.getD k 0) (s.getD m 0)))) → Upon gw w w' → Q .normal b w' := K
  clear K
  generalize s.getD i 0 = xi at *
  generalize s.getD j 0 = xj at *
  generalize s.getD k 0 = xk at *
  generalize s.getD m 0 = xm at *
  have u0 : Upon gw w w.drew := (Upon.refl gw w).drew
  have p0 : w.drew.cell? ⟨gr, 0, none⟩ = some (.int .i64 (i : Int)) := q0
  have p1 : w.drew.cell? ⟨gr, 1, none⟩ = some (.int .i64 (j : Int)) := q1
  have p2 : w.drew.cell? ⟨gr, 2, none⟩ = some (.int .i64 (k : Int)) := q2
  have p3 : w.drew.cell? ⟨gr, 3, none⟩ = some (.int .i64 (m : Int)) := q3
  clear q0 q1 q2 q3
  generalize hw0 : w.drew = w0 at *
  have hq := ref_quarter xi xj xk xm w0 wi wj wk wm
  generalize qA xi xj xk xm = ya at *
  generalize qB xi xj xk xm = yb at *
  generalize qC xi xj xk xm = yc at *
  generalize qD xi xj xk xm = yd at *
  have HC : Hid (∀ w : World, (callFunc 148 #[.int .u32 xi, .int .u32 xj, .int .u32 xk, .int .u32 xm]).run Tryz.prog w = .ok (.enter 148 #[.int .u32 xi, .int .u32 xj, .int .u32 xk, .int .u32 xm]) w) := fun w => by simp [go_sem]
  obtain ⟨W, hW⟩ : ∃ W : Value, W = .slice (some ⟨gw, 0, none⟩) 16 cap := ⟨_, rfl⟩
  obtain ⟨R, hR⟩ : ∃ R : Value, R = .slice (some ⟨gr, 0, none⟩) 4 4 := ⟨_, rfl⟩
  have idw : ∀ (a : Act) (o : Oper) (x y : Operand) (n : Nat), n < 16 → o.op = .indexAddr 192 x y → a.eval x = W → a.eval y = .int .i64 (n : Int) → ∀ w, (execOp a.eval o).run Tryz.prog w = .ok (.value (.pointer (some ⟨gw, n, none⟩))) w := by
    intro a o x y n hn ho hx hy w
    have := run_indexS ho (hx.trans hW) hy hn Tryz.underlying192 cells30 w
    rwa [Nat.zero_add] at this
  have idr : ∀ (a : Act) (o : Oper) (x : Operand) (n : Nat), n < 4 → o.op = .indexAddr 30 x (.const (.int .i64 (n : Int))) → a.eval x = R → ∀ w, (execOp a.eval o).run Tryz.prog w = .ok (.value (.pointer (some ⟨gr, n, none⟩))) w := by
    intro a o x n hn ho hx w
    have := run_indexS ho (hx.trans hR) rfl hn Tryz.underlying30 size_int w
    rwa [Nat.zero_add] at this
  rw [← hW] at h10
  rw [← hR] at h14
  have hA : ∃ b, Chain Tryz.prog ops (fun w => w.cell? ⟨gr, 0, none⟩ = some (.int .i64 (i : Int)) ∧ w.cell? ⟨gr, 1, none⟩ = some (.int .i64 (j : Int)) ∧ w.cell? ⟨gr, 2, none⟩ = some (.int .i64 (k : Int)) ∧ w.cell? ⟨gr, 3, none⟩ = some (.int .i64 (m : Int))) [(0, W), (1, R), (2, .pointer (some ⟨gr, 0, none⟩)), (3, .int .i64 (i : Int)), (4, W), (5, R), (6, .pointer (some ⟨gr, 1, none⟩)), (7, .int .i64 (j : Int)), (8, W), (9, R), (10, .pointer (some ⟨gr, 2, none⟩)), (11, .int .i64 (k : Int)), (12, W), (13, R), (14, .pointer (some ⟨gr, 3, none⟩)), (15, .int .i64 (m : Int)), (16, W), (17, R), (18, .pointer (some ⟨gr, 0, none⟩)), (19, .int .i64 (i : Int)), (20, .pointer (some ⟨gw, i, none⟩)), (22, W), (23, R), (24, .pointer (some ⟨gr, 1, none⟩)), (25, .int .i64 (j : Int)), (26, .pointer (some ⟨gw, j, none⟩)), (28, W), (29, R), (30, .pointer (some ⟨gr, 2, none⟩)), (31, .int .i64 (k : Int)), (32, .pointer (some ⟨gw, k, none⟩)), (34, W), (35, R), (36, .pointer (some ⟨gr, 3, none⟩)), (37, .int .i64 (m : Int)), (38, .pointer (some ⟨gw, m, none⟩))] a b ∧ b.tmps.size = 147 ∧ b.defers = a.defers ∧ (∀ n, n < 79 ∨ 128 < n → b.eval (.tmp n) = a.eval (.tmp n)) ∧ b.eval (.tmp 100) = .pointer (some ⟨gw, i, none⟩) ∧ b.eval (.tmp 106) = .pointer (some ⟨gw, j, none⟩) ∧ b.eval (.tmp 112) = .pointer (some ⟨gw, k, none⟩) ∧ b.eval (.tmp 118) = .pointer (some ⟨gw, m, none⟩) ∧ b.eval (.tmp 80) = W ∧ b.eval (.tmp 83) = .int .i64 (i : Int) ∧ b.eval (.tmp 84) = W ∧ b.eval (.tmp 87) = .int .i64 (j : Int) ∧ b.eval (.tmp 88) = W ∧ b.eval (.tmp 91) = .int .i64 (k : Int) ∧ b.eval (.tmp 92) = W ∧ b.eval (.tmp 95) = .int .i64 (m : Int) := by
    refine Chain.exCons hops rfl (fun o ho w hw => run_move' ho h10 w) ?_
    refine Chain.exCons hops rfl (fun o ho w hw => run_move' ho (by simp [eval_put, size_put, hs, h10, h14]) w) ?_
    refine Chain.exCons hops rfl (fun o ho w hw => idr _ o _ 0 (by decide) ho (by simp [eval_put, size_put, hs, h10, h14]) w) ?_
    refine Chain.exCons hops rfl (fun o ho w hw => run_load' ho (by simp [eval_put, size_put, hs, h10, h14]) Tryz.underlying3 w hw.1) ?_
    refine Chain.exCons hops rfl (fun o ho w hw => run_move' ho (by simp [eval_put, size_put, hs, h10, h14]) w) ?_
    refine Chain.exCons hops rfl (fun o ho w hw => run_move' ho (by simp [eval_put, size_put, hs, h10, h14]) w) ?_
    refine Chain.exCons hops rfl (fun o ho w hw => idr _ o _ 1 (by decide) ho (by simp [eval_put, size_put, hs, h10, h14]) w) ?_
    refine Chain.exCons hops rfl (fun o ho w hw => run_load' ho (by simp [eval_put, size_put, hs, h10, h14]) Tryz.underlying3 w hw.2.1) ?_
    refine Chain.exCons hops rfl (fun o ho w hw => run_move' ho (by simp [eval_put, size_put, hs, h10, h14]) w) ?_
    refine Chain.exCons hops rfl (fun o ho w hw => run_move' ho (by simp [eval_put, size_put, hs, h10, h14]) w) ?_
    refine Chain.exCons hops rfl (fun o ho w hw => idr _ o _ 2 (by decide) ho (by simp [eval_put, size_put, hs, h10, h14]) w) ?_
    refine Chain.exCons hops rfl (fun o ho w hw => run_load' ho (by simp [eval_put, size_put, hs, h10, h14]) Tryz.underlying3 w hw.2.2.1) ?_
    refine Chain.exCons hops rfl (fun o ho w hw => run_move' ho (by simp [eval_put, size_put, hs, h10, h14]) w) ?_
    refine Chain.exCons hops rfl (fun o ho w hw => run_move' ho (by simp [eval_put, size_put, hs, h10, h14]) w) ?_
    refine Chain.exCons hops rfl (fun o ho w hw => idr _ o _ 3 (by decide) ho (by simp [eval_put, size_put, hs, h10, h14]) w) ?_
    refine Chain.exCons hops rfl (fun o ho w hw => run_load' ho (by simp [eval_put, size_put, hs, h10, h14]) Tryz.underlying3 w hw.2.2.2) ?_
    refine Chain.exCons hops rfl (fun o ho w hw => run_move' ho (by simp [eval_put, size_put, hs, h10, h14]) w) ?_
    refine Chain.exCons hops rfl (fun o ho w hw => run_move' ho (by simp [eval_put, size_put, hs, h10, h14]) w) ?_
    refine Chain.exCons hops rfl (fun o ho w hw => idr _ o _ 0 (by decide) ho (by simp [eval_put, size_put, hs, h10, h14]) w) ?_
    refine Chain.exCons hops rfl (fun o ho w hw => run_load' ho (by simp [eval_put, size_put, hs, h10, h14]) Tryz.underlying3 w hw.1) ?_
    refine Chain.exCons hops rfl (fun o ho w hw => idw _ o _ _ i hi ho (by simp [eval_put, size_put, hs, h10, h14]) (by simp [eval_put, size_put, hs, h10, h14]) w) ?_
    refine Chain.exCons hops rfl (fun o ho w hw => run_move' ho (by simp [eval_put, size_put, hs, h10, h14]) w) ?_
    refine Chain.exCons hops rfl (fun o ho w hw => run_move' ho (by simp [eval_put, size_put, hs, h10, h14]) w) ?_
    refine Chain.exCons hops rfl (fun o ho w hw => idr _ o _ 1 (by decide) ho (by simp [eval_put, size_put, hs, h10, h14]) w) ?_
    refine Chain.exCons hops rfl (fun o ho w hw => run_load' ho (by simp [eval_put, size_put, hs, h10, h14]) Tryz.underlying3 w hw.2.1) ?_
    refine Chain.exCons hops rfl (fun o ho w hw => idw _ o _ _ j hj ho (by simp [eval_put, size_put, hs, h10, h14]) (by simp [eval_put, size_put, hs, h10, h14]) w) ?_
    refine Chain.exCons hops rfl (fun o ho w hw => run_move' ho (by simp [eval_put, size_put, hs, h10, h14]) w) ?_
    refine Chain.exCons hops rfl (fun o ho w hw => run_move' ho (by simp [eval_put, size_put, hs, h10, h14]) w) ?_
    refine Chain.exCons hops rfl (fun o ho w hw => idr _ o _ 2 (by decide) ho (by simp [eval_put, size_put, hs, h10, h14]) w) ?_
    refine Chain.exCons hops rfl (fun o ho w hw => run_load' ho (by simp [eval_put, size_put, hs, h10, h14]) Tryz.underlying3 w hw.2.2.1) ?_
    refine Chain.exCons hops rfl (fun o ho w hw => idw _ o _ _ k hk0 ho (by simp [eval_put, size_put, hs, h10, h14]) (by simp [eval_put, size_put, hs, h10, h14]) w) ?_
    refine Chain.exCons hops rfl (fun o ho w hw => run_move' ho (by simp [eval_put, size_put, hs, h10, h14]) w) ?_
    refine Chain.exCons hops rfl (fun o ho w hw => run_move' ho (by simp [eval_put, size_put, hs, h10, h14]) w) ?_
    refine Chain.exCons hops rfl (fun o ho w hw => idr _ o _ 3 (by decide) ho (by simp [eval_put, size_put, hs, h10, h14]) w) ?_
    refine Chain.exCons hops rfl (fun o ho w hw => run_load' ho (by simp [eval_put, size_put, hs, h10, h14]) Tryz.underlying3 w hw.2.2.2) ?_
    refine Chain.exCons hops rfl (fun o ho w hw => idw _ o _ _ m hm ho (by simp [eval_put, size_put, hs, h10, h14]) (by simp [eval_put, size_put, hs, h10, h14]) w) ?_
    refine Chain.exNil ⟨by simp [size_put, hs], by simp [defers_put], ?_, ?_, ?_, ?_, ?_, ?_, ?_, ?_, ?_, ?_, ?_, ?_, ?_⟩
    · intro n hn
      iterate 36 (with_reducible refine (eval_out (by decide) (by decide) hn).trans ?_)
      rfl
    all_goals simp [eval_put, size_put, hs]
  obtain ⟨b, hA, s1, d1, k1, ai, aj, ak, am, l0, n0, l1, n1, l2, n2, l3, n3⟩ := hA
  have hS : w0.cell? ⟨gr, 0, none⟩ = some (.int .i64 (i : Int)) ∧ w0.cell? ⟨gr, 1, none⟩ = some (.int .i64 (j : Int)) ∧ w0.cell? ⟨gr, 2, none⟩ = some (.int .i64 (k : Int)) ∧ w0.cell? ⟨gr, 3, none⟩ = some (.int .i64 (m : Int)) := ⟨p0, p1, p2, p3⟩
  have hT : w0.cell? ⟨gw, i, none⟩ = some (.int .u32 xi) ∧ w0.cell? ⟨gw, j, none⟩ = some (.int .u32 xj) ∧ w0.cell? ⟨gw, k, none⟩ = some (.int .u32 xk) ∧ w0.cell? ⟨gw, m, none⟩ = some (.int .u32 xm) := ⟨ci, cj, ck, cm⟩
  refine wp_region_T (n := 54) (fun w => w.cell? ⟨gr, 0, none⟩ = some (.int .i64 (i : Int)) ∧ w.cell? ⟨gr, 1, none⟩ = some (.int .i64 (j : Int)) ∧ w.cell? ⟨gr, 2, none⟩ = some (.int .i64 (k : Int)) ∧ w.cell? ⟨gr, 3, none⟩ = some (.int .i64 (m : Int))) (fun w => w.cell? ⟨gw, i, none⟩ = some (.int .u32 xi) ∧ w.cell? ⟨gw, j, none⟩ = some (.int .u32 xj) ∧ w.cell? ⟨gw, k, none⟩ = some (.int .u32 xk) ∧ w.cell? ⟨gw, m, none⟩ = some (.int .u32 xm)) 40 (by kernel_rfl) o1 ?_
  rw [hw0]
  refine wpAnyT_takesS (S := (fun w => w.cell? ⟨gr, 0, none⟩ = some (.int .i64 (i : Int)) ∧ w.cell? ⟨gr, 1, none⟩ = some (.int .i64 (j : Int)) ∧ w.cell? ⟨gr, 2, none⟩ = some (.int .i64 (k : Int)) ∧ w.cell? ⟨gr, 3, none⟩ = some (.int .i64 (m : Int)))) (T := (fun w => w.cell? ⟨gw, i, none⟩ = some (.int .u32 xi) ∧ w.cell? ⟨gw, j, none⟩ = some (.int .u32 xj) ∧ w.cell? ⟨gw, k, none⟩ = some (.int .u32 xk) ∧ w.cell? ⟨gw, m, none⟩ = some (.int .u32 xm))) o2 hQ _ 18 _ a b _ o3 rfl hA hS hT ?_
  have hL : ∃ b', Chain Tryz.prog ops (fun w => (fun w => w.cell? ⟨gr, 0, none⟩ = some (.int .i64 (i : Int)) ∧ w.cell? ⟨gr, 1, none⟩ = some (.int .i64 (j : Int)) ∧ w.cell? ⟨gr, 2, none⟩ = some (.int .i64 (k : Int)) ∧ w.cell? ⟨gr, 3, none⟩ = some (.int .i64 (m : Int))) w ∧ (fun w => w.cell? ⟨gw, i, none⟩ = some (.int .u32 xi) ∧ w.cell? ⟨gw, j, none⟩ = some (.int .u32 xj) ∧ w.cell? ⟨gw, k, none⟩ = some (.int .u32 xk) ∧ w.cell? ⟨gw, m, none⟩ = some (.int .u32 xm)) w) [(21, .int .u32 xi), (27, .int .u32 xj), (33, .int .u32 xk), (39, .int .u32 xm)] b b' ∧ b'.tmps.size = 147 ∧ b'.defers = a.defers ∧ (∀ n, n < 79 ∨ 128 < n → b'.eval (.tmp n) = a.eval (.tmp n)) ∧ b'.eval (.tmp 101) = .int .u32 xi ∧ b'.eval (.tmp 107) = .int .u32 xj ∧ b'.eval (.tmp 113) = .int .u32 xk ∧ b'.eval (.tmp 119) = .int .u32 xm ∧ b'.eval (.tmp 80) = W ∧ b'.eval (.tmp 83) = .int .i64 (i : Int) ∧ b'.eval (.tmp 84) = W ∧ b'.eval (.tmp 87) = .int .i64 (j : Int) ∧ b'.eval (.tmp 88) = W ∧ b'.eval (.tmp 91) = .int .i64 (k : Int) ∧ b'.eval (.tmp 92) = W ∧ b'.eval (.tmp 95) = .int .i64 (m : Int) := by
    refine Chain.exCons hops rfl (fun o ho w hw => run_load' ho (by simp [eval_put, size_put, s1, ai, aj, ak, am]) Tryz.underlying73 w hw.2.1) ?_
    refine Chain.exCons hops rfl (fun o ho w hw => run_load' ho (by simp [eval_put, size_put, s1, ai, aj, ak, am]) Tryz.underlying73 w hw.2.2.1) ?_
    refine Chain.exCons hops rfl (fun o ho w hw => run_load' ho (by simp [eval_put, size_put, s1, ai, aj, ak, am]) Tryz.underlying73 w hw.2.2.2.1) ?_
    refine Chain.exCons hops rfl (fun o ho w hw => run_load' ho (by simp [eval_put, size_put, s1, ai, aj, ak, am]) Tryz.underlying73 w hw.2.2.2.2) ?_
    refine Chain.exNil ⟨by simp [size_put, s1], by simp [defers_put, d1], ?_, ?_, ?_, ?_, ?_, ?_, ?_, ?_, ?_, ?_, ?_, ?_, ?_⟩
    · intro n hn
      iterate 4 (with_reducible refine (eval_out (by decide) (by decide) hn).trans ?_)
      exact k1 n hn
    all_goals simp [eval_put, size_put, s1, l0, n0, l1, n1, l2, n2, l3, n3]
  clear s1 d1 k1 ai aj ak am l0 n0 l1 n1 l2 n2 l3 n3 hA h10 h14 hs p0 p1 p2 p3 ci cj ck cm
  obtain ⟨c, hL, s2, d2, k2, ei, ej, ek, em, l0, n0, l1, n1, l2, n2, l3, n3⟩ := hL
  refine wpAnyT_takesT (S := (fun w => w.cell? ⟨gr, 0, none⟩ = some (.int .i64 (i : Int)) ∧ w.cell? ⟨gr, 1, none⟩ = some (.int .i64 (j : Int)) ∧ w.cell? ⟨gr, 2, none⟩ = some (.int .i64 (k : Int)) ∧ w.cell? ⟨gr, 3, none⟩ = some (.int .i64 (m : Int)))) (T := (fun w => w.cell? ⟨gw, i, none⟩ = some (.int .u32 xi) ∧ w.cell? ⟨gw, j, none⟩ = some (.int .u32 xj) ∧ w.cell? ⟨gw, k, none⟩ = some (.int .u32 xk) ∧ w.cell? ⟨gw, m, none⟩ = some (.int .u32 xm))) o2 hQ _ 14 _ b c _ o4 o5 hL hS hT ?_
  obtain ⟨oc, hoc, hd, hx⟩ := kinds_at hops (i := 40) rfl
  refine wpAnyT_call o6 hoc (plainAt_spec o7 hoc) ?_
  refine wp_call' hx (vs := #[.int .u32 xi, .int .u32 xj, .int .u32 xk, .int .u32 xm]) (by simp [ei, ej, ek, em]) (HC.out w0) (hq.mono (fun e w'' h => ⟨h.1, h.2.symm⟩)) ⟨hS, ?_⟩
  rw [hd]
  have s3 : (c.put (some 120) (.tuple #[.int .u32 ya, .int .u32 yb, .int .u32 yc, .int .u32 yd])).tmps.size = 147 := by rw [size_put, s2]
  have d3 : (c.put (some 120) (.tuple #[.int .u32 ya, .int .u32 yb, .int .u32 yc, .int .u32 yd])).defers = a.defers := by rw [defers_put, d2]
  have k3 : ∀ n, n < 79 ∨ 128 < n → (c.put (some 120) (.tuple #[.int .u32 ya, .int .u32 yb, .int .u32 yc, .int .u32 yd])).eval (.tmp n) = a.eval (.tmp n) := by
    intro n hn
    with_reducible refine (eval_out (by decide) (by decide) hn).trans ?_
    exact k2 n hn
  have t3 : (c.put (some 120) (.tuple #[.int .u32 ya, .int .u32 yb, .int .u32 yc, .int .u32 yd])).eval (.tmp 120) = (.tuple #[.int .u32 ya, .int .u32 yb, .int .u32 yc, .int .u32 yd]) := by simp [eval_put, s2]
  have v0 : (c.put (some 120) (.tuple #[.int .u32 ya, .int .u32 yb, .int .u32 yc, .int .u32 yd])).eval (.tmp 80) = W := by simp [eval_put, l0]
  have m0 : (c.put (some 120) (.tuple #[.int .u32 ya, .int .u32 yb, .int .u32 yc, .int .u32 yd])).eval (.tmp 83) = .int .i64 (i : Int) := by simp [eval_put, n0]
  have v1 : (c.put (some 120) (.tuple #[.int .u32 ya, .int .u32 yb, .int .u32 yc, .int .u32 yd])).eval (.tmp 84) = W := by simp [eval_put, l1]
  have m1 : (c.put (some 120) (.tuple #[.int .u32 ya, .int .u32 yb, .int .u32 yc, .int .u32 yd])).eval (.tmp 87) = .int .i64 (j : Int) := by simp [eval_put, n1]
  have v2 : (c.put (some 120) (.tuple #[.int .u32 ya, .int .u32 yb, .int .u32 yc, .int .u32 yd])).eval (.tmp 88) = W := by simp [eval_put, l2]
  have m2 : (c.put (some 120) (.tuple #[.int .u32 ya, .int .u32 yb, .int .u32 yc, .int .u32 yd])).eval (.tmp 91) = .int .i64 (k : Int) := by simp [eval_put, n2]
  have v3 : (c.put (some 120) (.tuple #[.int .u32 ya, .int .u32 yb, .int .u32 yc, .int .u32 yd])).eval (.tmp 92) = W := by simp [eval_put, l3]
  have m3 : (c.put (some 120) (.tuple #[.int .u32 ya, .int .u32 yb, .int .u32 yc, .int .u32 yd])).eval (.tmp 95) = .int .i64 (m : Int) := by simp [eval_put, n3]
  clear s2 d2 k2 ei ej ek em l0 n0 l1 n1 l2 n2 l3 n3 hL hx hd
  generalize c.put (some 120) (.tuple #[.int .u32 ya, .int .u32 yb, .int .u32 yc, .int .u32 yd]) = d at *
  have hE : ∃ b', Chain Tryz.prog ops (fun w => w.cell? ⟨gr, 0, none⟩ = some (.int .i64 (i : Int)) ∧ w.cell? ⟨gr, 1, none⟩ = some (.int .i64 (j : Int)) ∧ w.cell? ⟨gr, 2, none⟩ = some (.int .i64 (k : Int)) ∧ w.cell? ⟨gr, 3, none⟩ = some (.int .i64 (m : Int))) [(41, .tuple #[.int .u32 ya, .int .u32 yb, .int .u32 yc, .int .u32 yd]), (42, .int .u32 ya), (43, .int .u32 yb), (44, .int .u32 yc), (45, .int .u32 yd), (46, .pointer (some ⟨gw, i, none⟩))] d b' ∧ b'.tmps.size = 147 ∧ b'.defers = a.defers ∧ (∀ n, n < 79 ∨ 128 < n → b'.eval (.tmp n) = a.eval (.tmp n)) ∧ b'.eval (.tmp 125) = .pointer (some ⟨gw, i, none⟩) ∧ b'.eval (.tmp 121) = .int .u32 ya ∧ b'.eval (.tmp 122) = .int .u32 yb ∧ b'.eval (.tmp 123) = .int .u32 yc ∧ b'.eval (.tmp 124) = .int .u32 yd ∧ b'.eval (.tmp 84) = W ∧ b'.eval (.tmp 87) = .int .i64 (j : Int) ∧ b'.eval (.tmp 88) = W ∧ b'.eval (.tmp 91) = .int .i64 (k : Int) ∧ b'.eval (.tmp 92) = W ∧ b'.eval (.tmp 95) = .int .i64 (m : Int) := by
    refine Chain.exCons hops rfl (fun o ho w _ => run_move' ho t3 w) ?_
    refine Chain.exCons hops rfl (fun o ho w _ => run_extract' ho (vs := #[.int .u32 ya, .int .u32 yb, .int .u32 yc, .int .u32 yd]) (by simp [eval_put, size_put, s3, t3, v0, m0]) rfl w) ?_
    refine Chain.exCons hops rfl (fun o ho w _ => run_extract' ho (vs := #[.int .u32 ya, .int .u32 yb, .int .u32 yc, .int .u32 yd]) (by simp [eval_put, size_put, s3, t3, v0, m0]) rfl w) ?_
    refine Chain.exCons hops rfl (fun o ho w _ => run_extract' ho (vs := #[.int .u32 ya, .int .u32 yb, .int .u32 yc, .int .u32 yd]) (by simp [eval_put, size_put, s3, t3, v0, m0]) rfl w) ?_
    refine Chain.exCons hops rfl (fun o ho w _ => run_extract' ho (vs := #[.int .u32 ya, .int .u32 yb, .int .u32 yc, .int .u32 yd]) (by simp [eval_put, size_put, s3, t3, v0, m0]) rfl w) ?_
    refine Chain.exCons hops rfl (fun o ho w _ => idw _ o _ _ i hi ho (by simp [eval_put, size_put, s3, t3, v0, m0]) (by simp [eval_put, size_put, s3, t3, v0, m0]) w) ?_
    refine Chain.exNil ⟨by simp [size_put, s3], by simp [defers_put, d3], ?_, ?_, ?_, ?_, ?_, ?_, ?_, ?_, ?_, ?_, ?_, ?_⟩
    · intro n hn
      iterate 6 (with_reducible refine (eval_out (by decide) (by decide) hn).trans ?_)
      exact k3 n hn
    all_goals simp [eval_put, size_put, s3, v1, m1, v2, m2, v3, m3]
  obtain ⟨e1, hE, s4, d4, k4, g0, ga, gb, gc, gd, v1', m1', v2', m2', v3', m3'⟩ := hE
  refine wpAnyH_takes (S := (fun w => w.cell? ⟨gr, 0, none⟩ = some (.int .i64 (i : Int)) ∧ w.cell? ⟨gr, 1, none⟩ = some (.int .i64 (j : Int)) ∧ w.cell? ⟨gr, 2, none⟩ = some (.int .i64 (k : Int)) ∧ w.cell? ⟨gr, 3, none⟩ = some (.int .i64 (m : Int)))) o2 hQ _ 7 _ d e1 _ o8 hE hS ?_
  clear hE s3 d3 k3 t3 v0 m0 v1 m1 v2 m2 v3 m3
  have hk : ∀ (w : World) (n : Nat) (v : Value), (fun w => w.cell? ⟨gr, 0, none⟩ = some (.int .i64 (i : Int)) ∧ w.cell? ⟨gr, 1, none⟩ = some (.int .i64 (j : Int)) ∧ w.cell? ⟨gr, 2, none⟩ = some (.int .i64 (k : Int)) ∧ w.cell? ⟨gr, 3, none⟩ = some (.int .i64 (m : Int))) w → (fun w => w.cell? ⟨gr, 0, none⟩ = some (.int .i64 (i : Int)) ∧ w.cell? ⟨gr, 1, none⟩ = some (.int .i64 (j : Int)) ∧ w.cell? ⟨gr, 2, none⟩ = some (.int .i64 (k : Int)) ∧ w.cell? ⟨gr, 3, none⟩ = some (.int .i64 (m : Int))) (w.setCell ⟨gw, n, none⟩ v) := by
    intro w n v h
    have o : ∀ (p : Nat) (u : Value), w.cell? ⟨gr, p, none⟩ = some u → (w.setCell ⟨gw, n, none⟩ v).cell? ⟨gr, p, none⟩ = some u := fun p u h => (World.cell?_setCell_other w ⟨gw, n, none⟩ ⟨gr, p, none⟩ v (fun e => by injection e with e1 _ _; first | exact hne e1 | exact hne e1.symm)).trans h
    exact ⟨o _ _ h.1, o _ _ h.2.1, o _ _ h.2.2.1, o _ _ h.2.2.2⟩
  have own : ∀ (w : World) (l : List Value) (n : Nat) (x : Int), w.ownsRow B 73 1 (.slice (some ⟨gw, 0, none⟩) 16 cap) 16 l → n < 16 → (∃ v, w.cell? ⟨gw, n, none⟩ = some v) ∧ w.frozen? ⟨gw, n, none⟩ = false ∧ (w.setCell ⟨gw, n, none⟩ (.int .u32 x)).ownsRow B 73 1 (.slice (some ⟨gw, 0, none⟩) 16 cap) 16 (l.set n (.int .u32 x)) := by
    intro w l n x h hn
    have hl : l.length = 16 := by have := h.1; omega
    have hc := h.cellAt n (by omega)
    rw [List.getElem?_eq_getElem (by omega)] at hc
    exact ⟨⟨_, hc⟩, h.frozenAt n, (h.stored n _).1⟩
  obtain ⟨⟨c0, hc0⟩, hf0, hu1⟩ := own _ _ i ya hu0 hi
  obtain ⟨q0, hq0, hd0, hx0⟩ := kinds_at hops (i := 47) rfl
  have hS0 := hk _ i (.int .u32 ya) hS
  refine wpAnyH_step (S := (fun w => w.cell? ⟨gr, 0, none⟩ = some (.int .i64 (i : Int)) ∧ w.cell? ⟨gr, 1, none⟩ = some (.int .i64 (j : Int)) ∧ w.cell? ⟨gr, 2, none⟩ = some (.int .i64 (k : Int)) ∧ w.cell? ⟨gr, 3, none⟩ = some (.int .i64 (m : Int)))) o9 hq0 (plainAt_spec oa hq0) (wp_store' (k := .u32) (n := ya) (p := ⟨gw, i, none⟩) hx0 hd0 g0 ga cells30 hc0 hf0 ⟨hS0, ?_⟩)
  refine wpAnyH_takes (S := (fun w => w.cell? ⟨gr, 0, none⟩ = some (.int .i64 (i : Int)) ∧ w.cell? ⟨gr, 1, none⟩ = some (.int .i64 (j : Int)) ∧ w.cell? ⟨gr, 2, none⟩ = some (.int .i64 (k : Int)) ∧ w.cell? ⟨gr, 3, none⟩ = some (.int .i64 (m : Int)))) o2 hQ [(48, .pointer (some ⟨gw, j, none⟩))] 5 _ _ _ _ ob (.cons hops rfl (fun o ho w _ => idw _ o _ _ j hj ho (by simp [eval_put, size_put, v1']) (by simp [eval_put, size_put, m1']) w) .nil) hS0 ?_
  obtain ⟨⟨c1, hc1⟩, hf1, hu2⟩ := own _ _ j yb hu1 hj
  obtain ⟨q1, hq1, hd1, hx1⟩ := kinds_at hops (i := 49) rfl
  have hS1 := hk _ j (.int .u32 yb) hS0
  refine wpAnyH_step (S := (fun w => w.cell? ⟨gr, 0, none⟩ = some (.int .i64 (i : Int)) ∧ w.cell? ⟨gr, 1, none⟩ = some (.int .i64 (j : Int)) ∧ w.cell? ⟨gr, 2, none⟩ = some (.int .i64 (k : Int)) ∧ w.cell? ⟨gr, 3, none⟩ = some (.int .i64 (m : Int)))) oc' hq1 (plainAt_spec od hq1) (wp_store' (k := .u32) (n := yb) (p := ⟨gw, j, none⟩) hx1 hd1 (by simp [eval_put, size_put, s4]) (by simp [eval_put, size_put, gb]) cells30 hc1 hf1 ⟨hS1, ?_⟩)
  refine wpAnyH_takes (S := (fun w => w.cell? ⟨gr, 0, none⟩ = some (.int .i64 (i : Int)) ∧ w.cell? ⟨gr, 1, none⟩ = some (.int .i64 (j : Int)) ∧ w.cell? ⟨gr, 2, none⟩ = some (.int .i64 (k : Int)) ∧ w.cell? ⟨gr, 3, none⟩ = some (.int .i64 (m : Int)))) o2 hQ [(50, .pointer (some ⟨gw, k, none⟩))] 3 _ _ _ _ oe (.cons hops rfl (fun o ho w _ => idw _ o _ _ k hk0 ho (by simp [eval_put, size_put, v2']) (by simp [eval_put, size_put, m2']) w) .nil) hS1 ?_
  obtain ⟨⟨c2, hc2⟩, hf2, hu3⟩ := own _ _ k yc hu2 hk0
  obtain ⟨q2, hq2, hd2, hx2⟩ := kinds_at hops (i := 51) rfl
  have hS2 := hk _ k (.int .u32 yc) hS1
  refine wpAnyH_step (S := (fun w => w.cell? ⟨gr, 0, none⟩ = some (.int .i64 (i : Int)) ∧ w.cell? ⟨gr, 1, none⟩ = some (.int .i64 (j : Int)) ∧ w.cell? ⟨gr, 2, none⟩ = some (.int .i64 (k : Int)) ∧ w.cell? ⟨gr, 3, none⟩ = some (.int .i64 (m : Int)))) of hq2 (plainAt_spec og hq2) (wp_store' (k := .u32) (n := yc) (p := ⟨gw, k, none⟩) hx2 hd2 (by simp [eval_put, size_put, s4]) (by simp [eval_put, size_put, gc]) cells30 hc2 hf2 ⟨hS2, ?_⟩)
  refine wpAnyH_takes (S := (fun w => w.cell? ⟨gr, 0, none⟩ = some (.int .i64 (i : Int)) ∧ w.cell? ⟨gr, 1, none⟩ = some (.int .i64 (j : Int)) ∧ w.cell? ⟨gr, 2, none⟩ = some (.int .i64 (k : Int)) ∧ w.cell? ⟨gr, 3, none⟩ = some (.int .i64 (m : Int)))) o2 hQ [(52, .pointer (some ⟨gw, m, none⟩))] 1 _ _ _ _ oh (.cons hops rfl (fun o ho w _ => idw _ o _ _ m hm ho (by simp [eval_put, size_put, v3']) (by simp [eval_put, size_put, m3']) w) .nil) hS2 ?_
  obtain ⟨⟨c3, hc3⟩, hf3, hu4⟩ := own _ _ m yd hu3 hm
  obtain ⟨q3, hq3, hd3, hx3⟩ := kinds_at hops (i := 53) rfl
  have hS3 := hk _ m (.int .u32 yd) hS2
  refine wpAnyH_step (S := (fun w => w.cell? ⟨gr, 0, none⟩ = some (.int .i64 (i : Int)) ∧ w.cell? ⟨gr, 1, none⟩ = some (.int .i64 (j : Int)) ∧ w.cell? ⟨gr, 2, none⟩ = some (.int .i64 (k : Int)) ∧ w.cell? ⟨gr, 3, none⟩ = some (.int .i64 (m : Int)))) oi hq3 (plainAt_spec oj hq3) (wp_store' (k := .u32) (n := yd) (p := ⟨gw, m, none⟩) hx3 hd3 (by simp [eval_put, size_put, s4]) (by simp [eval_put, size_put, gd]) cells30 hc3 hf3 ⟨hS3, ?_⟩)
  refine ⟨ok, K' _ _ (by simp [size_put, s4]) (by simp [defers_put, d4]) ?_ ?_ ((((u0.setCell i _).setCell j _).setCell k _).setCell m _)⟩
  · intro n hn
    iterate 3 (with_reducible refine (eval_out (by decide) (by decide) hn).trans ?_)
    exact k4 n hn
  · simpa [cells32, List.map_set] using hu4

/-- A frame of 147 slots, written out. -/
theorem lit_frame (b : Act) (hs : b.tmps.size = 147) : b = ⟨#[b.eval (.tmp 0), b.eval (.tmp 1), b.eval (.tmp 2), b.eval (.tmp 3), b.eval (.tmp 4), b.eval (.tmp 5), b.eval (.tmp 6), b.eval (.tmp 7), b.eval (.tmp 8), b.eval (.tmp 9), b.eval (.tmp 10), b.eval (.tmp 11), b.eval (.tmp 12), b.eval (.tmp 13), b.eval (.tmp 14), b.eval (.tmp 15), b.eval (.tmp 16), b.eval (.tmp 17), b.eval (.tmp 18), b.eval (.tmp 19), b.eval (.tmp 20), b.eval (.tmp 21), b.eval (.tmp 22), b.eval (.tmp 23), b.eval (.tmp 24), b.eval (.tmp 25), b.eval (.tmp 26), b.eval (.tmp 27), b.eval (.tmp 28), b.eval (.tmp 29), b.eval (.tmp 30), b.eval (.tmp 31), b.eval (.tmp 32), b.eval (.tmp 33), b.eval (.tmp 34), b.eval (.tmp 35), b.eval (.tmp 36), b.eval (.tmp 37), b.eval (.tmp 38), b.eval (.tmp 39), b.eval (.tmp 40), b.eval (.tmp 41), b.eval (.tmp 42), b.eval (.tmp 43), b.eval (.tmp 44), b.eval (.tmp 45), b.eval (.tmp 46), b.eval (.tmp 47), b.eval (.tmp 48), b.eval (.tmp 49), b.eval (.tmp 50), b.eval (.tmp 51), b.eval (.tmp 52), b.eval (.tmp 53), b.eval (.tmp 54), b.eval (.tmp 55), b.eval (.tmp 56), b.eval (.tmp 57), b.eval (.tmp 58), b.eval (.tmp 59), b.eval (.tmp 60), b.eval (.tmp 61), b.eval (.tmp 62), b.eval (.tmp 63), b.eval (.tmp 64), b.eval (.tmp 65), b.eval (.tmp 66), b.eval (.tmp 67), b.eval (.tmp 68), b.eval (.tmp 69), b.eval (.tmp 70), b.eval (.tmp 71), b.eval (.tmp 72), b.eval (.tmp 73), b.eval (.tmp 74), b.eval (.tmp 75), b.eval (.tmp 76), b.eval (.tmp 77), b.eval (.tmp 78), b.eval (.tmp 79), b.eval (.tmp 80), b.eval (.tmp 81), b.eval (.tmp 82), b.eval (.tmp 83), b.eval (.tmp 84), b.eval (.tmp 85), b.eval (.tmp 86), b.eval (.tmp 87), b.eval (.tmp 88), b.eval (.tmp 89), b.eval (.tmp 90), b.eval (.tmp 91), b.eval (.tmp 92), b.eval (.tmp 93), b.eval (.tmp 94), b.eval (.tmp 95), b.eval (.tmp 96), b.eval (.tmp 97), b.eval (.tmp 98), b.eval (.tmp 99), b.eval (.tmp 100), b.eval (.tmp 101), b.eval (.tmp 102), b.eval (.tmp 103), b.eval (.tmp 104), b.eval (.tmp 105), b.eval (.tmp 106), b.eval (.tmp 107), b.eval (.tmp 108), b.eval (.tmp 109), b.eval (.tmp 110), b.eval (.tmp 111), b.eval (.tmp 112), b.eval (.tmp 113), b.eval (.tmp 114), b.eval (.tmp 115), b.eval (.tmp 116), b.eval (.tmp 117), b.eval (.tmp 118), b.eval (.tmp 119), b.eval (.tmp 120), b.eval (.tmp 121), b.eval (.tmp 122), b.eval (.tmp 123), b.eval (.tmp 124), b.eval (.tmp 125), b.eval (.tmp 126), b.eval (.tmp 127), b.eval (.tmp 128), b.eval (.tmp 129), b.eval (.tmp 130), b.eval (.tmp 131), b.eval (.tmp 132), b.eval (.tmp 133), b.eval (.tmp 134), b.eval (.tmp 135), b.eval (.tmp 136), b.eval (.tmp 137), b.eval (.tmp 138), b.eval (.tmp 139), b.eval (.tmp 140), b.eval (.tmp 141), b.eval (.tmp 142), b.eval (.tmp 143), b.eval (.tmp 144), b.eval (.tmp 145), b.eval (.tmp 146)], b.defers⟩ := by
  obtain ⟨t, d⟩ := b
  have e : t = ((List.range 147).map fun i => t.getD i undef).toArray := by
    apply Array.ext
    · simpa using hs
    · intro i h1 h2
      simp at h2
      simp [h1]
  show (⟨t, d⟩ : Act) = ⟨((List.range 147).map fun i => t.getD i undef).toArray, d⟩
  rw [← e]

set_option maxRecDepth 100000 in
set_option maxHeartbeats 2000000 in
/-- The same over a frame that is written out. -/
theorem ref_regionL (c0 c1 c2 c3 c4 c5 c6 c7 c8 c9 c11 c12 c13 c15 c16 c17 c18 c19 c20 c21 c22 c23 c24 c25 c26 c27 c28 c29 c30 c31 c32 c33 c34 c35 c36 c37 c38 c39 c40 c41 c42 c43 c44 c45 c46 c47 c48 c49 c50 c51 c52 c53 c54 c55 c56 c57 c58 c59 c60 c61 c62 c63 c64 c65 c66 c67 c68 c69 c70 c71 c72 c73 c74 c75 c76 c77 c78 c79 c80 c81 c82 c83 c84 c85 c86 c87 c88 c89 c90 c91 c92 c93 c94 c95 c96 c97 c98 c99 c100 c101 c102 c103 c104 c105 c106 c107 c108 c109 c110 c111 c112 c113 c114 c115 c116 c117 c118 c119 c120 c121 c122 c123 c124 c125 c126 c127 c128 c129 c130 c131 c132 c133 c134 c135 c136 c137 c138 c139 c140 c141 c142 c143 c144 c145 c146 : Value) {ops : Array Oper} {id : Nat} {Q : Exit → Act → World → Prop} (hops : kinds ops = rList) (hok : rOk ops = true)
    (hQ : ∀ c a d v w, Q (.panic c) (a.put d v) w → Q (.panic c) a w) (B gw cap gr i j k m : Nat) (s : List Int) (w : World) (hi : i < 16) (hj : j < 16) (hk0 : k < 16) (hm : m < 16) (hl : s.length = 16) (hw : allW s) (hne : gr ≠ gw) (hBg : B ≤ gw)
    (hown : w.ownsRow B 73 1 (.slice (some ⟨gw, 0, none⟩) 16 cap) 16 (cells32 s))
    (q0 : w.cell? ⟨gr, 0, none⟩ = some (.int .i64 (i : Int))) (q1 : w.cell? ⟨gr, 1, none⟩ = some (.int .i64 (j : Int))) (q2 : w.cell? ⟨gr, 2, none⟩ = some (.int .i64 (k : Int))) (q3 : w.cell? ⟨gr, 3, none⟩ = some (.int .i64 (m : Int)))
    (K : ∀ (d79 d80 d81 d82 d83 d84 d85 d86 d87 d88 d89 d90 d91 d92 d93 d94 d95 d96 d97 d98 d99 d100 d101 d102 d103 d104 d105 d106 d107 d108 d109 d110 d111 d112 d113 d114 d115 d116 d117 d118 d119 d120 d121 d122 d123 d124 d125 d126 d127 d128 : Value) (w' : World), w'.ownsRow B 73 1 (.slice (some ⟨gw, 0, none⟩) 16 cap) 16 (cells32 (qAt s i j k m)) → Upon gw w w' → Q .normal ⟨(List.toArray (c0 :: c1 :: c2 :: c3 :: c4 :: c5 :: c6 :: c7 :: c8 :: c9 :: .slice (some ⟨gw, 0, none⟩) 16 cap :: c11 :: c12 :: c13 :: .slice (some ⟨gr, 0, none⟩) 4 4 :: c15 :: c16 :: c17 :: c18 :: c19 :: c20 :: c21 :: c22 :: c23 :: c24 :: c25 :: c26 :: c27 :: c28 :: c29 :: c30 :: c31 :: c32 :: c33 :: c34 :: c35 :: c36 :: c37 :: c38 :: c39 :: c40 :: c41 :: c42 :: c43 :: c44 :: c45 :: c46 :: c47 :: c48 :: c49 :: c50 :: c51 :: c52 :: c53 :: c54 :: c55 :: c56 :: c57 :: c58 :: c59 :: c60 :: c61 :: c62 :: c63 :: c64 :: c65 :: c66 :: c67 :: c68 :: c69 :: c70 :: c71 :: c72 :: c73 :: c74 :: c75 :: c76 :: c77 :: c78 :: d79 :: d80 :: d81 :: d82 :: d83 :: d84 :: d85 :: d86 :: d87 :: d88 :: d89 :: d90 :: d91 :: d92 :: d93 :: d94 :: d95 :: d96 :: d97 :: d98 :: d99 :: d100 :: d101 :: d102 :: d103 :: d104 :: d105 :: d106 :: d107 :: d108 :: d109 :: d110 :: d111 :: d112 :: d113 :: d114 :: d115 :: d116 :: d117 :: d118 :: d119 :: d120 :: d121 :: d122 :: d123 :: d124 :: d125 :: d126 :: d127 :: d128 :: c129 :: c130 :: c131 :: c132 :: c133 :: c134 :: c135 :: c136 :: c137 :: c138 :: c139 :: c140 :: c141 :: c142 :: c143 :: c144 :: c145 :: c146 :: [])), []⟩ w') :
    (Code.region id ops true).wp Tryz.prog Q ⟨(List.toArray (c0 :: c1 :: c2 :: c3 :: c4 :: c5 :: c6 :: c7 :: c8 :: c9 :: .slice (some ⟨gw, 0, none⟩) 16 cap :: c11 :: c12 :: c13 :: .slice (some ⟨gr, 0, none⟩) 4 4 :: c15 :: c16 :: c17 :: c18 :: c19 :: c20 :: c21 :: c22 :: c23 :: c24 :: c25 :: c26 :: c27 :: c28 :: c29 :: c30 :: c31 :: c32 :: c33 :: c34 :: c35 :: c36 :: c37 :: c38 :: c39 :: c40 :: c41 :: c42 :: c43 :: c44 :: c45 :: c46 :: c47 :: c48 :: c49 :: c50 :: c51 :: c52 :: c53 :: c54 :: c55 :: c56 :: c57 :: c58 :: c59 :: c60 :: c61 :: c62 :: c63 :: c64 :: c65 :: c66 :: c67 :: c68 :: c69 :: c70 :: c71 :: c72 :: c73 :: c74 :: c75 :: c76 :: c77 :: c78 :: c79 :: c80 :: c81 :: c82 :: c83 :: c84 :: c85 :: c86 :: c87 :: c88 :: c89 :: c90 :: c91 :: c92 :: c93 :: c94 :: c95 :: c96 :: c97 :: c98 :: c99 :: c100 :: c101 :: c102 :: c103 :: c104 :: c105 :: c106 :: c107 :: c108 :: c109 :: c110 :: c111 :: c112 :: c113 :: c114 :: c115 :: c116 :: c117 :: c118 :: c119 :: c120 :: c121 :: c122 :: c123 :: c124 :: c125 :: c126 :: c127 :: c128 :: c129 :: c130 :: c131 :: c132 :: c133 :: c134 :: c135 :: c136 :: c137 :: c138 :: c139 :: c140 :: c141 :: c142 :: c143 :: c144 :: c145 :: c146 :: [])), []⟩ w := by
  refine ref_region hops hok hQ B gw cap gr i j k m s w _ hi hj hk0 hm hl hw hne hBg hown q0 q1 q2 q3 rfl rfl rfl ?_
  intro b w' zs zd zk ow up
  have y0 : b.eval (.tmp 0) = c0 := zk 0 (by decide)
  have y1 : b.eval (.tmp 1) = c1 := zk 1 (by decide)
  have y2 : b.eval (.tmp 2) = c2 := zk 2 (by decide)
  have y3 : b.eval (.tmp 3) = c3 := zk 3 (by decide)
  have y4 : b.eval (.tmp 4) = c4 := zk 4 (by decide)
  have y5 : b.eval (.tmp 5) = c5 := zk 5 (by decide)
  have y6 : b.eval (.tmp 6) = c6 := zk 6 (by decide)
  have y7 : b.eval (.tmp 7) = c7 := zk 7 (by decide)
  have y8 : b.eval (.tmp 8) = c8 := zk 8 (by decide)
  have y9 : b.eval (.tmp 9) = c9 := zk 9 (by decide)
  have y10 : b.eval (.tmp 10) = .slice (some ⟨gw, 0, none⟩) 16 cap := zk 10 (by decide)
  have y11 : b.eval (.tmp 11) = c11 := zk 11 (by decide)
  have y12 : b.eval (.tmp 12) = c12 := zk 12 (by decide)
  have y13 : b.eval (.tmp 13) = c13 := zk 13 (by decide)
  have y14 : b.eval (.tmp 14) = .slice (some ⟨gr, 0, none⟩) 4 4 := zk 14 (by decide)
  have y15 : b.eval (.tmp 15) = c15 := zk 15 (by decide)
  have y16 : b.eval (.tmp 16) = c16 := zk 16 (by decide)
  have y17 : b.eval (.tmp 17) = c17 := zk 17 (by decide)
  have y18 : b.eval (.tmp 18) = c18 := zk 18 (by decide)
  have y19 : b.eval (.tmp 19) = c19 := zk 19 (by decide)
  have y20 : b.eval (.tmp 20) = c20 := zk 20 (by decide)
  have y21 : b.eval (.tmp 21) = c21 := zk 21 (by decide)
  have y22 : b.eval (.tmp 22) = c22 := zk 22 (by decide)
  have y23 : b.eval (.tmp 23) = c23 := zk 23 (by decide)
  have y24 : b.eval (.tmp 24) = c24 := zk 24 (by decide)
  have y25 : b.eval (.tmp 25) = c25 := zk 25 (by decide)
  have y26 : b.eval (.tmp 26) = c26 := zk 26 (by decide)
  have y27 : b.eval (.tmp 27) = c27 := zk 27 (by decide)
  have y28 : b.eval (.tmp 28) = c28 := zk 28 (by decide)
  have y29 : b.eval (.tmp 29) = c29 := zk 29 (by decide)
  have y30 : b.eval (.tmp 30) = c30 := zk 30 (by decide)
  have y31 : b.eval (.tmp 31) = c31 := zk 31 (by decide)
  have y32 : b.eval (.tmp 32) = c32 := zk 32 (by decide)
  have y33 : b.eval (.tmp 33) = c33 := zk 33 (by decide)
  have y34 : b.eval (.tmp 34) = c34 := zk 34 (by decide)
  have y35 : b.eval (.tmp 35) = c35 := zk 35 (by decide)
  have y36 : b.eval (.tmp 36) = c36 := zk 36 (by decide)
  have y37 : b.eval (.tmp 37) = c37 := zk 37 (by decide)
  have y38 : b.eval (.tmp 38) = c38 := zk 38 (by decide)
  have y39 : b.eval (.tmp 39) = c39 := zk 39 (by decide)
  have y40 : b.eval (.tmp 40) = c40 := zk 40 (by decide)
  have y41 : b.eval (.tmp 41) = c41 := zk 41 (by decide)
  have y42 : b.eval (.tmp 42) = c42 := zk 42 (by decide)
  have y43 : b.eval (.tmp 43) = c43 := zk 43 (by decide)
  have y44 : b.eval (.tmp 44) = c44 := zk 44 (by decide)
  have y45 : b.eval (.tmp 45) = c45 := zk 45 (by decide)
  have y46 : b.eval (.tmp 46) = c46 := zk 46 (by decide)
  have y47 : b.eval (.tmp 47) = c47 := zk 47 (by decide)
  have y48 : b.eval (.tmp 48) = c48 := zk 48 (by decide)
  have y49 : b.eval (.tmp 49) = c49 := zk 49 (by decide)
  have y50 : b.eval (.tmp 50) = c50 := zk 50 (by decide)
  have y51 : b.eval (.tmp 51) = c51 := zk 51 (by decide)
  have y52 : b.eval (.tmp 52) = c52 := zk 52 (by decide)
  have y53 : b.eval (.tmp 53) = c53 := zk 53 (by decide)
  have y54 : b.eval (.tmp 54) = c54 := zk 54 (by decide)
  have y55 : b.eval (.tmp 55) = c55 := zk 55 (by decide)
  have y56 : b.eval (.tmp 56) = c56 := zk 56 (by decide)
  have y57 : b.eval (.tmp 57) = c57 := zk 57 (by decide)
  have y58 : b.eval (.tmp 58) = c58 := zk 58 (by decide)
  have y59 : b.eval (.tmp 59) = c59 := zk 59 (by decide)
  have y60 : b.eval (.tmp 60) = c60 := zk 60 (by decide)
  have y61 : b.eval (.tmp 61) = c61 := zk 61 (by decide)
  have y62 : b.eval (.tmp 62) = c62 := zk 62 (by decide)
  have y63 : b.eval (.tmp 63) = c63 := zk 63 (by decide)
  have y64 : b.eval (.tmp 64) = c64 := zk 64 (by decide)
  have y65 : b.eval (.tmp 65) = c65 := zk 65 (by decide)
  have y66 : b.eval (.tmp 66) = c66 := zk 66 (by decide)
  have y67 : b.eval (.tmp 67) = c67 := zk 67 (by decide)
  have y68 : b.eval (.tmp 68) = c68 := zk 68 (by decide)
  have y69 : b.eval (.tmp 69) = c69 := zk 69 (by decide)
  have y70 : b.eval (.tmp 70) = c70 := zk 70 (by decide)
  have y71 : b.eval (.tmp 71) = c71 := zk 71 (by decide)
  have y72 : b.eval (.tmp 72) = c72 := zk 72 (by decide)
  have y73 : b.eval (.tmp 73) = c73 := zk 73 (by decide)
  have y74 : b.eval (.tmp 74) = c74 := zk 74 (by decide)
  have y75 : b.eval (.tmp 75) = c75 := zk 75 (by decide)
  have y76 : b.eval (.tmp 76) = c76 := zk 76 (by decide)
  have y77 : b.eval (.tmp 77) = c77 := zk 77 (by decide)
  have y78 : b.eval (.tmp 78) = c78 := zk 78 (by decide)
  have y129 : b.eval (.tmp 129) = c129 := zk 129 (by decide)
  have y130 : b.eval (.tmp 130) = c130 := zk 130 (by decide)
  have y131 : b.eval (.tmp 131) = c131 := zk 131 (by decide)
  have y132 : b.eval (.tmp 132) = c132 := zk 132 (by decide)
  have y133 : b.eval (.tmp 133) = c133 := zk 133 (by decide)
  have y134 : b.eval (.tmp 134) = c134 := zk 134 (by decide)
  have y135 : b.eval (.tmp 135) = c135 := zk 135 (by decide)
  have y136 : b.eval (.tmp 136) = c136 := zk 136 (by decide)
  have y137 : b.eval (.tmp 137) = c137 := zk 137 (by decide)
  have y138 : b.eval (.tmp 138) = c138 := zk 138 (by decide)
  have y139 : b.eval (.tmp 139) = c139 := zk 139 (by decide)
  have y140 : b.eval (.tmp 140) = c140 := zk 140 (by decide)
  have y141 : b.eval (.tmp 141) = c141 := zk 141 (by decide)
  have y142 : b.eval (.tmp 142) = c142 := zk 142 (by decide)
  have y143 : b.eval (.tmp 143) = c143 := zk 143 (by decide)
  have y144 : b.eval (.tmp 144) = c144 := zk 144 (by decide)
  have y145 : b.eval (.tmp 145) = c145 := zk 145 (by decide)
  have y146 : b.eval (.tmp 146) = c146 := zk 146 (by decide)
  have zd' : b.defers = [] := zd
  rw [lit_frame b zs, zd', y0, y1, y2, y3, y4, y5, y6, y7, y8, y9, y10, y11, y12, y13, y14, y15, y16, y17, y18, y19, y20, y21, y22, y23, y24, y25, y26, y27, y28, y29, y30, y31, y32, y33, y34, y35, y36, y37, y38, y39, y40, y41, y42, y43, y44, y45, y46, y47, y48, y49, y50, y51, y52, y53, y54, y55, y56, y57, y58, y59, y60, y61, y62, y63, y64, y65, y66, y67, y68, y69, y70, y71, y72, y73, y74, y75, y76, y77, y78, y129, y130, y131, y132, y133, y134, y135, y136, y137, y138, y139, y140, y141, y142, y143, y144, y145, y146]
  exact K _ _ _ _ _ _ _ _ _ _ _ _ _ _ _ _ _ _ _ _ _ _ _ _ _ _ _ _ _ _ _ _ _ _ _ _ _ _ _ _ _ _ _ _ _ _ _ _ _ _ _ ow up

end Go.Proofs.YtanghehmfagmfaaGreatDoor

/-
  The table of places that the reference's Block lays.
-/
namespace Go.Proofs.YtanghehmfagmfaaGreatDoor
open Go.RowKit
set_option linter.unusedVariables false
set_option maxRecDepth 100000

/-- The table of places, as the reference lays it. -/
def tabL (w : World) : World := ((((((((w.alloc (.cells #[.int .i64 0, .int .i64 4, .int .i64 8, .int .i64 12] 3)).alloc (.cells #[.int .i64 1, .int .i64 5, .int .i64 9, .int .i64 13] 3)).alloc (.cells #[.int .i64 2, .int .i64 6, .int .i64 10, .int .i64 14] 3)).alloc (.cells #[.int .i64 3, .int .i64 7, .int .i64 11, .int .i64 15] 3)).alloc (.cells #[.int .i64 0, .int .i64 5, .int .i64 10, .int .i64 15] 3)).alloc (.cells #[.int .i64 1, .int .i64 6, .int .i64 11, .int .i64 12] 3)).alloc (.cells #[.int .i64 2, .int .i64 7, .int .i64 8, .int .i64 13] 3)).alloc (.cells #[.int .i64 3, .int .i64 4, .int .i64 9, .int .i64 14] 3)).alloc (.cells #[.slice (some ⟨w.heap.size, 0, none⟩) 4 4, .slice (some ⟨w.heap.size + 1, 0, none⟩) 4 4, .slice (some ⟨w.heap.size + 1 + 1, 0, none⟩) 4 4, .slice (some ⟨w.heap.size + 1 + 1 + 1, 0, none⟩) 4 4, .slice (some ⟨w.heap.size + 1 + 1 + 1 + 1, 0, none⟩) 4 4, .slice (some ⟨w.heap.size + 1 + 1 + 1 + 1 + 1, 0, none⟩) 4 4, .slice (some ⟨w.heap.size + 1 + 1 + 1 + 1 + 1 + 1, 0, none⟩) 4 4, .slice (some ⟨w.heap.size + 1 + 1 + 1 + 1 + 1 + 1 + 1, 0, none⟩) 4 4] 30)
def tabRow (k : Nat) : List Value := (List.range 4).map fun i => .int .i64 ((place k i : Nat) : Int)
def tabAll (M : Nat) : List Value := (List.range 8).map fun k => .slice (some ⟨M + k, 0, none⟩) 4 4
theorem tab_rows (w : World) : (∀ k, k < 8 → RowIs (tabL w) (w.heap.size + k) 3 (tabRow k)) ∧ RowIs (tabL w) (w.heap.size + 8) 30 (tabAll w.heap.size) ∧ Below w.heap.size w (tabL w) := by
  have hs : ∀ (w : World) (o : Obj), (w.alloc o).heap.size = w.heap.size + 1 := fun w o => by simp
  unfold tabL
  have r0 := RowIs.new w 3 (tabRow 0)
  have s1 : (w.alloc (.cells #[.int .i64 0, .int .i64 4, .int .i64 8, .int .i64 12] 3)).heap.size = w.heap.size + 1 := by rw [hs]
  have b1 : Below w.heap.size w (w.alloc (.cells #[.int .i64 0, .int .i64 4, .int .i64 8, .int .i64 12] 3)) := (Below.refl _ _).alloc (Nat.le_refl _) _
  replace r0 : RowIs (w.alloc (.cells #[.int .i64 0, .int .i64 4, .int .i64 8, .int .i64 12] 3)) (w.heap.size + 0) 3 (tabRow 0) := r0
  generalize w.alloc (.cells #[.int .i64 0, .int .i64 4, .int .i64 8, .int .i64 12] 3) = w1 at *
  have r1 := RowIs.new w1 3 (tabRow 1)
  have s2 : (w1.alloc (.cells #[.int .i64 1, .int .i64 5, .int .i64 9, .int .i64 13] 3)).heap.size = w.heap.size + 2 := by rw [hs, s1]
  have b2 : Below w.heap.size w (w1.alloc (.cells #[.int .i64 1, .int .i64 5, .int .i64 9, .int .i64 13] 3)) := b1.alloc b1.size _
  replace r1 : RowIs (w1.alloc (.cells #[.int .i64 1, .int .i64 5, .int .i64 9, .int .i64 13] 3)) (w.heap.size + 1) 3 (tabRow 1) := s1 ▸ r1
  replace r0 := r0.alloc (.cells #[.int .i64 1, .int .i64 5, .int .i64 9, .int .i64 13] 3)
  generalize w1.alloc (.cells #[.int .i64 1, .int .i64 5, .int .i64 9, .int .i64 13] 3) = w2 at *
  have r2 := RowIs.new w2 3 (tabRow 2)
  have s3 : (w2.alloc (.cells #[.int .i64 2, .int .i64 6, .int .i64 10, .int .i64 14] 3)).heap.size = w.heap.size + 3 := by rw [hs, s2]
  have b3 : Below w.heap.size w (w2.alloc (.cells #[.int .i64 2, .int .i64 6, .int .i64 10, .int .i64 14] 3)) := b2.alloc b2.size _
  replace r2 : RowIs (w2.alloc (.cells #[.int .i64 2, .int .i64 6, .int .i64 10, .int .i64 14] 3)) (w.heap.size + 2) 3 (tabRow 2) := s2 ▸ r2
  replace r0 := r0.alloc (.cells #[.int .i64 2, .int .i64 6, .int .i64 10, .int .i64 14] 3)
  replace r1 := r1.alloc (.cells #[.int .i64 2, .int .i64 6, .int .i64 10, .int .i64 14] 3)
  generalize w2.alloc (.cells #[.int .i64 2, .int .i64 6, .int .i64 10, .int .i64 14] 3) = w3 at *
  have r3 := RowIs.new w3 3 (tabRow 3)
  have s4 : (w3.alloc (.cells #[.int .i64 3, .int .i64 7, .int .i64 11, .int .i64 15] 3)).heap.size = w.heap.size + 4 := by rw [hs, s3]
  have b4 : Below w.heap.size w (w3.alloc (.cells #[.int .i64 3, .int .i64 7, .int .i64 11, .int .i64 15] 3)) := b3.alloc b3.size _
  replace r3 : RowIs (w3.alloc (.cells #[.int .i64 3, .int .i64 7, .int .i64 11, .int .i64 15] 3)) (w.heap.size + 3) 3 (tabRow 3) := s3 ▸ r3
  replace r0 := r0.alloc (.cells #[.int .i64 3, .int .i64 7, .int .i64 11, .int .i64 15] 3)
  replace r1 := r1.alloc (.cells #[.int .i64 3, .int .i64 7, .int .i64 11, .int .i64 15] 3)
  replace r2 := r2.alloc (.cells #[.int .i64 3, .int .i64 7, .int .i64 11, .int .i64 15] 3)
  generalize w3.alloc (.cells #[.int .i64 3, .int .i64 7, .int .i64 11, .int .i64 15] 3) = w4 at *
  have r4 := RowIs.new w4 3 (tabRow 4)
  have s5 : (w4.alloc (.cells #[.int .i64 0, .int .i64 5, .int .i64 10, .int .i64 15] 3)).heap.size = w.heap.size + 5 := by rw [hs, s4]
  have b5 : Below w.heap.size w (w4.alloc (.cells #[.int .i64 0, .int .i64 5, .int .i64 10, .int .i64 15] 3)) := b4.alloc b4.size _
  replace r4 : RowIs (w4.alloc (.cells #[.int .i64 0, .int .i64 5, .int .i64 10, .int .i64 15] 3)) (w.heap.size + 4) 3 (tabRow 4) := s4 ▸ r4
  replace r0 := r0.alloc (.cells #[.int .i64 0, .int .i64 5, .int .i64 10, .int .i64 15] 3)
  replace r1 := r1.alloc (.cells #[.int .i64 0, .int .i64 5, .int .i64 10, .int .i64 15] 3)
  replace r2 := r2.alloc (.cells #[.int .i64 0, .int .i64 5, .int .i64 10, .int .i64 15] 3)
  replace r3 := r3.alloc (.cells #[.int .i64 0, .int .i64 5, .int .i64 10, .int .i64 15] 3)
  generalize w4.alloc (.cells #[.int .i64 0, .int .i64 5, .int .i64 10, .int .i64 15] 3) = w5 at *
  have r5 := RowIs.new w5 3 (tabRow 5)
  have s6 : (w5.alloc (.cells #[.int .i64 1, .int .i64 6, .int .i64 11, .int .i64 12] 3)).heap.size = w.heap.size + 6 := by rw [hs, s5]
  have b6 : Below w.heap.size w (w5.alloc (.cells #[.int .i64 1, .int .i64 6, .int .i64 11, .int .i64 12] 3)) := b5.alloc b5.size _
  replace r5 : RowIs (w5.alloc (.cells #[.int .i64 1, .int .i64 6, .int .i64 11, .int .i64 12] 3)) (w.heap.size + 5) 3 (tabRow 5) := s5 ▸ r5
  replace r0 := r0.alloc (.cells #[.int .i64 1, .int .i64 6, .int .i64 11, .int .i64 12] 3)
  replace r1 := r1.alloc (.cells #[.int .i64 1, .int .i64 6, .int .i64 11, .int .i64 12] 3)
  replace r2 := r2.alloc (.cells #[.int .i64 1, .int .i64 6, .int .i64 11, .int .i64 12] 3)
  replace r3 := r3.alloc (.cells #[.int .i64 1, .int .i64 6, .int .i64 11, .int .i64 12] 3)
  replace r4 := r4.alloc (.cells #[.int .i64 1, .int .i64 6, .int .i64 11, .int .i64 12] 3)
  generalize w5.alloc (.cells #[.int .i64 1, .int .i64 6, .int .i64 11, .int .i64 12] 3) = w6 at *
  have r6 := RowIs.new w6 3 (tabRow 6)
  have s7 : (w6.alloc (.cells #[.int .i64 2, .int .i64 7, .int .i64 8, .int .i64 13] 3)).heap.size = w.heap.size + 7 := by rw [hs, s6]
  have b7 : Below w.heap.size w (w6.alloc (.cells #[.int .i64 2, .int .i64 7, .int .i64 8, .int .i64 13] 3)) := b6.alloc b6.size _
  replace r6 : RowIs (w6.alloc (.cells #[.int .i64 2, .int .i64 7, .int .i64 8, .int .i64 13] 3)) (w.heap.size + 6) 3 (tabRow 6) := s6 ▸ r6
  replace r0 := r0.alloc (.cells #[.int .i64 2, .int .i64 7, .int .i64 8, .int .i64 13] 3)
  replace r1 := r1.alloc (.cells #[.int .i64 2, .int .i64 7, .int .i64 8, .int .i64 13] 3)
  replace r2 := r2.alloc (.cells #[.int .i64 2, .int .i64 7, .int .i64 8, .int .i64 13] 3)
  replace r3 := r3.alloc (.cells #[.int .i64 2, .int .i64 7, .int .i64 8, .int .i64 13] 3)
  replace r4 := r4.alloc (.cells #[.int .i64 2, .int .i64 7, .int .i64 8, .int .i64 13] 3)
  replace r5 := r5.alloc (.cells #[.int .i64 2, .int .i64 7, .int .i64 8, .int .i64 13] 3)
  generalize w6.alloc (.cells #[.int .i64 2, .int .i64 7, .int .i64 8, .int .i64 13] 3) = w7 at *
  have r7 := RowIs.new w7 3 (tabRow 7)
  have s8 : (w7.alloc (.cells #[.int .i64 3, .int .i64 4, .int .i64 9, .int .i64 14] 3)).heap.size = w.heap.size + 8 := by rw [hs, s7]
  have b8 : Below w.heap.size w (w7.alloc (.cells #[.int .i64 3, .int .i64 4, .int .i64 9, .int .i64 14] 3)) := b7.alloc b7.size _
  replace r7 : RowIs (w7.alloc (.cells #[.int .i64 3, .int .i64 4, .int .i64 9, .int .i64 14] 3)) (w.heap.size + 7) 3 (tabRow 7) := s7 ▸ r7
  replace r0 := r0.alloc (.cells #[.int .i64 3, .int .i64 4, .int .i64 9, .int .i64 14] 3)
  replace r1 := r1.alloc (.cells #[.int .i64 3, .int .i64 4, .int .i64 9, .int .i64 14] 3)
  replace r2 := r2.alloc (.cells #[.int .i64 3, .int .i64 4, .int .i64 9, .int .i64 14] 3)
  replace r3 := r3.alloc (.cells #[.int .i64 3, .int .i64 4, .int .i64 9, .int .i64 14] 3)
  replace r4 := r4.alloc (.cells #[.int .i64 3, .int .i64 4, .int .i64 9, .int .i64 14] 3)
  replace r5 := r5.alloc (.cells #[.int .i64 3, .int .i64 4, .int .i64 9, .int .i64 14] 3)
  replace r6 := r6.alloc (.cells #[.int .i64 3, .int .i64 4, .int .i64 9, .int .i64 14] 3)
  generalize w7.alloc (.cells #[.int .i64 3, .int .i64 4, .int .i64 9, .int .i64 14] 3) = w8 at *
  have r8 := RowIs.new w8 30 (tabAll w.heap.size)
  rw [s8] at r8
  refine ⟨?_, r8, b8.alloc b8.size _⟩
  intro k hk
  match k, hk with
  | 0, _ => exact r0.alloc _
  | 1, _ => exact r1.alloc _
  | 2, _ => exact r2.alloc _
  | 3, _ => exact r3.alloc _
  | 4, _ => exact r4.alloc _
  | 5, _ => exact r5.alloc _
  | 6, _ => exact r6.alloc _
  | 7, _ => exact r7.alloc _
theorem tabRow_at (k i : Nat) (h : i < 4) : (tabRow k)[i]? = some (.int .i64 ((place k i : Nat) : Int)) := by simp [tabRow, h]
theorem tabAll_at (M k : Nat) (h : k < 8) : (tabAll M)[k]? = some (.slice (some ⟨M + k, 0, none⟩) 4 4) := by simp [tabAll, h]
theorem place_lt : ∀ k, k < 8 → ∀ i, i < 4 → place k i < 16 := by decide

end Go.Proofs.YtanghehmfagmfaaGreatDoor

/-
  The inner loop of the reference's Block (the loop in block 6).
-/
namespace Go.Proofs.YtanghehmfagmfaaGreatDoor
open Go.RowKit
set_option linter.unusedVariables false
set_option maxRecDepth 100000

set_option maxRecDepth 100000 in
set_option maxHeartbeats 4000000 in
theorem ref_inner (c0 c1 c2 c3 c4 c5 c6 c7 c8 c9 c12 c14 c15 c16 c17 c18 c19 c20 c21 c22 c23 c24 c25 c26 c27 c28 c29 c30 c31 c32 c33 c34 c35 c36 c37 c38 c39 c40 c41 c42 c43 c44 c45 c46 c47 c48 c49 c50 c51 c52 c53 c54 c55 c56 c57 c58 c59 c60 c61 c62 c63 c64 c65 c66 c67 c68 c69 c70 c71 c72 c73 c74 c75 c76 c77 c78 c79 c80 c81 c82 c83 c84 c85 c86 c87 c88 c89 c90 c91 c92 c93 c94 c95 c96 c97 c98 c99 c100 c101 c102 c103 c104 c105 c106 c107 c108 c109 c110 c111 c112 c113 c114 c115 c116 c117 c118 c119 c120 c121 c122 c123 c124 c125 c126 c127 c128 c129 c130 c131 c132 c133 c134 c135 c136 c137 c138 c139 c140 c141 c142 c143 c144 c145 c146 : Value) (Q0 : Exit → Act → World → Prop) (B gw cap M : Nat) (d : List Int) (W w : World) (hl : d.length = 16) (hw : allW d) (hBg : B ≤ gw) (hM : gw < M) (T1 : ∀ k, k < 8 → RowIs W (M + k) 3 (tabRow k)) (T2 : RowIs W (M + 8) 30 (tabAll M))
    (hown : w.ownsRow B 73 1 (.slice (some ⟨gw, 0, none⟩) 16 cap) 16 (cells32 d)) (hup : Upon gw W w)
    (hQ0 : ∀ c a d v w, Q0 (.panic c) (a.put d v) w → Q0 (.panic c) a w)
    (hexit : ∀ (d13 d14 d69 d70 d71 d72 d73 d74 d75 d76 d77 d78 d79 d80 d81 d82 d83 d84 d85 d86 d87 d88 d89 d90 d91 d92 d93 d94 d95 d96 d97 d98 d99 d100 d101 d102 d103 d104 d105 d106 d107 d108 d109 d110 d111 d112 d113 d114 d115 d116 d117 d118 d119 d120 d121 d122 d123 d124 d125 d126 d127 d128 : Value) (w' : World), w'.ownsRow B 73 1 (.slice (some ⟨gw, 0, none⟩) 16 cap) 16 (cells32 (dblTo d 8)) → Upon gw W w' → Q0 (.exit 6) ⟨(List.toArray (c0 :: c1 :: c2 :: c3 :: c4 :: c5 :: c6 :: c7 :: c8 :: c9 :: .slice (some ⟨gw, 0, none⟩) 16 cap :: .slice (some ⟨M + 8, 0, none⟩) 8 8 :: c12 :: d13 :: d14 :: c15 :: c16 :: c17 :: c18 :: c19 :: c20 :: c21 :: c22 :: c23 :: c24 :: c25 :: c26 :: c27 :: c28 :: c29 :: c30 :: c31 :: c32 :: c33 :: c34 :: c35 :: c36 :: c37 :: c38 :: c39 :: c40 :: c41 :: c42 :: c43 :: c44 :: c45 :: c46 :: c47 :: c48 :: c49 :: c50 :: c51 :: c52 :: c53 :: c54 :: c55 :: c56 :: c57 :: c58 :: c59 :: c60 :: c61 :: c62 :: c63 :: c64 :: c65 :: c66 :: c67 :: c68 :: d69 :: d70 :: d71 :: d72 :: d73 :: d74 :: d75 :: d76 :: d77 :: d78 :: d79 :: d80 :: d81 :: d82 :: d83 :: d84 :: d85 :: d86 :: d87 :: d88 :: d89 :: d90 :: d91 :: d92 :: d93 :: d94 :: d95 :: d96 :: d97 :: d98 :: d99 :: d100 :: d101 :: d102 :: d103 :: d104 :: d105 :: d106 :: d107 :: d108 :: d109 :: d110 :: d111 :: d112 :: d113 :: d114 :: d115 :: d116 :: d117 :: d118 :: d119 :: d120 :: d121 :: d122 :: d123 :: d124 :: d125 :: d126 :: d127 :: d128 :: c129 :: c130 :: c131 :: c132 :: c133 :: c134 :: c135 :: c136 :: c137 :: c138 :: c139 :: c140 :: c141 :: c142 :: c143 :: c144 :: c145 :: c146 :: [])), []⟩ w') :
    Code.wp Tryz.prog ((Tryz.f99.body.bind (blkOf 6)).getD .skip) Q0 ⟨(List.toArray (c0 :: c1 :: c2 :: c3 :: c4 :: c5 :: c6 :: c7 :: c8 :: c9 :: .slice (some ⟨gw, 0, none⟩) 16 cap :: .slice (some ⟨M + 8, 0, none⟩) 8 8 :: c12 :: .int .i64 0 :: c14 :: c15 :: c16 :: c17 :: c18 :: c19 :: c20 :: c21 :: c22 :: c23 :: c24 :: c25 :: c26 :: c27 :: c28 :: c29 :: c30 :: c31 :: c32 :: c33 :: c34 :: c35 :: c36 :: c37 :: c38 :: c39 :: c40 :: c41 :: c42 :: c43 :: c44 :: c45 :: c46 :: c47 :: c48 :: c49 :: c50 :: c51 :: c52 :: c53 :: c54 :: c55 :: c56 :: c57 :: c58 :: c59 :: c60 :: c61 :: c62 :: c63 :: c64 :: c65 :: c66 :: c67 :: c68 :: c69 :: c70 :: c71 :: c72 :: c73 :: c74 :: c75 :: c76 :: c77 :: c78 :: c79 :: c80 :: c81 :: c82 :: c83 :: c84 :: c85 :: c86 :: c87 :: c88 :: c89 :: c90 :: c91 :: c92 :: c93 :: c94 :: c95 :: c96 :: c97 :: c98 :: c99 :: c100 :: c101 :: c102 :: c103 :: c104 :: c105 :: c106 :: c107 :: c108 :: c109 :: c110 :: c111 :: c112 :: c113 :: c114 :: c115 :: c116 :: c117 :: c118 :: c119 :: c120 :: c121 :: c122 :: c123 :: c124 :: c125 :: c126 :: c127 :: c128 :: c129 :: c130 :: c131 :: c132 :: c133 :: c134 :: c135 :: c136 :: c137 :: c138 :: c139 :: c140 :: c141 :: c142 :: c143 :: c144 :: c145 :: c146 :: [])), []⟩ w := by
  conv => arg 2; whnf
  have HX : Hid (∀ (d13 d14 d69 d70 d71 d72 d73 d74 d75 d76 d77 d78 d79 d80 d81 d82 d83 d84 d85 d86 d87 d88 d89 d90 d91 d92 d93 d94 d95 d96 d97 d98 d99 d100 d101 d102 d103 d104 d105 d106 d107 d108 d109 d110 d111 d112 d113 d114 d115 d116 d117 d118 d119 d120 d121 d122 d123 d124 d125 d126 d127 d128 : Value) (w' : World), w'.ownsRow B 73 1 (.slice (some ⟨gw, 0, none⟩) 16 cap) 16 (cells32 (dblTo d 8)) → Upon gw W w' → Q0 (.exit 6) ⟨(List.toArray (c0 :: c1 :: c2 :: c3 :: c4 :: c5 :: c6 :: c7 :: c8 :: c9 :: .slice (some ⟨gw, 0, none⟩) 16 cap :: .slice (some ⟨M + 8, 0, none⟩) 8 8 :: c12 :: d13 :: d14 :: c15 :: c16 :: c17 :: c18 :: c19 :: c20 :: c21 :: c22 :: c23 :: c24 :: c25 :: c26 :: c27 :: c28 :: c29 :: c30 :: c31 :: c32 :: c33 :: c34 :: c35 :: c36 :: c37 :: c38 :: c39 :: c40 :: c41 :: c42 :: c43 :: c44 :: c45 :: c46 :: c47 :: c48 :: c49 :: c50 :: c51 :: c52 :: c53 :: c54 :: c55 :: c56 :: c57 :: c58 :: c59 :: c60 :: c61 :: c62 :: c63 :: c64 :: c65 :: c66 :: c67 :: c68 :: d69 :: d70 :: d71 :: d72 :: d73 :: d74 :: d75 :: d76 :: d77 :: d78 :: d79 :: d80 :: d81 :: d82 :: d83 :: d84 :: d85 :: d86 :: d87 :: d88 :: d89 :: d90 :: d91 :: d92 :: d93 :: d94 :: d95 :: d96 :: d97 :: d98 :: d99 :: d100 :: d101 :: d102 :: d103 :: d104 :: d105 :: d106 :: d107 :: d108 :: d109 :: d110 :: d111 :: d112 :: d113 :: d114 :: d115 :: d116 :: d117 :: d118 :: d119 :: d120 :: d121 :: d122 :: d123 :: d124 :: d125 :: d126 :: d127 :: d128 :: c129 :: c130 :: c131 :: c132 :: c133 :: c134 :: c135 :: c136 :: c137 :: c138 :: c139 :: c140 :: c141 :: c142 :: c143 :: c144 :: c145 :: c146 :: [])), []⟩ w') := hexit
  clear hexit
  have HQ : Hid (∀ c a d v w, Q0 (.panic c) (a.put d v) w → Q0 (.panic c) a w) := hQ0
  clear hQ0
  go_loopw [13] (fun i wr => ∃ k : Nat, k ≤ 8 ∧ i = .int .i64 k ∧ wr.ownsRow B 73 1 (.slice (some ⟨gw, 0, none⟩) 16 cap) 16 (cells32 (dblTo d k)) ∧ Upon gw W wr) (fun i _ => 8 - (intOf i).toNat)
  case atStart => exact ⟨0, by omega, rfl, hown, hup⟩
  case round =>
    clear hown hup
    obtain ⟨k, hk8, rfl, ow, up⟩ := hrel
    by_cases hlt : k < 8
    · clear HX
      have hcell : wr.cell? ⟨M + 8, k, none⟩ = some (.slice (some ⟨M + k, 0, none⟩) 4 4) := (up.row T2 (by omega)).cellAt (tabAll_at M k hlt)
      have rk := up.row (T1 k hlt) (by omega)
      have k0 : (0 : Int) ≤ (k : Int) := by omega
      have k8 : (k : Int) < 8 := by omega
      have p0 := place_lt k hlt 0 (by decide)
      have p1 := place_lt k hlt 1 (by decide)
      have p2 := place_lt k hlt 2 (by decide)
      have p3 := place_lt k hlt 3 (by decide)
      have q0 := rk.cellAt (tabRow_at k 0 (by decide))
      have q1 := rk.cellAt (tabRow_at k 1 (by decide))
      have q2 := rk.cellAt (tabRow_at k 2 (by decide))
      have q3 := rk.cellAt (tabRow_at k 3 (by decide))
      have HN : Hid (dblTo d (k + 1) = qAt (dblTo d k) (place k 0) (place k 1) (place k 2) (place k 3)) := rfl
      have hdl : (dblTo d k).length = 16 := by rw [dblTo_len, hl]
      have hdw := dblTo_w hw k
      generalize dblTo d k = s at *
      generalize place k 0 = a0 at *
      generalize place k 1 = a1 at *
      generalize place k 2 = a2 at *
      generalize place k 3 = a3 at *
      go_wp2_with fail
      refine ref_regionL _ _ _ _ _ _ _ _ _ _ _ _ _ _ _ _ _ _ _ _ _ _ _ _ _ _ _ _ _ _ _ _ _ _ _ _ _ _ _ _ _ _ _ _ _ _ _ _ _ _ _ _ _ _ _ _ _ _ _ _ _ _ _ _ _ _ _ _ _ _ _ _ _ _ _ _ _ _ _ _ _ _ _ _ _ _ _ _ _ _ _ _ _ _ _ _ _ _ _ _ _ _ _ _ _ _ _ _ _ _ _ _ _ _ _ _ _ _ _ _ _ _ _ _ _ _ _ _ _ _ _ _ _ _ _ _ _ _ _ _ _ _ _ _ _ (by kernel_rfl) (by kernel_rfl) (by intro c a d v w h; exact HQ.out c a d v w h) B gw cap (M + k) a0 a1 a2 a3 s wr p0 p1 p2 p3 hdl hdw (by omega) hBg ow q0 q1 q2 q3 ?_
      intro e79 e80 e81 e82 e83 e84 e85 e86 e87 e88 e89 e90 e91 e92 e93 e94 e95 e96 e97 e98 e99 e100 e101 e102 e103 e104 e105 e106 e107 e108 e109 e110 e111 e112 e113 e114 e115 e116 e117 e118 e119 e120 e121 e122 e123 e124 e125 e126 e127 e128 w5 ow5 up5
      rw [← HN.out] at ow5
      have up6 := up.trans up5
      clear ow up up5 rk q0 q1 q2 q3 hcell
      go_wp2_with fail
      go_roundw
      case rel => exact ⟨k + 1, by omega, by go_num, ow5, up6⟩
      case measure => simp [intOf]; omega
    · have hk8' : k = 8 := by omega
      rw [hk8'] at ow
      clear hk8' hk8
      go_wp2
      exact HX.out _ _ _ _ _ _ _ _ _ _ _ _ _ _ _ _ _ _ _ _ _ _ _ _ _ _ _ _ _ _ _ _ _ _ _ _ _ _ _ _ _ _ _ _ _ _ _ _ _ _ _ _ _ _ _ _ _ _ _ _ _ _ _ ow up

end Go.Proofs.YtanghehmfagmfaaGreatDoor

/-
  The outer loop of the reference's Block (the loop in block 4).
-/
namespace Go.Proofs.YtanghehmfagmfaaGreatDoor
open Go.RowKit
set_option linter.unusedVariables false
set_option maxRecDepth 100000

set_option maxRecDepth 100000 in
set_option maxHeartbeats 4000000 in
theorem ref_outer (c0 c1 c2 c3 c4 c5 c6 c7 c8 c9 c13 c14 c15 c16 c17 c18 c19 c20 c21 c22 c23 c24 c25 c26 c27 c28 c29 c30 c31 c32 c33 c34 c35 c36 c37 c38 c39 c40 c41 c42 c43 c44 c45 c46 c47 c48 c49 c50 c51 c52 c53 c54 c55 c56 c57 c58 c59 c60 c61 c62 c63 c64 c65 c66 c67 c68 c69 c70 c71 c72 c73 c74 c75 c76 c77 c78 c79 c80 c81 c82 c83 c84 c85 c86 c87 c88 c89 c90 c91 c92 c93 c94 c95 c96 c97 c98 c99 c100 c101 c102 c103 c104 c105 c106 c107 c108 c109 c110 c111 c112 c113 c114 c115 c116 c117 c118 c119 c120 c121 c122 c123 c124 c125 c126 c127 c128 c129 c130 c131 c132 c133 c134 c135 c136 c137 c138 c139 c140 c141 c142 c143 c144 c145 c146 : Value) (Q0 : Exit → Act → World → Prop) (B gw cap M : Nat) (f : List Int) (W w : World) (hl : f.length = 16) (hw : allW f) (hBg : B ≤ gw) (hM : gw < M) (T1 : ∀ k, k < 8 → RowIs W (M + k) 3 (tabRow k)) (T2 : RowIs W (M + 8) 30 (tabAll M))
    (hown : w.ownsRow B 73 1 (.slice (some ⟨gw, 0, none⟩) 16 cap) 16 (cells32 f)) (hup : Upon gw W w)
    (hQ0 : ∀ c a d v w, Q0 (.panic c) (a.put d v) w → Q0 (.panic c) a w)
    (hexit : ∀ (d12 d13 d14 d65 d66 d67 d68 d69 d70 d71 d72 d73 d74 d75 d76 d77 d78 d79 d80 d81 d82 d83 d84 d85 d86 d87 d88 d89 d90 d91 d92 d93 d94 d95 d96 d97 d98 d99 d100 d101 d102 d103 d104 d105 d106 d107 d108 d109 d110 d111 d112 d113 d114 d115 d116 d117 d118 d119 d120 d121 d122 d123 d124 d125 d126 d127 d128 : Value) (w' : World), w'.ownsRow B 73 1 (.slice (some ⟨gw, 0, none⟩) 16 cap) 16 (cells32 (dbls f 10)) → Upon gw W w' → Q0 (.exit 4) ⟨(List.toArray (c0 :: c1 :: c2 :: c3 :: c4 :: c5 :: c6 :: c7 :: c8 :: c9 :: .slice (some ⟨gw, 0, none⟩) 16 cap :: .slice (some ⟨M + 8, 0, none⟩) 8 8 :: d12 :: d13 :: d14 :: c15 :: c16 :: c17 :: c18 :: c19 :: c20 :: c21 :: c22 :: c23 :: c24 :: c25 :: c26 :: c27 :: c28 :: c29 :: c30 :: c31 :: c32 :: c33 :: c34 :: c35 :: c36 :: c37 :: c38 :: c39 :: c40 :: c41 :: c42 :: c43 :: c44 :: c45 :: c46 :: c47 :: c48 :: c49 :: c50 :: c51 :: c52 :: c53 :: c54 :: c55 :: c56 :: c57 :: c58 :: c59 :: c60 :: c61 :: c62 :: c63 :: c64 :: d65 :: d66 :: d67 :: d68 :: d69 :: d70 :: d71 :: d72 :: d73 :: d74 :: d75 :: d76 :: d77 :: d78 :: d79 :: d80 :: d81 :: d82 :: d83 :: d84 :: d85 :: d86 :: d87 :: d88 :: d89 :: d90 :: d91 :: d92 :: d93 :: d94 :: d95 :: d96 :: d97 :: d98 :: d99 :: d100 :: d101 :: d102 :: d103 :: d104 :: d105 :: d106 :: d107 :: d108 :: d109 :: d110 :: d111 :: d112 :: d113 :: d114 :: d115 :: d116 :: d117 :: d118 :: d119 :: d120 :: d121 :: d122 :: d123 :: d124 :: d125 :: d126 :: d127 :: d128 :: c129 :: c130 :: c131 :: c132 :: c133 :: c134 :: c135 :: c136 :: c137 :: c138 :: c139 :: c140 :: c141 :: c142 :: c143 :: c144 :: c145 :: c146 :: [])), []⟩ w') :
    Code.wp Tryz.prog ((Tryz.f99.body.bind (blkOf 4)).getD .skip) Q0 ⟨(List.toArray (c0 :: c1 :: c2 :: c3 :: c4 :: c5 :: c6 :: c7 :: c8 :: c9 :: .slice (some ⟨gw, 0, none⟩) 16 cap :: .slice (some ⟨M + 8, 0, none⟩) 8 8 :: .int .i64 0 :: c13 :: c14 :: c15 :: c16 :: c17 :: c18 :: c19 :: c20 :: c21 :: c22 :: c23 :: c24 :: c25 :: c26 :: c27 :: c28 :: c29 :: c30 :: c31 :: c32 :: c33 :: c34 :: c35 :: c36 :: c37 :: c38 :: c39 :: c40 :: c41 :: c42 :: c43 :: c44 :: c45 :: c46 :: c47 :: c48 :: c49 :: c50 :: c51 :: c52 :: c53 :: c54 :: c55 :: c56 :: c57 :: c58 :: c59 :: c60 :: c61 :: c62 :: c63 :: c64 :: c65 :: c66 :: c67 :: c68 :: c69 :: c70 :: c71 :: c72 :: c73 :: c74 :: c75 :: c76 :: c77 :: c78 :: c79 :: c80 :: c81 :: c82 :: c83 :: c84 :: c85 :: c86 :: c87 :: c88 :: c89 :: c90 :: c91 :: c92 :: c93 :: c94 :: c95 :: c96 :: c97 :: c98 :: c99 :: c100 :: c101 :: c102 :: c103 :: c104 :: c105 :: c106 :: c107 :: c108 :: c109 :: c110 :: c111 :: c112 :: c113 :: c114 :: c115 :: c116 :: c117 :: c118 :: c119 :: c120 :: c121 :: c122 :: c123 :: c124 :: c125 :: c126 :: c127 :: c128 :: c129 :: c130 :: c131 :: c132 :: c133 :: c134 :: c135 :: c136 :: c137 :: c138 :: c139 :: c140 :: c141 :: c142 :: c143 :: c144 :: c145 :: c146 :: [])), []⟩ w := by
  conv => arg 2; whnf
  have HX : Hid (∀ (d12 d13 d14 d65 d66 d67 d68 d69 d70 d71 d72 d73 d74 d75 d76 d77 d78 d79 d80 d81 d82 d83 d84 d85 d86 d87 d88 d89 d90 d91 d92 d93 d94 d95 d96 d97 d98 d99 d100 d101 d102 d103 d104 d105 d106 d107 d108 d109 d110 d111 d112 d113 d114 d115 d116 d117 d118 d119 d120 d121 d122 d123 d124 d125 d126 d127 d128 : Value) (w' : World), w'.ownsRow B 73 1 (.slice (some ⟨gw, 0, none⟩) 16 cap) 16 (cells32 (dbls f 10)) → Upon gw W w' → Q0 (.exit 4) ⟨(List.toArray (c0 :: c1 :: c2 :: c3 :: c4 :: c5 :: c6 :: c7 :: c8 :: c9 :: .slice (some ⟨gw, 0, none⟩) 16 cap :: .slice (some ⟨M + 8, 0, none⟩) 8 8 :: d12 :: d13 :: d14 :: c15 :: c16 :: c17 :: c18 :: c19 :: c20 :: c21 :: c22 :: c23 :: c24 :: c25 :: c26 :: c27 :: c28 :: c29 :: c30 :: c31 :: c32 :: c33 :: c34 :: c35 :: c36 :: c37 :: c38 :: c39 :: c40 :: c41 :: c42 :: c43 :: c44 :: c45 :: c46 :: c47 :: c48 :: c49 :: c50 :: c51 :: c52 :: c53 :: c54 :: c55 :: c56 :: c57 :: c58 :: c59 :: c60 :: c61 :: c62 :: c63 :: c64 :: d65 :: d66 :: d67 :: d68 :: d69 :: d70 :: d71 :: d72 :: d73 :: d74 :: d75 :: d76 :: d77 :: d78 :: d79 :: d80 :: d81 :: d82 :: d83 :: d84 :: d85 :: d86 :: d87 :: d88 :: d89 :: d90 :: d91 :: d92 :: d93 :: d94 :: d95 :: d96 :: d97 :: d98 :: d99 :: d100 :: d101 :: d102 :: d103 :: d104 :: d105 :: d106 :: d107 :: d108 :: d109 :: d110 :: d111 :: d112 :: d113 :: d114 :: d115 :: d116 :: d117 :: d118 :: d119 :: d120 :: d121 :: d122 :: d123 :: d124 :: d125 :: d126 :: d127 :: d128 :: c129 :: c130 :: c131 :: c132 :: c133 :: c134 :: c135 :: c136 :: c137 :: c138 :: c139 :: c140 :: c141 :: c142 :: c143 :: c144 :: c145 :: c146 :: [])), []⟩ w') := hexit
  clear hexit
  have HQ : Hid (∀ c a d v w, Q0 (.panic c) (a.put d v) w → Q0 (.panic c) a w) := hQ0
  clear hQ0
  go_loopw [12] (fun i wr => ∃ n : Nat, n ≤ 10 ∧ i = .int .i64 n ∧ wr.ownsRow B 73 1 (.slice (some ⟨gw, 0, none⟩) 16 cap) 16 (cells32 (dbls f n)) ∧ Upon gw W wr) (fun i _ => 10 - (intOf i).toNat)
  case atStart => exact ⟨0, by omega, rfl, hown, hup⟩
  case round =>
    clear hown hup
    obtain ⟨n, hn10, rfl, ow, up⟩ := hrel
    by_cases hlt : n < 10
    · clear HX
      have n0 : (0 : Int) ≤ (n : Int) := by omega
      have n10 : (n : Int) < 10 := by omega
      have hdl : (dbls f n).length = 16 := by rw [dbls_len, hl]
      have hdw := dbls_w hw n
      have HD : Hid (dblTo (dbls f n) 8 = dbls f (n + 1)) := rfl
      generalize dbls f n = s at *
      go_wp2_with fail
      refine ref_inner _ _ _ _ _ _ _ _ _ _ _ _ _ _ _ _ _ _ _ _ _ _ _ _ _ _ _ _ _ _ _ _ _ _ _ _ _ _ _ _ _ _ _ _ _ _ _ _ _ _ _ _ _ _ _ _ _ _ _ _ _ _ _ _ _ _ _ _ _ _ _ _ _ _ _ _ _ _ _ _ _ _ _ _ _ _ _ _ _ _ _ _ _ _ _ _ _ _ _ _ _ _ _ _ _ _ _ _ _ _ _ _ _ _ _ _ _ _ _ _ _ _ _ _ _ _ _ _ _ _ _ _ _ _ _ _ _ _ _ _ _ _ _ _ _ B gw cap M s W wr hdl hdw hBg hM T1 T2 ow up (by intro c a d v w h; exact HQ.out c a d v w h) ?_
      intro e13 e14 e69 e70 e71 e72 e73 e74 e75 e76 e77 e78 e79 e80 e81 e82 e83 e84 e85 e86 e87 e88 e89 e90 e91 e92 e93 e94 e95 e96 e97 e98 e99 e100 e101 e102 e103 e104 e105 e106 e107 e108 e109 e110 e111 e112 e113 e114 e115 e116 e117 e118 e119 e120 e121 e122 e123 e124 e125 e126 e127 e128 w5 ow5 up5
      rw [HD.out] at ow5
      clear ow up
      go_wp2_with fail
      go_roundw
      case rel => exact ⟨n + 1, by omega, by go_num, ow5, up5⟩
      case measure => simp [intOf]; omega
    · have hn10' : n = 10 := by omega
      subst hn10'
      clear hn10 hlt
      go_wp2
      exact HX.out _ _ _ _ _ _ _ _ _ _ _ _ _ _ _ _ _ _ _ _ _ _ _ _ _ _ _ _ _ _ _ _ _ _ _ _ _ _ _ _ _ _ _ _ _ _ _ _ _ _ _ _ _ _ _ _ _ _ _ _ _ _ _ _ _ _ _ _ ow up

end Go.Proofs.YtanghehmfagmfaaGreatDoor

/-
  The contract of package stream's doubleRound: its eight regions in a row.
-/
namespace Go.Proofs.YtanghehmfagmfaaGreatDoor
open Go.RowKit
set_option linter.unusedVariables false
set_option maxRecDepth 100000

set_option maxRecDepth 100000 in
set_option maxHeartbeats 2000000 in
theorem stream_doubleRound (g : Nat) (s : List Int) (w : World) (hl : s.length = 16) (hw : allW s) (hr : RowIs w g 214 (cells32 s)) :
    Calls Tryz.prog 171 #[.pointer (some ⟨g, 0, none⟩)] w fun e w' => e = .returned (.tuple #[]) ∧ RowIs w' g 214 (cells32 (dblTo s 8)) ∧ Upon g w w' := by
  go_enter Tryz.func171, Tryz.ntmps171
  have u0 : Upon g w w := Upon.refl g w
  have r0 : RowIs w g 214 (cells32 (dblTo s 0)) := hr
  refine wp_seq (quarter_region 0 0 4 8 12 (by decide) (by decide) (by decide) (by decide) (by kernel_rfl) (by kernel_rfl) (fun _ _ d _ _ h => by cases d <;> exact h) g (dblTo s 0) _ _ (by rw [dblTo_len, hl]) (dblTo_w hw 0) r0 (fun n hn => by show 0 + n < 274; omega) rfl ?_)
  intro b1 w1 z1 e1 d1 r1 u1
  replace z1 : b1.tmps.size = 274 := z1
  replace d1 : b1.defers = [] := d1
  replace r1 : RowIs w1 g 214 (cells32 (dblTo s 1)) := r1
  replace u1 := u0.trans u1
  show Code.wp _ _ _ b1 w1
  refine wp_seq (quarter_region 34 1 5 9 13 (by decide) (by decide) (by decide) (by decide) (by kernel_rfl) (by kernel_rfl) (fun _ _ d _ _ h => by cases d <;> exact h) g (dblTo s 1) _ _ (by rw [dblTo_len, hl]) (dblTo_w hw 1) r1 (fun n hn => by rw [z1]; omega) e1 ?_)
  intro b2 w2 z2 e2 d2 r2 u2
  replace z2 : b2.tmps.size = 274 := z2.trans z1
  replace d2 : b2.defers = [] := d2.trans d1
  replace r2 : RowIs w2 g 214 (cells32 (dblTo s 2)) := r2
  replace u2 := u1.trans u2
  clear z1 e1 d1 r1 u1
  show Code.wp _ _ _ b2 w2
  refine wp_seq (quarter_region 68 2 6 10 14 (by decide) (by decide) (by decide) (by decide) (by kernel_rfl) (by kernel_rfl) (fun _ _ d _ _ h => by cases d <;> exact h) g (dblTo s 2) _ _ (by rw [dblTo_len, hl]) (dblTo_w hw 2) r2 (fun n hn => by rw [z2]; omega) e2 ?_)
  intro b3 w3 z3 e3 d3 r3 u3
  replace z3 : b3.tmps.size = 274 := z3.trans z2
  replace d3 : b3.defers = [] := d3.trans d2
  replace r3 : RowIs w3 g 214 (cells32 (dblTo s 3)) := r3
  replace u3 := u2.trans u3
  clear z2 e2 d2 r2 u2
  show Code.wp _ _ _ b3 w3
  refine wp_seq (quarter_region 102 3 7 11 15 (by decide) (by decide) (by decide) (by decide) (by kernel_rfl) (by kernel_rfl) (fun _ _ d _ _ h => by cases d <;> exact h) g (dblTo s 3) _ _ (by rw [dblTo_len, hl]) (dblTo_w hw 3) r3 (fun n hn => by rw [z3]; omega) e3 ?_)
  intro b4 w4 z4 e4 d4 r4 u4
  replace z4 : b4.tmps.size = 274 := z4.trans z3
  replace d4 : b4.defers = [] := d4.trans d3
  replace r4 : RowIs w4 g 214 (cells32 (dblTo s 4)) := r4
  replace u4 := u3.trans u4
  clear z3 e3 d3 r3 u3
  show Code.wp _ _ _ b4 w4
  refine wp_seq (quarter_region 136 0 5 10 15 (by decide) (by decide) (by decide) (by decide) (by kernel_rfl) (by kernel_rfl) (fun _ _ d _ _ h => by cases d <;> exact h) g (dblTo s 4) _ _ (by rw [dblTo_len, hl]) (dblTo_w hw 4) r4 (fun n hn => by rw [z4]; omega) e4 ?_)
  intro b5 w5 z5 e5 d5 r5 u5
  replace z5 : b5.tmps.size = 274 := z5.trans z4
  replace d5 : b5.defers = [] := d5.trans d4
  replace r5 : RowIs w5 g 214 (cells32 (dblTo s 5)) := r5
  replace u5 := u4.trans u5
  clear z4 e4 d4 r4 u4
  show Code.wp _ _ _ b5 w5
  refine wp_seq (quarter_region 170 1 6 11 12 (by decide) (by decide) (by decide) (by decide) (by kernel_rfl) (by kernel_rfl) (fun _ _ d _ _ h => by cases d <;> exact h) g (dblTo s 5) _ _ (by rw [dblTo_len, hl]) (dblTo_w hw 5) r5 (fun n hn => by rw [z5]; omega) e5 ?_)
  intro b6 w6 z6 e6 d6 r6 u6
  replace z6 : b6.tmps.size = 274 := z6.trans z5
  replace d6 : b6.defers = [] := d6.trans d5
  replace r6 : RowIs w6 g 214 (cells32 (dblTo s 6)) := r6
  replace u6 := u5.trans u6
  clear z5 e5 d5 r5 u5
  show Code.wp _ _ _ b6 w6
  refine wp_seq (quarter_region 204 2 7 8 13 (by decide) (by decide) (by decide) (by decide) (by kernel_rfl) (by kernel_rfl) (fun _ _ d _ _ h => by cases d <;> exact h) g (dblTo s 6) _ _ (by rw [dblTo_len, hl]) (dblTo_w hw 6) r6 (fun n hn => by rw [z6]; omega) e6 ?_)
  intro b7 w7 z7 e7 d7 r7 u7
  replace z7 : b7.tmps.size = 274 := z7.trans z6
  replace d7 : b7.defers = [] := d7.trans d6
  replace r7 : RowIs w7 g 214 (cells32 (dblTo s 7)) := r7
  replace u7 := u6.trans u7
  clear z6 e6 d6 r6 u6
  show Code.wp _ _ _ b7 w7
  refine quarter_region 238 3 4 9 14 (by decide) (by decide) (by decide) (by decide) (by kernel_rfl) (by kernel_rfl) (fun _ _ d _ _ h => by cases d <;> exact h) g (dblTo s 7) _ _ (by rw [dblTo_len, hl]) (dblTo_w hw 7) r7 (fun n hn => by rw [z7]; omega) e7 ?_
  intro b8 w8 z8 e8 d8 r8 u8
  replace z8 : b8.tmps.size = 274 := z8.trans z7
  replace d8 : b8.defers = [] := d8.trans d7
  replace r8 : RowIs w8 g 214 (cells32 (dblTo s 8)) := r8
  replace u8 := u7.trans u8
  clear z7 e7 d7 r7 u7
  exact bodyPost_end (results_none rfl _ _ _) d8 ⟨rfl, r8, u8⟩

end Go.Proofs.YtanghehmfagmfaaGreatDoor

/-
  The contracts of package stream's putWords and firstState.
-/
namespace Go.Proofs.YtanghehmfagmfaaGreatDoor
open Go.RowKit
set_option linter.unusedVariables false
set_option maxRecDepth 100000

/-- Words laid into a list from place o on. -/
def fillTo (l : List Int) (o : Nat) (b : ByteArray) (k : Nat) : List Int := l.take o ++ wordsTo b k ++ l.drop (o + k)
theorem fillTo_len (l : List Int) (o : Nat) (b : ByteArray) (k : Nat) (h : o + k ≤ l.length) : (fillTo l o b k).length = l.length := by
  simp [fillTo, wordsTo_len]; omega
theorem fillTo_succ (l : List Int) (o : Nat) (b : ByteArray) (k : Nat) (h : o + k < l.length) : (fillTo l o b k).set (o + k) (wordAt b k) = fillTo l o b (k + 1) := by
  unfold fillTo
  rw [wordsTo_succ, List.set_append_right _ _ (by simp [wordsTo_len]; omega), List.drop_eq_getElem_cons h]
  have e : o + k - (l.take o ++ wordsTo b k).length = 0 := by simp [wordsTo_len]; omega
  rw [e]
  simp [Nat.add_assoc]
theorem cells32_set (l : List Int) (j : Nat) (v : Int) : (cells32 l).set j (.int .u32 v) = cells32 (l.set j v) := by simp [cells32, List.map_set]

theorem slice_word (b : ByteArray) (k : Nat) (h : 4 * k + 4 ≤ b.size) (x y : Int) (hx : x = 4 * (k : Int)) (hy : y = 4 * (k : Int) + 4) (w : World) :
    (Instr.slice 9 (.string b) (some (.int .i64 x)) (some (.int .i64 y)) none).run Tryz.prog w = .ok (.string (b.extract (4 * k) (4 * k + 4))) w := by
  subst hx hy
  rw [run_slice_string (P := Tryz.prog) w 9 b .i64 .i64 _ _ Tryz.underlying9 (by omega) (by omega) (by omega)]
  rw [show (4 * (k : Int)).toNat = 4 * k from by omega, show (4 * (k : Int) + 4).toNat = 4 * k + 4 from by omega]

set_option maxHeartbeats 1000000 in
theorem stream_putWords (g o n cap : Nat) (l : List Int) (b : ByteArray) (w : World) (hl : l.length = 16) (hon : o + n ≤ 16) (hb : b.size = 4 * n) (hr : RowIs w g 214 (cells32 l)) :
    Calls Tryz.prog 196 #[.slice (some ⟨g, o, none⟩) n cap, .string b] w fun e w' => e = .returned (.tuple #[]) ∧ RowIs w' g 214 (cells32 (fillTo l o b n)) ∧ Upon g w w' := by
  have r0 : RowIs w g 214 (cells32 (fillTo l o b 0)) := by
    have : fillTo l o b 0 = l := by simp [fillTo, wordsTo]
    rw [this]; exact hr
  have HL : Hid (∀ (s : ByteArray) (w : World), s.size ≤ maxLen → Calls Tryz.prog 198 #[.string s] w fun e w' => e = .returned (.int .u64 (littleS s)) ∧ w = w') := octet_little
  go_enter Tryz.func196, Tryz.ntmps196
  go_wp2
  go_loopw [7] (fun i wr => ∃ k : Nat, k ≤ n ∧ i = .int .i64 k ∧ RowIs wr g 214 (cells32 (fillTo l o b k)) ∧ Upon g w wr) (fun i _ => n - (intOf i).toNat)
  case atStart => exact ⟨0, Nat.zero_le _, rfl, r0, Upon.refl g w⟩
  case round =>
    clear r0 hr
    obtain ⟨k, hk, rfl, hrow, hup⟩ := hrel
    by_cases hlt : k < n
    · obtain ⟨v, hc⟩ := hrow.has (j := o + k) (by rw [cells32_len, fillTo_len l o b k (by omega)]; omega)
      have hfz := hrow.frozen (o + k)
      have hsl := slice_word b k (by omega) (4 * (k : Int)) (4 * ((k : Int) + 1)) rfl (by omega)
      have hsz : (b.extract (4 * k) (4 * k + 4)).size ≤ maxLen := by unfold maxLen; simp; omega
      have HS : Hid (RowIs (wr.setCell ⟨g, o + k, none⟩ (.int .u32 (littleS (b.extract (4 * k) (4 * k + 4)) % 4294967296))) g 214 (cells32 (fillTo l o b (k + 1)))) := by
        have := hrow.set (o + k) (.int .u32 (wordAt b k))
        rw [cells32_set, fillTo_succ l o b k (by omega)] at this
        exact this
      have hbd := littleS_bd (b.extract (4 * k) (4 * k + 4))
      have hb0 := hbd.1
      have hb1 := hbd.2
      clear hbd
      generalize b.extract (4 * k) (4 * k + 4) = t at *
      have ht := HL.out t wr hsz
      generalize littleS t = v0 at *
      go_wp2_with (go_at_call 198; refine ht.mono ?_; rintro e w' ⟨rfl, rfl⟩)
      go_roundw
      case rel => exact ⟨k + 1, by omega, by go_num, HS.out, hup.setCell _ _⟩
      case measure => simp [intOf]; omega
    · have hkn : k = n := by omega
      subst hkn
      go_wp2
      go_end0
      exact ⟨rfl, hrow, hup⟩

end Go.Proofs.YtanghehmfagmfaaGreatDoor

/-
  The contract of the reference's Block.
-/
namespace Go.Proofs.YtanghehmfagmfaaGreatDoor
open Go.RowKit
set_option linter.unusedVariables false
set_option maxRecDepth 100000

theorem info32 : (Tryz.prog.info? 73).map (fun i => (i.zero, i.size, i.bytes)) = some (some (.int .u32 0), 1, 4) := by kernel_rfl
theorem str_cat5 (a b : List UInt8) : str a ++ str b = str (a ++ b) := by
  unfold str
  apply ByteArray.ext
  apply Array.toList_inj.1
  simp
theorem cell_upon5 {b g p : Nat} {w w' : World} {x : Value} (h : Upon b w w') (hc : w.cell? ⟨g, p, none⟩ = some x) (hg : g ≠ b) : w'.cell? ⟨g, p, none⟩ = some x := by
  have hl : g < w.heap.size := World.block_lt_of_cell? w _ hc
  rw [← hc]
  exact World.cell?_of_block (w := w) (h.block g hl hg)
theorem cells32_append (a b : List Int) : cells32 (a ++ b) = cells32 a ++ cells32 b := by simp [cells32]

set_option maxRecDepth 100000 in
set_option maxHeartbeats 4000000 in
theorem ref_block (key : ByteArray) (c : Int) (nonce : ByteArray) (w : World) (hk : key.size = 32) (hn : nonce.size = 12) (hc : W32 c) :
    Calls Tryz.prog 99 #[.string key, .int .u32 c, .string nonce] w fun e w' => e = .returned (.string (blockS key c nonce)) ∧ Below w.heap.size w w' := by
  obtain ⟨i0, hi, hz0, hz1, hz2⟩ := info_parts info32
  have hb0 : Below w.heap.size w (w.alloc (.cells (cells32 fixed4).toArray 73)) := (Below.refl _ _).alloc (Nat.le_refl _) _
  have hown0 : (w.alloc (.cells (cells32 fixed4).toArray 73)).ownsRow w.heap.size 73 1 (.slice (some ⟨w.heap.size, 0, none⟩) 4 4) (4 + 0) (cells32 (fixed4 ++ wordsTo key 0)) := (RowIs.new w 73 (cells32 fixed4)).owns (Nat.le_refl _) rfl (by omega) (by unfold maxLen; omega)
  have HL : Hid (∀ (s : ByteArray) (w : World), s.size ≤ maxLen → Calls Tryz.prog 147 #[.string s] w fun e w' => e = .returned (.int .u64 (littleS s)) ∧ w = w') := ref_little
  go_enter Tryz.func99, Tryz.ntmps99
  go_wp2_with fail
  have hw1 : (w.alloc (.cells #[.int .u32 1634760805, .int .u32 857760878, .int .u32 2036477234, .int .u32 1797285236] 73)) = w.alloc (.cells (cells32 fixed4).toArray 73) := rfl
  rw [hw1]
  clear hw1
  generalize w.alloc (.cells (cells32 fixed4).toArray 73) = w1 at *
  go_loopw [7, 8] (fun v i wr => ∃ k : Nat, k ≤ 8 ∧ i = .int .i64 k ∧ wr.ownsRow w.heap.size 73 1 v (4 + k) (cells32 (fixed4 ++ wordsTo key k)) ∧ Below w.heap.size w wr) (fun _ i _ => 8 - (intOf i).toNat)
  case atStart => exact ⟨0, by omega, rfl, hown0, hb0⟩
  case round =>
    clear hown0 hb0
    obtain ⟨k, hk8, rfl, hown, hbel⟩ := hrel
    by_cases hlt : k < 8
    · have hsl := slice_word key k (by omega) (4 * (k : Int)) (4 * (k : Int) + 4) rfl rfl
      have hsz : (key.extract (4 * k) (4 * k + 4)).size ≤ maxLen := by unfold maxLen; simp; omega
      have HW : Hid (cells32 (fixed4 ++ wordsTo key (k + 1)) = cells32 (fixed4 ++ wordsTo key k) ++ cells32 [littleS (key.extract (4 * k) (4 * k + 4)) % 4294967296]) := by
        show cells32 _ = _
        rw [wordsTo_succ, ← List.append_assoc, cells32_append]; rfl
      have hbd := littleS_bd (key.extract (4 * k) (4 * k + 4))
      have hb0 := hbd.1
      have hb1 := hbd.2
      have hsize := hbel.size
      clear hbd
      generalize key.extract (4 * k) (4 * k + 4) = t at *
      have ht := HL.out t wr hsz
      generalize littleS t = v0 at *
      go_wp2_with (first | (go_at_call 147; refine ht.mono ?_; rintro e w' ⟨rfl, rfl⟩) | (at_builtin; refine wpList_append_lies (P := Tryz.prog) _ rfl _ _ 192 rfl w.heap.size 73 i0 (.int .u32 0) 1 4 Tryz.underlying192 hi hz0 hz1 hz2 rfl (by omega) u7 (4 + k) (cells32 (fixed4 ++ wordsTo key k)) rfl (hown.alloc _) ⟨wr.heap.size, 0, none⟩ 1 1 (cells32 [v0 % 4294967296]) rfl rfl (World.news_of_block (heap_alloc_new wr _)) (cells32_one _) (by omega) (by unfold maxLen; omega) (by omega) (by simp; omega) _ rfl ?_; intro g cap w3 hown3 hgrow3 hat3 hlt3))
      have hbel3 : Below w.heap.size w w3 := (hbel.alloc hsize _).grown hgrow3 (by simp; omega) (owns_block hown)
      rw [← HW.out] at hown3
      go_roundw
      case rel => exact ⟨k + 1, by omega, by go_num, hown3, hbel3⟩
      case measure => simp [intOf]; omega
    · have hk8' : k = 8 := by omega
      subst hk8'
      obtain ⟨w2, hw2⟩ : ∃ w2, w2 = wr := ⟨_, rfl⟩
      subst hw2
      have hsize := hbel.size
      have HW : Hid (cells32 (fixed4 ++ wordsTo key 8) ++ cells32 [c] = cells32 ((fixed4 ++ wordsTo key 8 ++ [c]) ++ wordsTo nonce 0)) := by
        show _ = cells32 _
        rw [← cells32_append]; simp [wordsTo]
      have hbelA : Below w.heap.size w (w2.alloc (.cells (cells32 [c]).toArray 73)) := hbel.alloc hsize _
      go_wp2_with (first | (at_builtin; refine wpList_append_lies (P := Tryz.prog) _ rfl _ _ 192 rfl w.heap.size 73 i0 (.int .u32 0) 1 4 Tryz.underlying192 hi hz0 hz1 hz2 rfl (by omega) u7 (4 + 8) (cells32 (fixed4 ++ wordsTo key 8)) rfl (hown.alloc _) ⟨w2.heap.size, 0, none⟩ 1 1 (cells32 [c]) rfl rfl (World.news_of_block (heap_alloc_new w2 _)) (cells32_one _) (by omega) (by unfold maxLen; omega) (by omega) (by simp; omega) _ rfl ?_; intro g cap w3 hown3 hgrow3 hat3 hlt3))
      have hbel3 : Below w.heap.size w w3 := hbelA.grown hgrow3 (by simp; omega) (owns_block hown)
      rw [HW.out] at hown3
      clear hown hbel hbelA hgrow3 hat3 hsize HW
      go_loopw [7, 9] (fun v i wr => ∃ k : Nat, k ≤ 3 ∧ i = .int .i64 k ∧ wr.ownsRow w.heap.size 73 1 v (13 + k) (cells32 ((fixed4 ++ wordsTo key 8 ++ [c]) ++ wordsTo nonce k)) ∧ Below w.heap.size w wr) (fun _ i _ => 3 - (intOf i).toNat)
      case atStart => exact ⟨0, by omega, rfl, hown3, hbel3⟩
      case round =>
        clear hown3 hbel3 hlt3
        obtain ⟨k, hk3, rfl, hown, hbel⟩ := hrel
        by_cases hlt : k < 3
        · have hsl := slice_word nonce k (by omega) (4 * (k : Int)) (4 * (k : Int) + 4) rfl rfl
          have hsz : (nonce.extract (4 * k) (4 * k + 4)).size ≤ maxLen := by unfold maxLen; simp; omega
          have HW : Hid (cells32 ((fixed4 ++ wordsTo key 8 ++ [c]) ++ wordsTo nonce (k + 1)) = cells32 ((fixed4 ++ wordsTo key 8 ++ [c]) ++ wordsTo nonce k) ++ cells32 [littleS (nonce.extract (4 * k) (4 * k + 4)) % 4294967296]) := by
            show cells32 _ = _
            rw [wordsTo_succ nonce k, ← List.append_assoc (fixed4 ++ wordsTo key 8 ++ [c]), cells32_append]; rfl
          have hbd := littleS_bd (nonce.extract (4 * k) (4 * k + 4))
          have hb0 := hbd.1
          have hb1 := hbd.2
          have hsize := hbel.size
          clear hbd
          generalize nonce.extract (4 * k) (4 * k + 4) = t at *
          have ht := HL.out t wr hsz
          generalize littleS t = v0 at *
          generalize fixed4 ++ wordsTo key 8 ++ [c] = pre at *
          go_wp2_with (first | (go_at_call 147; refine ht.mono ?_; rintro e w' ⟨rfl, rfl⟩) | (at_builtin; refine wpList_append_lies (P := Tryz.prog) _ rfl _ _ 192 rfl w.heap.size 73 i0 (.int .u32 0) 1 4 Tryz.underlying192 hi hz0 hz1 hz2 rfl (by omega) u7 (13 + k) (cells32 (pre ++ wordsTo nonce k)) rfl (hown.alloc _) ⟨wr.heap.size, 0, none⟩ 1 1 (cells32 [v0 % 4294967296]) rfl rfl (World.news_of_block (heap_alloc_new wr _)) (cells32_one _) (by omega) (by unfold maxLen; omega) (by omega) (by simp; omega) _ rfl ?_; intro g cap w3 hown3 hgrow3 hat3 hlt3))
          have hbel3 : Below w.heap.size w w3 := (hbel.alloc hsize _).grown hgrow3 (by simp; omega) (owns_block hown)
          rw [← HW.out] at hown3
          go_roundw
          case rel => exact ⟨k + 1, by omega, by go_num, hown3, hbel3⟩
          case measure => simp [intOf]; omega
        · have hk3' : k = 3 := by omega
          subst hk3'
          obtain ⟨w4, hw4⟩ : ∃ w4, w4 = wr := ⟨_, rfl⟩
          subst hw4
          have hf : (fixed4 ++ wordsTo key 8 ++ [c]) ++ wordsTo nonce 3 = firstL key c nonce := rfl
          rw [hf] at hown
          have HBK : Hid (blockS key c nonce = str (tellTo (dbls (firstL key c nonce) 10) (firstL key c nonce) 16)) := rfl
          have hfl := firstL_len key c nonce
          have hfw := firstL_w key c nonce hc
          generalize firstL key c nonce = f at *
          clear hf HL hk3 hk8
          obtain ⟨gs, caps, rfl, hgs⟩ : ∃ gs caps, u7 = .slice (some ⟨gs, 0, none⟩) 16 caps ∧ gs < w4.heap.size := by
            rcases hown.2 with ⟨_, h0⟩ | ⟨g, cap, cur, hv, _, hh, _⟩
            · exact absurd h0 (by decide)
            · exact ⟨g, cap, hv, (Array.getElem?_eq_some_iff.1 hh).1⟩
          have hnews : ∀ j u, (cells32 f)[j]? = some u → w4.cell? ((⟨gs, 0, none⟩ : Addr).add j) = some u := by
            intro j u h
            have hj : j < 16 := by have := (List.getElem?_eq_some_iff.1 h).1; rw [cells32_len, hfl] at this; exact this
            have h1 := hown.cellAt j (by omega)
            rw [h] at h1
            rw [show (⟨gs, 0, none⟩ : Addr).add j = ⟨gs, j, none⟩ from by simp [Addr.add]; exact fun h => h.symm]
            exact h1
          go_wp2_with (first | (at_builtin; refine wpList_append_lies (P := Tryz.prog) w4 rfl _ _ 192 rfl w4.heap.size 73 i0 (.int .u32 0) 1 4 Tryz.underlying192 hi hz0 hz1 hz2 rfl (by omega) (.slice none 0 0) 0 [] rfl ⟨rfl, Or.inl ⟨rfl, rfl⟩⟩ ⟨gs, 0, none⟩ 16 caps (cells32 f) rfl (by rw [cells32_len, hfl]) hnews (cells32_one _) (by omega) (by unfold maxLen; omega) (by omega) (Nat.le_refl _) w4.heap.size rfl ?_; intro gw capw w5 hown5 hgrow5 hat5 hlt5))
          obtain ⟨t1, t2, t3⟩ := tab_rows w5
          have hgw : gw = w4.heap.size := by
            rcases hat5 with h | h
            · cases h
            · exact h
          have b5 : Below w4.heap.size w4 w5 := (Below.refl _ _).grown hgrow5 (Nat.le_refl _) (by intro k hk; cases hk)
          rw [List.nil_append] at hown5
          have own6 : (tabL w5).ownsRow w4.heap.size 73 1 (.slice (some ⟨gw, 0, none⟩) 16 capw) 16 (cells32 f) := owns_below hown5 t3
          have ownS : (tabL w5).ownsRow w.heap.size 73 1 (.slice (some ⟨gs, 0, none⟩) 16 caps) 16 (cells32 f) := owns_below (owns_below hown b5) t3
          have bel6 : Below w.heap.size w (tabL w5) := (hbel.trans (b5.mono hbel.size)).trans (t3.mono (Nat.le_trans hbel.size b5.size))
          have hM : gw < w5.heap.size := hlt5
          have hgs5 : gs < w4.heap.size := hgs
          clear hown5 hown hgrow5 hat5 hnews hlt5 t3 b5 hgs
          change Code.wp _ _ _ _ (tabL w5)
          generalize tabL w5 = W at *
          generalize w5.heap.size = M at *
          have hNw : w.heap.size ≤ w4.heap.size := hbel.size
          have T1 : Hid (∀ k, k < 8 → RowIs W (M + k) 3 (tabRow k)) := t1
          have T2 : Hid (RowIs W (M + 8) 30 (tabAll M)) := t2
          have OS : Hid (W.ownsRow w.heap.size 73 1 (.slice (some ⟨gs, 0, none⟩) 16 caps) 16 (cells32 f)) := ownS
          have BW : Hid (Below w.heap.size w W) := bel6
          clear t1 t2 ownS bel6 hbel
          have hBg : w4.heap.size ≤ gw := Nat.le_of_eq hgw.symm
          have hsg : gs < gw := by omega
          have hNg : w.heap.size ≤ gw := by omega
          clear hgw hgs5 hNw
          refine ref_outer _ _ _ _ _ _ _ _ _ _ _ _ _ _ _ _ _ _ _ _ _ _ _ _ _ _ _ _ _ _ _ _ _ _ _ _ _ _ _ _ _ _ _ _ _ _ _ _ _ _ _ _ _ _ _ _ _ _ _ _ _ _ _ _ _ _ _ _ _ _ _ _ _ _ _ _ _ _ _ _ _ _ _ _ _ _ _ _ _ _ _ _ _ _ _ _ _ _ _ _ _ _ _ _ _ _ _ _ _ _ _ _ _ _ _ _ _ _ _ _ _ _ _ _ _ _ _ _ _ _ _ _ _ _ _ _ _ _ _ _ _ _ _ _ _ w4.heap.size gw capw M f W W hfl hfw hBg hM T1.out T2.out own6 (Upon.refl _ _) (by intro c a d v w h; cases d <;> exact h) ?_
          intro e12 e13 e14 e65 e66 e67 e68 e69 e70 e71 e72 e73 e74 e75 e76 e77 e78 e79 e80 e81 e82 e83 e84 e85 e86 e87 e88 e89 e90 e91 e92 e93 e94 e95 e96 e97 e98 e99 e100 e101 e102 e103 e104 e105 e106 e107 e108 e109 e110 e111 e112 e113 e114 e115 e116 e117 e118 e119 e120 e121 e122 e123 e124 e125 e126 e127 e128 w6 ow6 up6
          have CW : Hid (∀ k, k < 16 → w6.cell? ⟨gw, k, none⟩ = some (.int .u32 ((dbls f 10).getD k 0))) := by
            intro k hk
            have h1 := ow6.cellAt k (by omega)
            rw [cells32_at (dbls f 10) k (by rw [dbls_len, hfl]; omega)] at h1
            exact h1
          have CS : Hid (∀ k, k < 16 → w6.cell? ⟨gs, k, none⟩ = some (.int .u32 (f.getD k 0))) := by
            intro k hk
            have h1 := OS.out.cellAt k (by omega)
            rw [cells32_at f k (by omega)] at h1
            exact cell_upon5 up6 h1 (by omega)
          have hG : gw < w6.heap.size := by
            rcases ow6.2 with ⟨h, _⟩ | ⟨g, cap, cur, hv, _, hh, _⟩
            · cases h
            · injection hv with h1 _ _
              injection h1 with h1
              injection h1 with h1 _ _
              rw [h1]
              exact (Array.getElem?_eq_some_iff.1 hh).1
          have BW6 : Hid (Below w.heap.size w w6) := BW.out.trans (up6.below (by omega) BW.out.size)
          have hdw := dbls_w hfw 10
          have HT : Hid (∀ k, tellTo (dbls f 10) f (k + 1) = tellTo (dbls f 10) f k ++ putLittle (((dbls f 10).getD k 0 + f.getD k 0) % 4294967296) 4) := fun k => tellTo_succ _ _ k
          clear ow6 up6 own6 T1 T2 OS BW hM
          generalize dbls f 10 = d at *
          go_wp2_with fail
          go_loopw [15, 16] (fun o i wr => ∃ k : Nat, k ≤ 16 ∧ i = .int .i64 k ∧ o = .string (str (tellTo d f k)) ∧ Below w6.heap.size w6 wr) (fun _ i _ => 16 - (intOf i).toNat)
          case atStart => exact ⟨0, by omega, rfl, rfl, Below.refl _ _⟩
          case round =>
            obtain ⟨k, hk16, rfl, rfl, bel⟩ := hrel
            by_cases hlt : k < 16
            · have k0 : (0 : Int) ≤ (k : Int) := by omega
              have k16 : (k : Int) < 16 := by omega
              have c1 : wr.cell? ⟨gw, k, none⟩ = some (.int .u32 (d.getD k 0)) := (bel.cell (p := ⟨gw, k, none⟩) hG).trans (CW.out k hlt)
              have c2 : wr.cell? ⟨gs, k, none⟩ = some (.int .u32 (f.getD k 0)) := (bel.cell (p := ⟨gs, k, none⟩) (show gs < w6.heap.size by omega)).trans (CS.out k hlt)
              have hwd := getD_w' hdw k
              have hwf := getD_w' hfw k
              have hwd0 := hwd.1
              have hwd1 := hwd.2
              have hwf0 := hwf.1
              have hwf1 := hwf.2
              have HTk : Hid _ := HT.out k
              have htl : (str (tellTo d f k)).size = 4 * k := by rw [str_size, tellTo_len]
              clear hwd hwf
              generalize d.getD k 0 = x at *
              generalize f.getD k 0 = y at *
              have hpx : (putLittleS ((x + y) % 4294967296) 4).size = 4 := by unfold putLittleS; rw [str_size, putLittle4_len]
              have hcat : str (tellTo d f k) ++ putLittleS ((x + y) % 4294967296) 4 = str (tellTo d f (k + 1)) := by
                rw [show putLittleS ((x + y) % 4294967296) 4 = str (putLittle ((x + y) % 4294967296) 4) from rfl, str_cat5, HTk.out]
              have hln : ¬ (9223372036854775807 < 4 * k + 4) := by omega
              have HP : Hid (∀ w : World, Calls Tryz.prog 101 #[.int .u64 ((x + y) % 4294967296), .int .i64 4] w fun e w' => e = .returned (.string (putLittleS ((x + y) % 4294967296) 4)) ∧ Below w.heap.size w w') := fun w => ref_putLittle _ _ w (by omega) (by omega)
              have e32 : IntKind.u32.wrap (x + y) = (x + y) % 4294967296 := IntKind.wrap_u32 _
              have e64 : IntKind.u64.wrap ((x + y) % 4294967296) = (x + y) % 4294967296 := by rw [IntKind.wrap_u64]; omega
              have hGr := Nat.lt_of_lt_of_le hG bel.size
              generalize (x + y) % 4294967296 = z at *
              clear HT CW CS
              go_wp2_with fail
              go_region_held3 (fun w' => w'.cell? ⟨gw, k, none⟩ = some (.int .u32 x) ∧ w'.cell? ⟨gs, k, none⟩ = some (.int .u32 y)) (first | (refine ⟨?_, ?_⟩ <;> assumption) | go_keep) (first | (go_at_call 101; refine (HP.out _).mono ?_; rintro e w7 ⟨rfl, hb7⟩; have c3 : w7.cell? ⟨gw, k, none⟩ = some (.int .u32 x) := (hb7.cell (p := ⟨gw, k, none⟩) hGr).trans c1; have c4 : w7.cell? ⟨gs, k, none⟩ = some (.int .u32 y) := (hb7.cell (p := ⟨gs, k, none⟩) (Nat.lt_trans hsg hGr)).trans c2))
              have bel7 : Below w6.heap.size w6 w7 := bel.drew.trans (hb7.mono bel.size)
              go_wp2
              go_roundw
              case rel => exact ⟨k + 1, by omega, by go_num, rfl, bel7⟩
              case measure => simp [intOf]; omega
            · have hk16' : k = 16 := by omega
              subst hk16'
              clear hk16 hlt
              go_wp2
              go_ret
              exact ⟨ret_str HBK.out.symm, BW6.out.trans (bel.mono BW6.out.size)⟩

end Go.Proofs.YtanghehmfagmfaaGreatDoor

/-
  The contract of package stream's firstState.
-/
namespace Go.Proofs.YtanghehmfagmfaaGreatDoor
open Go.RowKit
set_option linter.unusedVariables false
set_option maxRecDepth 100000

def z16 : List Int := List.replicate 16 0
theorem z16_len : z16.length = 16 := rfl
theorem size16 : (Tryz.prog.info? 214).map (·.size) = some 16 := by kernel_rfl
theorem zero16 : (Tryz.prog.info? 214).map (·.zero) = some (some (.agg (cells32 z16).toArray)) := by kernel_rfl
theorem run_alloc16 (w : World) : (Instr.alloc 214 true (.tuple #[])).run Tryz.prog w = .ok (.pointer (some ⟨w.heap.size, 0, none⟩)) (w.alloc (.cells (cells32 z16).toArray 214)) := by
  obtain ⟨i, hi, hz⟩ := zero_parts zero16
  exact run_alloc_zero _ i _ hi hz w
theorem len16 : Tryz.prog.arrayLen 214 = 16 := by kernel_rfl
theorem elem16 : Tryz.prog.elem 214 = 73 := by kernel_rfl
theorem slice16_lh (w : World) (b : Nat) (l h : Int) (h0 : 0 ≤ l) (h1 : l ≤ h) (h2 : h ≤ 16) (h3 : l < 16) :
    (Instr.sliceAt 214 (.pointer (some ⟨b, 0, none⟩)) (some (.int .i64 l)) (some (.int .i64 h)) none).run Tryz.prog w = .ok (.slice (some ⟨b, l.toNat, none⟩) (h - l).toNat (16 - l.toNat)) w := by
  rw [run_sliceAt_array_lh w 214 ⟨b, 0, none⟩ (by rw [len16, elem16]; exact Tryz.underlying214) .i64 .i64 l h h0 h1 (by rw [len16]; omega), elem16, run_sizeOf cells30, len16]
  simp only [Result.andThen_ok, slicedAt]
  rw [if_neg (by omega), Addr.add_mid, Nat.mul_one, Nat.zero_add, show h.toNat - l.toNat = (h - l).toNat from by omega]
theorem slice16_l (w : World) (b : Nat) (l : Int) (h0 : 0 ≤ l) (h3 : l < 16) :
    (Instr.sliceAt 214 (.pointer (some ⟨b, 0, none⟩)) (some (.int .i64 l)) none none).run Tryz.prog w = .ok (.slice (some ⟨b, l.toNat, none⟩) (16 - l.toNat) (16 - l.toNat)) w := by
  rw [run_sliceAt_array_l w 214 ⟨b, 0, none⟩ (by rw [len16, elem16]; exact Tryz.underlying214) .i64 l h0 (by rw [len16]; omega), elem16, run_sizeOf cells30, len16]
  simp only [Result.andThen_ok, slicedAt]
  rw [if_neg (by omega), Addr.add_mid, Nat.mul_one, Nat.zero_add]

/-- The four fixed words, the rest zero. -/
def fixed16 : List Int := fixed4 ++ List.replicate 12 0
theorem first_of (key : ByteArray) (c : Int) (nonce : ByteArray) : fillTo (fillTo (fixed16.set 12 c) 4 key 8) 13 nonce 3 = firstL key c nonce := by
  rw [firstL]
  have e1 : fillTo (fixed16.set 12 c) 4 key 8 = (fixed4 ++ wordsTo key 8) ++ [c, 0, 0, 0] := rfl
  have hl : (fixed4 ++ wordsTo key 8).length = 12 := by simp [wordsTo_len, fixed4]
  generalize fixed4 ++ wordsTo key 8 = m at *
  have e2 : fillTo (m ++ [c, 0, 0, 0]) 13 nonce 3 = (m ++ [c]) ++ wordsTo nonce 3 := by
    unfold fillTo
    rw [List.take_append, List.drop_append, hl, List.take_of_length_le (by omega), List.drop_of_length_le (by omega)]
    simp
  rw [e1, e2]

set_option maxRecDepth 100000 in
set_option maxHeartbeats 1000000 in
theorem stream_firstState (key : ByteArray) (c : Int) (nonce : ByteArray) (w : World) (hk : key.size = 32) (hn : nonce.size = 12) (hc : W32 c) :
    Calls Tryz.prog 170 #[.string key, .int .u32 c, .string nonce] w fun e w' => e = .returned (.agg (cells32 (firstL key c nonce)).toArray) ∧ Below w.heap.size w w' := by
  have hf1 : fixed16.length = 16 := rfl
  have hone := all_oneCell_toArray (cells32_one fixed16)
  have hr2 : RowIs ((w.alloc (.cells (cells32 z16).toArray 214)).alloc (.cells (cells32 z16).toArray 214)) (w.heap.size + 1) 214 (cells32 z16) := by
    have := RowIs.new (w.alloc (.cells (cells32 z16).toArray 214)) 214 (cells32 z16)
    simpa using this
  have hr1 : RowIs ((w.alloc (.cells (cells32 z16).toArray 214)).alloc (.cells (cells32 z16).toArray 214)) w.heap.size 214 (cells32 z16) := (RowIs.new w _ (cells32 z16)).alloc _
  have hb2 : Below w.heap.size w ((w.alloc (.cells (cells32 z16).toArray 214)).alloc (.cells (cells32 z16).toArray 214)) := ((Below.refl _ _).alloc (Nat.le_refl _) _).alloc (by simp) _
  have hp1 : ∀ w' g l, l.length = 16 → RowIs w' g 214 (cells32 l) → Calls Tryz.prog 196 #[.slice (some ⟨g, 4, none⟩) 8 12, .string key] w' fun e w'' => e = .returned (.tuple #[]) ∧ RowIs w'' g 214 (cells32 (fillTo l 4 key 8)) ∧ Upon g w' w'' := fun w' g l hl hr => stream_putWords g 4 8 12 l key w' hl (by decide) (by omega) hr
  have hp2 : ∀ w' g l, l.length = 16 → RowIs w' g 214 (cells32 l) → Calls Tryz.prog 196 #[.slice (some ⟨g, 13, none⟩) 3 3, .string nonce] w' fun e w'' => e = .returned (.tuple #[]) ∧ RowIs w'' g 214 (cells32 (fillTo l 13 nonce 3)) ∧ Upon g w' w'' := fun w' g l hl hr => stream_putWords g 13 3 3 l nonce w' hl (by decide) (by omega) hr
  have HP1 : Hid _ := hp1
  have HP2 : Hid _ := hp2
  clear hp1 hp2
  have hs1 : ∀ w' : World, (Instr.sliceAt 214 (.pointer (some ⟨w.heap.size + 1, 0, none⟩)) (some (.int .i64 4)) (some (.int .i64 12)) none).run Tryz.prog w' = .ok (.slice (some ⟨w.heap.size + 1, 4, none⟩) 8 12) w' := fun w' => slice16_lh w' _ 4 12 (by decide) (by decide) (by decide) (by decide)
  have hs2 : ∀ w' : World, (Instr.sliceAt 214 (.pointer (some ⟨w.heap.size + 1, 0, none⟩)) (some (.int .i64 13)) none none).run Tryz.prog w' = .ok (.slice (some ⟨w.heap.size + 1, 13, none⟩) 3 3) w' := fun w' => slice16_l w' _ 13 (by decide) (by decide)
  go_enter Tryz.func170, Tryz.ntmps170
  go_wp2_with (first | (refine wpList_allocN rfl rfl run_alloc16 w.heap.size rfl ?_) | (refine wpList_allocN rfl rfl run_alloc16 (w.heap.size + 1) (by simp) ?_) | (refine wpList_build rfl 214 _ rfl (cells32 fixed16).toArray (by kernel_rfl) ?_) | (refine wpList_store_mid rfl 214 _ _ rfl (w.heap.size + 1) 0 (cells32 fixed16).toArray rfl rfl (hr2.there (by decide)) size16 hone ?_; generalize hw3 : World.setCells _ _ _ _ = w3; have q1 : RowIs w3 (w.heap.size + 1) 214 (cells32 fixed16) := hw3 ▸ hr2.sets (cells32 fixed16) 0 (by decide); have q2 : RowIs w3 w.heap.size 214 (cells32 z16) := (hw3 ▸ (Upon.refl (w.heap.size + 1) _).setCells 0 (cells32 fixed16) : Upon (w.heap.size + 1) _ w3).row hr1 (by simp); have q3 : Below w.heap.size w w3 := hw3 ▸ bel_setCells hb2 (by simp) 0 (cells32 fixed16); clear hw3 hr2 hr1 hb2; have c12 : w3.cell? ⟨w.heap.size + 1, 12, none⟩ = some (.int .u32 0) := q1.cellAt rfl; have z12 := q1.frozen 12))
  have q4 : RowIs (w3.setCell ⟨w.heap.size + 1, 12, none⟩ (.int .u32 c)) (w.heap.size + 1) 214 (cells32 (fixed16.set 12 c)) := by
    have := q1.set 12 (.int .u32 c)
    rwa [cells32_set] at this
  have q5 : RowIs (w3.setCell ⟨w.heap.size + 1, 12, none⟩ (.int .u32 c)) w.heap.size 214 (cells32 z16) := q2.setOther (by simp) _
  have q6 : Below w.heap.size w (w3.setCell ⟨w.heap.size + 1, 12, none⟩ (.int .u32 c)) := q3.setCell (by simp) _
  clear q1 q2 q3 c12 z12
  generalize w3.setCell ⟨w.heap.size + 1, 12, none⟩ (.int .u32 c) = w4 at *
  refine (HP1.out _ _ _ rfl q4).mono ?_
  rintro e w5 ⟨rfl, r1, u1⟩
  have q7 : RowIs w5 w.heap.size 214 (cells32 z16) := u1.row q5 (by simp)
  have q8 : Below w.heap.size w w5 := q6.trans (u1.below (by simp) q6.size)
  clear q4 q5 q6 u1
  go_wp2_with fail
  refine (HP2.out _ _ _ (fillTo_len _ _ _ _ (Nat.le_of_ble_eq_true rfl)) r1).mono ?_
  rintro e w6 ⟨rfl, r2, u2⟩
  rw [first_of] at r2
  have q9 : RowIs w6 w.heap.size 214 (cells32 z16) := u2.row q7 (by simp)
  have qa : Below w.heap.size w w6 := q8.trans (u2.below (by simp) q8.size)
  clear q7 q8 u2 r1
  have hlen : (cells32 (firstL key c nonce)).length = 16 := by rw [cells32_len, firstL_len]
  have hone2 := all_oneCell_toArray (cells32_one (firstL key c nonce))
  have HCS : Hid (∃ cs, cs = cells32 (firstL key c nonce)) := ⟨_, rfl⟩
  obtain ⟨cs, hcs⟩ := HCS.out
  rw [← hcs] at r2 hlen hone2
  have HE : Hid (cs = cells32 (firstL key c nonce)) := hcs
  clear hcs HCS
  go_wp2_with (first | (refine wpList_load_mid rfl 214 _ rfl (w.heap.size + 1) 0 rfl cs _ (r2.range (by rw [List.drop_zero, List.take_length])) Tryz.underlying214 rfl (by rw [size16, hlen]) ?_) | (refine wpList_store_mid rfl 214 _ _ rfl w.heap.size 0 cs.toArray rfl rfl (q9.there (by simp [hlen, cells32_len, z16_len])) (by rw [size16]; simp [hlen]) hone2 ?_))
  refine bodyPost_ret (v := .agg cs.toArray) (results_row rfl _ _ w.heap.size cs _ (by simp [Act.put]) ?_ Tryz.underlying214 rfl (by rw [size16, hlen])) rfl ⟨by rw [HE.out], bel_setCells qa (by omega) _ _⟩
  exact World.rangeAt_setCells_same _ _ _ _ (q9.there (by simp [hlen, cells32_len, z16_len]))

end Go.Proofs.YtanghehmfagmfaaGreatDoor
