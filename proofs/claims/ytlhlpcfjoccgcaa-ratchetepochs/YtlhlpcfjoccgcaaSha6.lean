/-
  The contracts of package digest's padding and told.
-/
import Derived.Test.YtlhlpcfjoccgcaaSha5
import Derived.Test.YtlhlpcfjoccgcaaOct2
import Derived.Test.YtlhlpcfjoccgcaaOct7
import Derived.Lib.AppendStr
namespace Go.Proofs.Ytlhlpcfjoccgcaa
open Go.RowKit
set_option linter.unusedVariables false
set_option maxRecDepth 100000

/-- So many bytes 0. -/
def zeros8 (m : Nat) : List UInt8 := List.replicate m 0
theorem zeros8_len (m : Nat) : (zeros8 m).length = m := by simp [zeros8]
theorem owns_below {w w' : World} {base n size : Nat} {e : TypeId} {v : Value} {xs : List Value} (h : w.ownsRow base e size v n xs) (hb : Below w.heap.size w w') : w'.ownsRow base e size v n xs := by
  obtain ⟨h1, h2⟩ := h
  refine ⟨h1, ?_⟩
  rcases h2 with h2 | ⟨g, cap, cur, hv, hg, hh, r⟩
  · exact Or.inl h2
  · exact Or.inr ⟨g, cap, cur, hv, hg, by rw [hb.block g (Array.getElem?_eq_some_iff.1 hh).1]; exact hh, r⟩
theorem owns_block {w : World} {base n size : Nat} {e : TypeId} {v : Value} {xs : List Value} (h : w.ownsRow base e size v n xs) : ∀ k, v.ownBlock = some k → base ≤ k := by
  intro k hk
  rcases h.2 with ⟨rfl, _⟩ | ⟨g, cap, cur, rfl, hg, _⟩
  · cases hk
  · simp only [Value.ownBlock, Option.some.injEq] at hk; omega
/-- 'make([]byte, n, m)'. -/
theorem wpList_make8 {w : World} {ops : Array Oper} {rest : List Oper} {o : Oper} {a : Act} {Q : Exit → Act → World → Prop} (hg : o.guard = none) (l c : Operand) (ho : o.op = .makeSlice 37 l c)
    (L C : Int) (n m : Nat) (hl : a.eval l = .int .i64 L) (hc : a.eval c = .int .i64 C) (hL : L = (n : Int)) (hC : C = (m : Int)) (hnm : n ≤ m) (hm : m ≤ 140737488355328) (N : Nat) (hN : w.heap.size = N)
    (h : wpList Try.prog ops Q rest (a.put o.dst (.slice (some ⟨N, 0, none⟩) n m)) (w.alloc (.cells (cells8 (zeros8 m)).toArray 5))) : wpList Try.prog ops Q (o :: rest) a w := by
  subst hL hC hN
  obtain ⟨i0, hi, hz0, hz1, hz2⟩ := info_parts info8
  have hr := run_make (P := Try.prog) w 37 5 i0 (.int .u8 0) Try.underlying37 hi hz0 .i64 .i64 (n : Int) (m : Int) (by omega) (by omega) (by rw [hz2]; omega) (by omega)
  rw [hz1, Nat.mul_one, Int.toNat_natCast, Int.toNat_natCast] at hr
  have e : madeCells (Value.int .u8 0).cells m = (cells8 (zeros8 m)).toArray := by
    apply Array.toList_inj.1
    exact made8 m
  rw [e] at hr
  refine wpList_value hg (w' := w.alloc (.cells (cells8 (zeros8 m)).toArray 5)) ?_ h
  unfold execOp
  simp only [ho, hl, hc, Sem.run_bind, hr]
  rfl
/-- A row that is known whole, and lies from 'base' on, is owned. -/
theorem RowIs.owns {w : World} {g base n cap : Nat} {t : TypeId} {l : List Value} (h : RowIs w g t l) (hb : base ≤ g) (hc : l.length = cap) (hn : n ≤ cap) (hm : cap ≤ maxLen) : w.ownsRow base t 1 (.slice (some ⟨g, 0, none⟩) n cap) n (l.take n) := by
  refine ⟨by simp; omega, Or.inr ⟨g, cap, l.toArray, rfl, hb, h, hn, hm, by simpa using hc, by simp⟩⟩
theorem strCells_str (l : List UInt8) : Lib.strCells (str l) = cells8 l := by
  unfold Lib.strCells str cells8
  rfl

theorem padZ_lt (n : Nat) : padZ n < 64 := by unfold padZ; omega
theorem padZ_int (n : Nat) : (64 - ((n : Int) + 9) % 64) % 64 = (padZ n : Int) := by unfold padZ; omega

set_option maxRecDepth 100000 in
set_option maxHeartbeats 1000000 in
theorem dig_padding (n : Nat) (w : World) (hn : n ≤ 576460752303423488) :
    Calls Try.prog 64 #[.int .i64 n] w fun e w' => e = .returned (.string (str (padL n))) ∧ Below w.heap.size w w' := by
  have hz := padZ_lt n
  have hzi := padZ_int n
  have HD : Hid (padL n = (128 :: List.replicate (padZ n) 0) ++ putBig (8 * (n : Int)) 8) := rfl
  obtain ⟨i0, hi, hz0, hz1, hz2⟩ := info_parts info8
  generalize padZ n = z at *
  have hrow0 : RowIs (w.alloc (.cells (cells8 (zeros8 (9 + z))).toArray 5)) w.heap.size 5 (cells8 (zeros8 (9 + z))) := RowIs.new _ _ _
  have hb0 : Below w.heap.size w (w.alloc (.cells (cells8 (zeros8 (9 + z))).toArray 5)) := (Below.refl _ _).alloc (Nat.le_refl _) _
  have hc0 : (w.alloc (.cells (cells8 (zeros8 (9 + z))).toArray 5)).cell? ⟨w.heap.size, 0, none⟩ = some (.int .u8 0) := hrow0.cellAt (by rw [show 9 + z = (8 + z) + 1 from by omega]; rfl)
  have hf0 := hrow0.frozen 0
  go_enter Try.func64, Try.ntmps64
  go_wp2_with (first | (at_make; refine wpList_make8 rfl _ _ rfl _ _ (1 + z) (9 + z) rfl rfl (by omega) (by omega) (by omega) (by omega) w.heap.size rfl ?_))
  have hrow1 : RowIs (w.alloc (.cells ((cells8 (zeros8 (9 + z))).set 0 (.int .u8 128)).toArray 5)) w.heap.size 5 (cells8 ((128 :: List.replicate z 0) ++ List.replicate 8 0)) := by
    have := RowIs.new w 5 ((cells8 (zeros8 (9 + z))).set 0 (.int .u8 128))
    rw [show (cells8 (zeros8 (9 + z))).set 0 (.int .u8 128) = cells8 ((128 :: List.replicate z 0) ++ List.replicate 8 0) from by
      rw [zeros8, show (Value.int .u8 128) = cell8 128 from rfl, cells8_set, show 9 + z = (z + 8) + 1 from by omega, List.replicate_succ, List.set_cons_zero, List.cons_append, List.replicate_append_replicate]] at this ⊢
    exact this
  have hb1 : Below w.heap.size w (w.alloc (.cells ((cells8 (zeros8 (9 + z))).set 0 (.int .u8 128)).toArray 5)) := (Below.refl _ _).alloc (Nat.le_refl _) _
  have hs1 : w.heap.size < (w.alloc (.cells ((cells8 (zeros8 (9 + z))).set 0 (.int .u8 128)).toArray 5)).heap.size := by simp
  clear hrow0 hb0 hc0 hf0
  generalize w.alloc (.cells ((cells8 (zeros8 (9 + z))).set 0 (.int .u8 128)).toArray 5) = w1 at *
  refine (octet_putBig _ _ _ (by omega) (by omega)).mono ?_
  rintro e w2 ⟨rfl, hb2⟩
  have hrow2 := hrow1.below hb2 hs1
  have hs2 := hb2.size
  have hbel : Below w.heap.size w w2 := hb1.trans (hb2.mono (by omega))
  have hown := hrow2.owns (base := w.heap.size) (n := 1 + z) (cap := 9 + z) (Nat.le_refl _) (by rw [cells8_len]; simp; omega) (by omega) (by unfold maxLen; omega)
  have hsz : (putBigS (8 * (n : Int)) 8).size = 8 := by unfold putBigS; rw [str_size, putBig8_len]
  have hcl : (cells8 ((128 :: List.replicate z 0) ++ List.replicate 8 0)).take (1 + z) = cells8 (128 :: List.replicate z 0) := by
    rw [cells8_append, List.take_append_of_le_length (by rw [cells8_len]; simp; omega), List.take_of_length_le (by rw [cells8_len]; simp; omega)]
  rw [hcl] at hown
  clear hcl hrow1 hrow2 hb1 hb2
  go_wp2_with (at_builtin; go_loud (refine Lib.wpList_append_own_string (P := Try.prog) _ rfl _ _ 37 9 rfl w.heap.size 5 i0 Try.underlying37 Try.underlying9 hi hz0 hz1 hz2 _ (1 + z) (cells8 (128 :: List.replicate z 0)) rfl hown (putBigS (8 * (n : Int)) 8) rfl (by rw [hsz]; unfold maxLen; omega) (by rw [hsz]; omega) (by omega) ?_); intro v' w3 hown3 hgrow3 hiff)
  have hbel3 := hbel.grown hgrow3 (by omega) (owns_block hown)
  rw [show putBigS (8 * (n : Int)) 8 = str (putBig (8 * (n : Int)) 8) from rfl, strCells_str, ← cells8_append] at hown3
  have hconv := own_string_any hown3
  clear hown hgrow3 hiff hown3
  rw [hconv]
  go_wp2
  go_ret
  exact ⟨ret_str (by rw [HD.out]; rfl), hbel3⟩

/-- The bytes of the first k words. -/
def toldTo (l : List Int) (k : Nat) : List UInt8 := ((l.take k).map fun v => putBig v 4).flatten
theorem toldTo_succ (l : List Int) (k : Nat) (h : k < l.length) : toldTo l (k + 1) = toldTo l k ++ putBig (l.getD k 0) 4 := by
  unfold toldTo
  rw [List.take_succ_eq_append_getElem h, List.getD_eq_getElem?_getD, List.getElem?_eq_getElem h, List.map_append, List.flatten_append]
  simp
theorem toldTo_len (l : List Int) (k : Nat) (h : k ≤ l.length) : (toldTo l k).length = 4 * k := by
  induction k with
  | zero => rfl
  | succ k ih => rw [toldTo_succ l k (by omega), List.length_append, ih (by omega), putBig4_len]; omega

set_option maxRecDepth 100000 in
set_option maxHeartbeats 1000000 in
theorem dig_told (b : Nat) (l : List Int) (w : World) (hl : l.length = 8) (hw : ∀ x ∈ l, W32 x) (hr : w.rangeAt b 67 (cells32 l)) (hb : b < w.heap.size) :
    Calls Try.prog 65 #[.pointer (some ⟨b, 0, none⟩)] w fun e w' => e = .returned (.string (str (toldTo l 8))) ∧ Below w.heap.size w w' := by
  obtain ⟨i0, hi, hz0, hz1, hz2⟩ := info_parts info8
  have hlen : (cells32 l).length = 8 := by rw [cells32_len, hl]
  have hr8 : (w.alloc (.cells (cells8 (zeros8 32)).toArray 5)).rangeAt b 67 (cells32 l) := range_below hr ((Below.refl w.heap.size w).alloc (Nat.le_refl _) _) hb
  have hown0 : (w.alloc (.cells (cells8 (zeros8 32)).toArray 5)).ownsRow w.heap.size 5 1 (.slice (some ⟨w.heap.size, 0, none⟩) 0 32) (4 * 0) (cells8 (toldTo l 0)) := (RowIs.new w 5 (cells8 (zeros8 32))).owns (Nat.le_refl _) (by rw [cells8_len]; rfl) (by omega) (by unfold maxLen; omega)
  have hb0 : Below w.heap.size w (w.alloc (.cells (cells8 (zeros8 32)).toArray 5)) := (Below.refl w.heap.size w).alloc (Nat.le_refl _) _
  have hs0 : w.heap.size < (w.alloc (.cells (cells8 (zeros8 32)).toArray 5)).heap.size := by simp
  have HA : Hid (∀ j : Nat, j < 8 → ∀ w : World, (Instr.index 88 (.agg (cells32 l).toArray) (.int .i64 (j : Int))).run Try.prog w = .ok (.int .u32 (l.getD j 0)) w) := by
    intro j hj w
    exact run_index_arr _ _ j _ w rfl hj (by rw [List.getElem?_toArray]; exact cells32_at l j (by omega)) Try.underlying88 Try.underlying70 cells30
  go_enter Try.func65, Try.ntmps65
  go_wp2_with (first | (at_make; refine wpList_make8 rfl _ _ rfl _ _ 0 32 rfl rfl rfl rfl (by omega) (by omega) w.heap.size rfl ?_) | (refine wpList_load_mid rfl 88 _ rfl b 67 rfl (cells32 l) _ hr8 Try.underlying88 rfl (by rw [size8, hlen]) ?_))
  generalize w.alloc (.cells (cells8 (zeros8 32)).toArray 5) = w1 at *
  go_loopw [3, 11] (fun v i wr => ∃ k : Nat, k ≤ 8 ∧ i = .int .i64 k ∧ wr.ownsRow w.heap.size 5 1 v (4 * k) (cells8 (toldTo l k)) ∧ Below w.heap.size w wr) (fun _ i _ => 8 - (intOf i).toNat)
  case atStart => exact ⟨0, by omega, rfl, hown0, hb0⟩
  case round =>
    have hws : w.heap.size ≤ w.heap.size := Nat.le_refl _
    clear hown0 hb0 hr8 hs0 hr
    obtain ⟨k, hk, rfl, hown, hbel⟩ := hrel
    by_cases hlt : k < 8
    · have hix := HA.out k hlt
      have hwk : W32 (l.getD k 0) := getD_w hw k
      have hw0 := hwk.1
      have hw1 := hwk.2
      have HT : Hid (toldTo l (k + 1) = toldTo l k ++ putBig (l.getD k 0) 4) := toldTo_succ l k (by omega)
      generalize l.getD k 0 = x at *
      have hsz : (putBigS x 4).size = 4 := by unfold putBigS; rw [str_size, putBig4_len]
      go_wp2_with (first | (go_at_call 28; refine (octet_putBig _ _ _ (by omega) (by omega)).mono ?_; rintro e w2 ⟨rfl, hb2⟩) | (at_builtin; refine Lib.wpList_append_own_string (P := Try.prog) _ rfl _ _ 37 9 rfl w.heap.size 5 i0 Try.underlying37 Try.underlying9 hi hz0 hz1 hz2 _ (4 * k) (cells8 (toldTo l k)) rfl (owns_below hown hb2) (putBigS x 4) rfl (by rw [hsz]; unfold maxLen; omega) (by rw [hsz]; omega) (Nat.le_trans (Nat.le_trans hws hbel.size) hb2.size) ?_; intro v' w3 hown3 hgrow3 hiff))
      have hbel3 : Below w.heap.size w w3 := (hbel.trans (hb2.mono (Nat.le_trans hws hbel.size))).grown hgrow3 (Nat.le_trans (Nat.le_trans hws hbel.size) hb2.size) (owns_block hown)
      rw [hsz, show putBigS x 4 = str (putBig x 4) from rfl, strCells_str, ← cells8_append] at hown3
      go_roundw
      case rel => exact ⟨k + 1, by omega, by go_num, by rw [HT.out]; exact hown3, hbel3⟩
      case measure => simp [intOf]; omega
    · have hk8 : k = 8 := by omega
      rw [hk8] at hown
      have hconv := own_string_any hown
      clear hown
      go_wp2
      go_ret
      exact ⟨rfl, hbel⟩

end Go.Proofs.Ytlhlpcfjoccgcaa
