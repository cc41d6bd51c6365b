/-
  Parts of this proof, one behind the other: Sha3.
-/
import Derived.Test.YtanghehmfagmfaaGreatDoorBun7
import Derived.Test.YtanghehmfagmfaaGreatDoorBun4

/-
  The contract of package digest's schedule.
-/
namespace Go.Proofs.YtanghehmfagmfaaGreatDoor
open Go.RowKit
set_option linter.unusedVariables false
set_option maxRecDepth 100000

theorem len41 : Tryz.prog.arrayLen 275 = 64 := by kernel_rfl
theorem elem41 : Tryz.prog.elem 275 = 5 := by kernel_rfl
theorem cells5 : (Tryz.prog.info? 5).map (·.size) = some 1 := by kernel_rfl
theorem run_sizeOf {P : Program} {t : TypeId} {n : Nat} (h : (P.info? t).map (·.size) = some n) (w : World) : (sizeOf t).run P w = .ok n w := by
  cases hi : P.info? t with
  | none => simp [hi] at h
  | some i => simp [hi] at h; simp [sizeOf, typeInfo, hi, h]
/-- A part of 64 bytes that lie in a block. -/
theorem slice_lh (w : World) (b o : Nat) (l h : Int) (h0 : 0 ≤ l) (h1 : l ≤ h) (h2 : h ≤ 64) (h3 : l < 64) :
    (Instr.sliceAt 275 (.pointer (some ⟨b, o, none⟩)) (some (.int .i64 l)) (some (.int .i64 h)) none).run Tryz.prog w = .ok (.slice (some ⟨b, o + l.toNat, none⟩) (h - l).toNat (64 - l.toNat)) w := by
  rw [run_sliceAt_array_lh w 275 ⟨b, o, none⟩ (by rw [len41, elem41]; exact Tryz.underlying275) .i64 .i64 l h h0 h1 (by rw [len41]; omega), elem41, run_sizeOf cells5, len41]
  simp only [Result.andThen_ok, slicedAt]
  rw [if_neg (by omega), Addr.add_mid, Nat.mul_one, show h.toNat - l.toNat = (h - l).toNat from by omega]
theorem slice_l (w : World) (b o : Nat) (l : Int) (h0 : 0 ≤ l) (h3 : l < 64) :
    (Instr.sliceAt 275 (.pointer (some ⟨b, o, none⟩)) (some (.int .i64 l)) none none).run Tryz.prog w = .ok (.slice (some ⟨b, o + l.toNat, none⟩) (64 - l.toNat) (64 - l.toNat)) w := by
  rw [run_sliceAt_array_l w 275 ⟨b, o, none⟩ (by rw [len41, elem41]; exact Tryz.underlying275) .i64 l h0 (by rw [len41]; omega), elem41, run_sizeOf cells5, len41]
  simp only [Result.andThen_ok, slicedAt]
  rw [if_neg (by omega), Addr.add_mid, Nat.mul_one]

theorem cells30 : (Tryz.prog.info? 73).map (·.size) = some 1 := by kernel_rfl
/-- The place of a word in a row of 64. -/
theorem index39 (w : World) (b o : Nat) (i : Int) (j : Nat) (hi : i = j) (hj : j < 64) :
    (Instr.indexAt 247 (.pointer (some ⟨b, o, none⟩)) (.int .i64 i)).run Tryz.prog w = .ok (.pointer (some ⟨b, o + j, none⟩)) w := by
  subst hi
  have h0 : (0 : Int) ≤ (j : Int) := by omega
  have h1 : (j : Int) < 64 := by omega
  simp [go_sem, Tryz.underlying247, h0, h1]

/-- Bytes that lie in a block, as a string. -/
theorem range_string {w : World} {b o n cap : Nat} {l : List UInt8} (h : w.rangeAt b o (cells8 l)) (hn : n = l.length) :
    (convert 51 9 (.slice (some ⟨b, o, none⟩) n cap)).run Tryz.prog w = .ok (.string (str l)) w := by
  subst hn
  refine run_convert_bytes_back w _ _ 5 ⟨b, o, none⟩ cap l Tryz.underlying51 Tryz.underlying5 Tryz.underlying9 ?_
  intro j hj
  rw [Addr.add_mid]
  exact h j _ (cells8_at l j hj)
theorem range_part {w : World} {b o : Nat} {l : List Value} (h : w.rangeAt b o l) (i n : Nat) : w.rangeAt b (o + i) ((l.drop i).take n) := by
  intro j v hv
  rw [List.getElem?_take] at hv
  split at hv
  · rw [List.getElem?_drop] at hv
    rw [Nat.add_assoc]
    exact h _ _ hv
  · cases hv
theorem cells8_part (l : List UInt8) (i n : Nat) : ((cells8 l).drop i).take n = cells8 ((l.drop i).take n) := by simp [cells8, List.map_drop, List.map_take]
theorem range_below {w w' : World} {b o : Nat} {l : List Value} (h : w.rangeAt b o l) {B : Nat} (hb : Below B w w') (hg : b < B) : w'.rangeAt b o l := fun j v hv => by
  rw [hb.cell (p := ⟨b, o + j, none⟩) hg]; exact h j v hv

theorem big4 (l : List UInt8) (h : l.length ≤ 4) : bigS (str l) = num4 l := by
  unfold bigS str
  simp only [ByteArray.size, List.size_toArray]
  rw [show l.length - 8 = 0 from by omega]
  rfl
theorem num4_w (l : List UInt8) (h : l.length ≤ 4) : W32 (num4 l) := by
  have := numOf_bd l
  have h2 : (256 : Int) ^ l.length ≤ 256 ^ 4 := pow256_le _ _ h
  have h3 : (256 : Int) ^ 4 = 4294967296 := by decide
  unfold W32
  change 0 ≤ numOf l ∧ numOf l < 4294967296
  omega
theorem wTo_w (blk : List UInt8) (t : Nat) : ∀ x ∈ wTo blk t, W32 x := by
  induction t with
  | zero => intro x hx; cases hx
  | succ t ih =>
    intro x hx
    simp only [wTo, List.mem_append, List.mem_singleton] at hx
    rcases hx with hx | rfl
    · exact ih x hx
    · unfold wNext
      split
      · exact num4_w _ (by simp; omega)
      · exact addI_w _ _
theorem getD_w {l : List Int} (h : ∀ x ∈ l, W32 x) (j : Nat) : W32 (l.getD j 0) := by
  rw [List.getD_eq_getElem?_getD]
  cases e : l[j]? with
  | none => simp [W32]
  | some x => exact h x (List.mem_of_getElem? e)

/-- The first k words of a schedule, the rest zero, one word more. -/
theorem row_next (blk : List UInt8) (k : Nat) (hk : k < 64) : (cells32 (wTo blk k ++ List.replicate (64 - k) 0)).set k (.int .u32 (wNext blk (wTo blk k))) = cells32 (wTo blk (k + 1) ++ List.replicate (64 - (k + 1)) 0) := by
  simp only [cells32, ← List.map_set]
  congr 1
  rw [List.set_append_right _ _ (by rw [wTo_len]; exact Nat.le_refl _), wTo_len, Nat.sub_self, show 64 - k = (64 - (k + 1)) + 1 from by omega, List.replicate_succ, List.set_cons_zero, wTo, List.append_assoc]
  rfl
theorem row_at (blk : List UInt8) (k j : Nat) (hj : j < k) (hk : k ≤ 64) : (cells32 (wTo blk k ++ List.replicate (64 - k) 0))[j]? = some (.int .u32 ((wTo blk k).getD j 0)) := by
  rw [cells32_at _ _ (by simp [wTo_len]; omega), List.getD_eq_getElem?_getD, List.getElem?_append_left (by rw [wTo_len]; exact hj), ← List.getD_eq_getElem?_getD]
theorem row_len (blk : List UInt8) (k : Nat) (hk : k ≤ 64) : (cells32 (wTo blk k ++ List.replicate (64 - k) 0)).length = 64 := by
  rw [cells32_len]; simp [wTo_len]; omega
theorem wNext_lo (blk : List UInt8) (k : Nat) (hk : k < 16) : wNext blk (wTo blk k) = num4 ((blk.drop (4 * k)).take 4) := by
  unfold wNext; rw [wTo_len, if_pos hk]
theorem wNext_hi (blk : List UInt8) (k : Nat) (hk : ¬ k < 16) : wNext blk (wTo blk k) = addI (addI (addI ((wTo blk k).getD (k - 16) 0) (sg0 ((wTo blk k).getD (k - 15) 0))) ((wTo blk k).getD (k - 7) 0)) (sg1 ((wTo blk k).getD (k - 2) 0)) := by
  unfold wNext; rw [wTo_len, if_neg hk]

end Go.Proofs.YtanghehmfagmfaaGreatDoor
