/-
  Plain facts on the blocks that the law DigestBlocks makes.
-/
import Derived.Test.YtjdhmemnigohbaaLong2
namespace Go.Proofs.Ytjdhmemnigohbaa
open Go.RowKit
set_option linter.unusedVariables false

def blockTo (c : Int) (k j : Nat) : List UInt8 := (List.range j).map fun (i : Nat) => byteI (c + (k : Int) * (i : Int))
theorem blockTo_len (c : Int) (k j : Nat) : (blockTo c k j).length = j := by simp [blockTo]
theorem blockTo_succ (c : Int) (k j : Nat) : blockTo c k (j + 1) = blockTo c k j ++ [byteI (c + (k : Int) * (j : Int))] := by
  simp [blockTo, List.range_succ]
theorem byteI_cell (v : Int) : cell8 (byteI v) = .int .u8 (v % 256) := by
  unfold cell8
  rw [byteI_val]
theorem blockTo_set (c : Int) (k j : Nat) (hj : j < 64) : (cells8 (blockTo c k j ++ zeros8 (64 - j))).set j (.int .u8 ((c + (k : Int) * (j : Int)) % 256)) = cells8 (blockTo c k (j + 1) ++ zeros8 (64 - (j + 1))) := by
  rw [← byteI_cell, cells8_set]
  congr 1
  rw [List.set_append_right _ _ (by rw [blockTo_len]; exact Nat.le_refl _), blockTo_len, Nat.sub_self, show 64 - j = (64 - (j + 1)) + 1 from by omega, zeros8, List.replicate_succ, List.set_cons_zero, blockTo_succ, List.append_assoc]
  rfl
def blocksL (c : Int) : Nat → List UInt8
  | 0 => []
  | k + 1 => blocksL c k ++ blockTo c k 64
theorem blocksL_len (c : Int) (k : Nat) : (blocksL c k).length = 64 * k := by
  induction k with
  | zero => rfl
  | succ k ih => simp [blocksL, ih, blockTo_len]; omega

end Go.Proofs.Ytjdhmemnigohbaa
