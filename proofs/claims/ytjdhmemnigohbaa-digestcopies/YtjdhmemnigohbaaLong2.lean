/-
  Plain facts on the texts that the laws of chapter 2 make.
-/
import Derived.Test.YtjdhmemnigohbaaAlive2
import Derived.Test.YtjdhmemnigohbaaRefF
namespace Go.Proofs.Ytjdhmemnigohbaa
open Go.RowKit
set_option linter.unusedVariables false

def byteI (v : Int) : UInt8 := UInt8.ofNat (v % 256).toNat
theorem byteI_val (v : Int) : ((byteI v).toNat : Int) = v % 256 := by
  unfold byteI
  rw [UInt8.toNat_ofNat']
  omega
def longL (c : Int) (k : Nat) : List UInt8 := (List.range k).map fun (i : Nat) => byteI (c + (i : Int))
theorem longL_len (c : Int) (k : Nat) : (longL c k).length = k := by simp [longL]
theorem longL_succ (c : Int) (k : Nat) : longL c (k + 1) = longL c k ++ [byteI (c + (k : Int))] := by
  simp [longL, List.range_succ]
/-- A row of one byte, just made, as a string. -/
theorem one_string (w : World) (v : Int) (hv : 0 ≤ v) (hv1 : v < 256) : (convert 49 9 (.slice (some ⟨w.heap.size, 0, none⟩) 1 1)).run Try.prog (w.alloc (.cells #[.int .u8 v] 5)) = .ok (.string (str [byteI v])) (w.alloc (.cells #[.int .u8 v] 5)) := by
  have h : RowIs (w.alloc (.cells #[.int .u8 v] 5)) w.heap.size 5 (cells8 [byteI v]) := by
    have := RowIs.new w 5 (cells8 [byteI v])
    rw [show cells8 [byteI v] = [.int .u8 v] from by simp [cells8, cell8, byteI_val]; omega] at this ⊢
    exact this
  exact range_string (h.range (o := 0) (by rw [List.drop_zero, List.take_length])) rfl

end Go.Proofs.Ytjdhmemnigohbaa
