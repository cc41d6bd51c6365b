/-
  Plain facts on Xor, and 'string(make([]byte, n))' as two steps of a region.
-/
import Derived.Test.YtlhlpcfjoccgcaaOct6
namespace Go.Proofs.Ytlhlpcfjoccgcaa
open Go.RowKit
set_option linter.unusedVariables false
set_option maxRecDepth 100000

def zeros (n : Nat) : ByteArray := str (List.replicate n 0)
theorem zeros_size (n : Nat) : (zeros n).size = n := by unfold zeros; rw [str_size]; simp

theorem xorS_size (a b : ByteArray) : (xorS a b).size = min a.size b.size := by
  unfold xorS xorL; rw [str_size]; simp
theorem xorS_comm (a b : ByteArray) : xorS a b = xorS b a := by
  unfold xorS xorL
  congr 1
  rw [List.zipWith_comm]
  congr 1
  funext x y
  exact UInt8.xor_comm y x
theorem zip_zeros (l : List UInt8) : List.zipWith (fun x y => x ^^^ y) l (List.replicate l.length 0) = l := by
  induction l with
  | nil => rfl
  | cons x l ih => simp [List.replicate_succ, ih]
theorem zip_self (l : List UInt8) : List.zipWith (fun x y => x ^^^ y) l l = List.replicate l.length 0 := by
  induction l with
  | nil => rfl
  | cons x l ih => rw [List.zipWith_cons_cons, ih, UInt8.xor_self, List.length_cons, List.replicate_succ]
theorem xorS_zeros (a : ByteArray) : xorS a (zeros a.size) = a := by
  unfold xorS xorL zeros
  rw [show (str (List.replicate a.size 0)).data.toList = List.replicate a.data.toList.length 0 from by simp [str], zip_zeros, str_back]
theorem xorS_self (a : ByteArray) : xorS a a = zeros a.size := by
  unfold xorS xorL zeros
  rw [zip_self]
  simp
theorem zip_twice : ∀ (l m : List UInt8), List.zipWith (fun x y => x ^^^ y) (List.zipWith (fun x y => x ^^^ y) l m) m = l.take m.length
  | [], m => by simp
  | x :: l, [] => by simp
  | x :: l, y :: m => by simp [zip_twice l m, UInt8.xor_assoc]
theorem xorS_twice (a b : ByteArray) : xorS (xorS a b) b = str (a.data.toList.take b.size) := by
  unfold xorS xorL
  rw [show (str (List.zipWith (fun x y => x ^^^ y) a.data.toList b.data.toList)).data.toList = List.zipWith (fun x y => x ^^^ y) a.data.toList b.data.toList from by simp [str], zip_twice]
  simp

/-- The row of zeros that 'make([]byte, n)' lays. -/
def zeroRow (n : Nat) : Obj := .cells (madeCells #[.int .u8 0] n) 5 (0, 0)

theorem make8 (n : Nat) (hn : n ≤ 140737488355328) (w : World) :
    (Instr.makeSlice 37 (.int .i64 (n : Int)) (.int .i64 (n : Int))).run Try.prog w = .ok (.slice (some ⟨w.heap.size, 0, none⟩) n n) (w.alloc (zeroRow n)) := by
  obtain ⟨i0, hi, hz0, hz1, hz2⟩ := info_parts info8
  have hr := run_make (P := Try.prog) w 37 5 i0 (.int .u8 0) Try.underlying37 hi hz0 .i64 .i64 n n (by omega) (Int.le_refl _) (by rw [hz2]; omega) (by omega)
  simp only [Int.toNat_natCast] at hr
  rw [hr, hz1, Nat.mul_one]
  rfl

theorem conv8 (n g : Nat) (W : World) (hn : n ≤ 140737488355328) (h : W.heap[g]? = some (zeroRow n)) :
    (convert 37 9 (.slice (some ⟨g, 0, none⟩) n n)).run Try.prog W = .ok (.string (zeros n)) W := by
  have hown : W.ownsRow 0 5 1 (.slice (some ⟨g, 0, none⟩) n n) n (cells8 (List.replicate n 0)) := by
    refine ⟨by simp [cells8], .inr ⟨g, n, _, rfl, Nat.zero_le _, h, Nat.le_refl _, by unfold maxLen; omega, by simp [size_madeCells], ?_⟩⟩
    rw [List.take_of_length_le (by simp [size_madeCells]), made8]
  exact own_string hown

theorem conv_new (n : Nat) (hn : n ≤ 140737488355328) (W : World) :
    (convert 37 9 (.slice (some ⟨W.heap.size, 0, none⟩) n n)).run Try.prog (W.alloc (zeroRow n)) = .ok (.string (zeros n)) (W.alloc (zeroRow n)) :=
  conv8 n _ _ hn (heap_alloc_new W _)

theorem conv_after {n : Nat} {Z : ByteArray} (hn : n ≤ 140737488355328) (hZ : Z = zeros n) {W w' : World} (b : Below (W.alloc (zeroRow n)).heap.size (W.alloc (zeroRow n)) w') :
    (convert 37 9 (.slice (some ⟨W.heap.size, 0, none⟩) n n)).run Try.prog w' = .ok (.string Z) w' := by
  rw [hZ]
  exact conv8 n _ _ hn ((b.block _ (by simp)).trans (heap_alloc_new W _))

theorem conv_new_drew (n : Nat) (hn : n ≤ 140737488355328) (W : World) :
    (convert 37 9 (.slice (some ⟨W.heap.size, 0, none⟩) n n)).run Try.prog (W.alloc (zeroRow n)).drew = .ok (.string (zeros n)) (W.alloc (zeroRow n)).drew :=
  conv8 n _ _ hn (heap_alloc_new W _)
theorem conv_after_drew {n : Nat} {Z : ByteArray} (hn : n ≤ 140737488355328) (hZ : Z = zeros n) {W w' : World} (b : Below (W.alloc (zeroRow n)).drew.heap.size (W.alloc (zeroRow n)).drew w') :
    (convert 37 9 (.slice (some ⟨W.heap.size, 0, none⟩) n n)).run Try.prog w' = .ok (.string Z) w' := by
  rw [hZ]
  exact conv8 n _ _ hn ((b.block _ (by show _ < (W.alloc (zeroRow n)).heap.size; simp)).trans (heap_alloc_new W _))

end Go.Proofs.Ytlhlpcfjoccgcaa
