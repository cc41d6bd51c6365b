/-
  Plain facts on keys: a long one counts as its sum, zeros behind a short one do not count.
-/
import Derived.Test.YtbnhahbnggojiaaAlive3
import Derived.Deep.RegionWith
import Derived.Deep.RegionHeld3
namespace Go.Proofs.Ytbnhahbnggojiaa
open Go.RowKit
set_option linter.unusedVariables false
set_option maxRecDepth 100000

theorem fill_sum (k : List UInt8) (h : 64 < k.length) : fillL (shaL k) = fillL k := by
  have e : keyL (shaL k) = keyL k := by
    unfold keyL
    rw [if_pos h, shaL_len]
    rfl
  unfold fillL
  rw [e]
theorem fill_zeros (k : List UInt8) (n : Nat) (h : k.length + n ≤ 64) : fillL (k ++ List.replicate n 0) = fillL k := by
  have e1 : keyL k = k := by unfold keyL; rw [if_neg (by omega)]
  have e2 : keyL (k ++ List.replicate n 0) = k ++ List.replicate n 0 := by unfold keyL; rw [if_neg (by rw [List.length_append, List.length_replicate]; omega)]
  unfold fillL
  rw [e1, e2, List.append_assoc, List.replicate_append_replicate, List.length_append, List.length_replicate, show n + (64 - (k.length + n)) = 64 - k.length from by omega]
theorem mac_key_sum (k b : ByteArray) (h : 64 < k.size) : macS (shaS k) b = macS k b := by
  unfold macS macL
  rw [show (shaS k).data.toList = shaL k.data.toList from by simp [shaS, str], fill_sum _ (by simpa using h)]
theorem mac_key_zeros (k b : ByteArray) (n : Nat) (h : k.size + n ≤ 64) : macS (k ++ zeros n) b = macS k b := by
  unfold macS macL
  rw [show (k ++ zeros n).data.toList = k.data.toList ++ List.replicate n 0 from by simp [zeros, str, ByteArray.data_append], fill_zeros _ n (by simpa using h)]

theorem mod_back3 (a M : Int) (h0 : 0 < M) (h1 : M ≤ 400) : (wrap64 (a.tmod M + M)).tmod M = a % M := by
  have h2 : -M < a.tmod M ∧ a.tmod M < M := ⟨Int.lt_tmod_of_pos a h0, Int.tmod_lt_of_pos a h0⟩
  have h3 : wrap64 (a.tmod M + M) = a.tmod M + M := IntWalk.wrap64_in _ ⟨by omega, by omega⟩
  have h4 := Int.tmod_eq_emod (a := a) (b := M)
  rw [h3, Int.tmod_eq_emod_of_nonneg (by omega), h4]
  split
  · rw [show a % M - ((0 : Nat) : Int) = a % M from by omega, Int.add_emod_right, Int.emod_emod_of_dvd a (Int.dvd_refl M)]
  · rw [show a % M - (M.natAbs : Int) + M = a % M from by omega, Int.emod_emod_of_dvd a (Int.dvd_refl M)]
theorem xor_back (x y : UInt8) (h : x ^^^ y = x) : y = 0 := by
  have : x ^^^ (x ^^^ y) = x ^^^ x := by rw [h]
  rwa [← UInt8.xor_assoc, UInt8.xor_self, UInt8.zero_xor] at this
/-- A text of which one byte is turned. -/
theorem turn_ne (l : List UInt8) (j : Nat) (x y : UInt8) (hx : l[j]? = some x) (hy : y ≠ 0) : ¬ str l = str (l.set j (x ^^^ y)) := by
  intro e
  have e' : l = l.set j (x ^^^ y) := by
    have := congrArg (fun s : ByteArray => s.data.toList) e
    simpa [str] using this
  have h2 : (l.set j (x ^^^ y))[j]? = some (x ^^^ y) := by
    rw [List.getElem?_set_self (List.getElem?_eq_some_iff.1 hx).1]
  rw [← e', hx] at h2
  exact hy (xor_back x y (Option.some.inj h2).symm)
theorem size_ne {a b : ByteArray} (h : a.size ≠ b.size) : ¬ a = b := fun e => h (by rw [e])
theorem bytes_hold {w : World} {g cap : Nat} {l : List UInt8} {M M1 : ByteArray} (h : BytesZ w g l) (hl : l.length = 32) (hM : M = str l) (hM1 : M1 = str (l.take 31)) :
    BytesZ w g l ∧ (convert 27 9 (.slice (some ⟨g, 0, none⟩) 32 cap)).run Try.prog w = .ok (.string M) w ∧ (convert 27 9 (.slice (some ⟨g, 0, none⟩) 31 cap)).run Try.prog w = .ok (.string M1) w := by
  subst hM hM1
  refine ⟨h, ?_, h.string 31 cap (by omega)⟩
  have := h.string 32 cap (by omega)
  rwa [List.take_of_length_le (by omega)] at this

theorem conv_new_drew (n : Nat) (hn : n ≤ 140737488355328) (W : World) :
    (convert 27 9 (.slice (some ⟨W.heap.size, 0, none⟩) n n)).run Try.prog (W.alloc (zeroRow n)).drew = .ok (.string (zeros n)) (W.alloc (zeroRow n)).drew :=
  conv8 n _ _ hn (heap_alloc_new W _)
theorem conv_after_drew {n : Nat} {Z : ByteArray} (hn : n ≤ 140737488355328) (hZ : Z = zeros n) {W w' : World} (b : Below (W.alloc (zeroRow n)).drew.heap.size (W.alloc (zeroRow n)).drew w') :
    (convert 27 9 (.slice (some ⟨W.heap.size, 0, none⟩) n n)).run Try.prog w' = .ok (.string Z) w' := by
  rw [hZ]
  exact conv8 n _ _ hn ((b.block _ (by show _ < (W.alloc (zeroRow n)).heap.size; simp)).trans (heap_alloc_new W _))

end Go.Proofs.Ytbnhahbnggojiaa
