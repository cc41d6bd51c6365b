/-
  Plain facts on key streams: zeros that are hidden, counters that come round, two texts hidden alike, a quarter round turned back.
-/
import Derived.Test.YtckcfgbcnefbhaaAlive5
import Derived.Test.YtckcfgbcnefbhaaOct12
import Derived.Test.YtckcfgbcnefbhaaSha6
namespace Go.Proofs.Ytckcfgbcnefbhaa
open Go.RowKit
set_option linter.unusedVariables false
set_option maxRecDepth 100000

theorem xorL_zeros (l : List UInt8) : xorL (List.replicate l.length 0) l = l := by
  induction l with
  | nil => rfl
  | cons x l ih =>
    show ((0 : UInt8) ^^^ x) :: xorL (List.replicate l.length 0) l = _
    rw [ih]; simp
theorem hide_zeros (key : ByteArray) (c : Int) (nonce : ByteArray) (n : Nat) : hideS key c nonce (zeros (64 * n)) = str (keysTo key c nonce n) := by
  rw [hideS_at key c nonce (zeros (64 * n)) n (by rw [zeros_size]; exact Nat.le_refl _)]
  unfold hideTo
  congr 1
  have h := xorL_zeros (keysTo key c nonce n)
  rw [keysTo_len] at h
  exact h
theorem keys_gen (F : Int → List UInt8) (c : Int) (hc : W32 c) (n : Nat) : ((List.range (n + 1)).map fun (i : Nat) => F (addI c (i : Int))).flatten = F c ++ ((List.range n).map fun (i : Nat) => F (addI (addI c 1) (i : Int))).flatten := by
  rw [List.range_succ_eq_map, List.map_cons, List.flatten_cons, List.map_map]
  have e0 : F (addI c ((0 : Nat) : Int)) = F c := by rw [show ((0 : Nat) : Int) = 0 from rfl, addI_zero hc]
  have e1 : ((List.range n).map ((fun (i : Nat) => F (addI c (i : Int))) ∘ Nat.succ)) = (List.range n).map fun (i : Nat) => F (addI (addI c 1) (i : Int)) := by
    apply List.map_congr_left
    intro i _
    rw [addI_addI]
    simp only [Function.comp, Nat.succ_eq_add_one]
    congr 2
    omega
  rw [e0, e1]
theorem keys_first (key : ByteArray) (c : Int) (nonce : ByteArray) (hc : W32 c) (n : Nat) : keysTo key c nonce (n + 1) = blockL key c nonce ++ keysTo key (addI c 1) nonce n :=
  keys_gen (fun c => blockL key c nonce) c hc n
theorem zip_mix : ∀ (a b k : List UInt8), a.length = b.length → a.length ≤ k.length → xorL (xorL a k) (xorL b k) = xorL a b
  | [], [], _, _, _ => rfl
  | x :: a, y :: b, z :: k, h1, h2 => by
    simp only [List.length_cons, Nat.add_right_cancel_iff, Nat.add_le_add_iff_right] at h1 h2
    show ((x ^^^ z) ^^^ (y ^^^ z)) :: xorL (xorL a k) (xorL b k) = (x ^^^ y) :: xorL a b
    rw [zip_mix a b k h1 h2]
    congr 1
    rw [UInt8.xor_comm y z, ← UInt8.xor_assoc, UInt8.xor_assoc x z z, UInt8.xor_self, UInt8.xor_zero]
  | [], _ :: _, _, h, _ => by cases h
  | _ :: _, [], _, h, _ => by cases h
  | _ :: _, _ :: _, [], _, h => by simp at h
theorem hide_mix (key : ByteArray) (c : Int) (nonce a b : ByteArray) (h : a.size = b.size) : xorS (hideS key c nonce a) (hideS key c nonce b) = xorS a b := by
  unfold xorS hideS
  congr 1
  have e1 : (str (hideTo key c nonce a a.size)).data.toList = hideTo key c nonce a a.size := by simp [str]
  have e2 : (str (hideTo key c nonce b b.size)).data.toList = hideTo key c nonce b b.size := by simp [str]
  rw [e1, e2]
  unfold hideTo
  rw [← h]
  exact zip_mix _ _ _ (by simpa using h) (by rw [keysTo_len]; simp; omega)

theorem str_cat6 (a b : List UInt8) : str a ++ str b = str (a ++ b) := by
  unfold str
  apply ByteArray.ext
  apply Array.toList_inj.1
  simp
/-- 'make([]byte, n)' and 'string(..)' of it. -/
theorem zeros_back {w : World} {g n : Nat} (h : RowIs w g 5 (cells8 (zeros8 n))) (hn : n ≤ 1000000) : (convert 33 9 (.slice (some ⟨g, 0, none⟩) n n)).run Try.prog w = .ok (.string (zeros n)) w := by
  have ho := RowIs.owns h (Nat.le_refl g) (by rw [cells8_len, zeros8_len]) (Nat.le_refl n) (by unfold maxLen; omega)
  rw [List.take_of_length_le (by rw [cells8_len, zeros8_len]; exact Nat.le_refl _)] at ho
  exact own_string ho

theorem xorI_back {a b : Int} (ha : W32 a) : xorI (xorI a b) b = a := by
  unfold xorI W32 at *
  rw [Int.toNat_natCast, Nat.xor_assoc, Nat.xor_self, Nat.xor_zero]
  omega
theorem rotl_back {x : Int} (n : Int) (h : W32 x) : rotl (rotl x n) (-n) = x := by
  rw [rotl_rotl x _ _ h.1 h.2, show n + -n = 0 from by omega]
  exact rotl_zero x 0 h.1 h.2 rfl
theorem addI_back {a b : Int} (ha : W32 a) : (addI a b - b) % 4294967296 = a := by unfold addI W32 at *; omega
/-- From what a quarter round tells, what it was told. -/
theorem back_b1 {a b c d : Int} (hb : W32 b) : xorI (rotl (qB a b c d) (-7)) (qC a b c d) = qB1 a b c d := by
  unfold qB
  rw [rotl_back 7 (xorI_w (qB1_w hb) (qC_w _ _ _ _)), xorI_back (qB1_w hb)]
theorem back_c1 (a b c d : Int) : (qC a b c d - qD a b c d) % 4294967296 = qC1 a b c d := addI_back (qC1_w a b c d)
theorem back_d1 {a b c d : Int} (hd : W32 d) : xorI (rotl (qD a b c d) (-8)) (qA a b c d) = qD1 a b d := by
  unfold qD
  rw [rotl_back 8 (xorI_w (qD1_w hd) (qA_w _ _ _ _)), xorI_back (qD1_w hd)]
theorem back_a1 (a b c d : Int) : (qA a b c d - qB1 a b c d) % 4294967296 = addI a b := addI_back (addI_w a b)
theorem back_b {a b c d : Int} (hb : W32 b) : xorI (rotl (qB1 a b c d) (-12)) (qC1 a b c d) = b := by
  unfold qB1
  rw [rotl_back 12 (xorI_w hb (qC1_w _ _ _ _)), xorI_back hb]
theorem back_c {a b c d : Int} (hc : W32 c) : (qC1 a b c d - qD1 a b d) % 4294967296 = c := addI_back hc
theorem back_d {a b d : Int} (hd : W32 d) : xorI (rotl (qD1 a b d) (-16)) (addI a b) = d := by
  unfold qD1
  rw [rotl_back 16 (xorI_w hd (addI_w _ _)), xorI_back hd]
theorem back_a {a b : Int} (ha : W32 a) : (addI a b - b) % 4294967296 = a := addI_back ha

end Go.Proofs.Ytckcfgbcnefbhaa
