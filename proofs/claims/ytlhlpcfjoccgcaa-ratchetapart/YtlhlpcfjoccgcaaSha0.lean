/-
  Plain mathematics for chapter 2 (digest): SHA-256 over words and bytes. No program is named here.
-/
import Derived.Test.YtlhlpcfjoccgcaaOct0
namespace Go.Proofs.Ytlhlpcfjoccgcaa
open Go.RowKit

def xorI (a b : Int) : Int := ((a.toNat ^^^ b.toNat : Nat) : Int)
def andI (a b : Int) : Int := ((a.toNat &&& b.toNat : Nat) : Int)
def addI (a b : Int) : Int := (a + b) % 4294967296
def W32 (x : Int) : Prop := 0 ≤ x ∧ x < 4294967296

theorem xorI_w {a b : Int} (ha : W32 a) (hb : W32 b) : W32 (xorI a b) := by
  unfold W32 xorI at *
  have : a.toNat ^^^ b.toNat < 2 ^ 32 := Nat.xor_lt_two_pow (by omega) (by omega)
  omega
theorem andI_w {a b : Int} (ha : W32 a) : W32 (andI a b) := by
  unfold W32 andI at *
  have : a.toNat &&& b.toNat ≤ a.toNat := Nat.and_le_left
  omega
theorem addI_w (a b : Int) : W32 (addI a b) := by unfold W32 addI; omega
theorem rotl_w {x : Int} (n : Int) (h : W32 x) : W32 (rotl x n) := rotl_bd x n h.1 h.2
theorem bxor_eq {a b : Int} (ha : W32 a) (hb : W32 b) : bits BinOp.xor IntKind.u32 a b = xorI a b := u32_xor a b ha.1 ha.2 hb.1 hb.2
theorem band_eq {a b : Int} (ha : W32 a) (hb : W32 b) : bits BinOp.and IntKind.u32 a b = andI a b := u32_and a b ha.1 ha.2 hb.1 hb.2
theorem div_w {x : Int} (k : Int) (h : W32 x) (hk : 0 < k) : W32 (x / k) := by
  unfold W32 at *
  refine ⟨Int.ediv_nonneg h.1 (by omega), ?_⟩
  have : x / k ≤ x := Int.ediv_le_self _ h.1
  omega
theorem not_w {x : Int} (h : W32 x) : W32 (4294967295 - x) := by unfold W32 at *; omega
theorem bnot_eq {x : Int} (h : W32 x) : bits BinOp.xor IntKind.u32 4294967295 x = 4294967295 - x := by
  rw [bxor_eq (by unfold W32; omega) h]
  unfold xorI W32 at *
  obtain ⟨n, rfl⟩ := Int.eq_ofNat_of_zero_le h.1
  simp only [Int.toNat_natCast]
  have e : (4294967295 : Int).toNat ^^^ n = 4294967295 - n := by
    rw [show (4294967295 : Int).toNat = 2 ^ 32 - 1 from rfl]
    apply Nat.eq_of_testBit_eq
    intro i
    rw [Nat.testBit_xor, Nat.testBit_two_pow_sub_one, show (4294967295 : Nat) - n = 2 ^ 32 - (n + 1) from by omega, Nat.testBit_two_pow_sub_succ (by omega)]
    by_cases hi : i < 32
    · simp [hi]
    · have : n.testBit i = false := Nat.testBit_lt_two_pow (Nat.lt_of_lt_of_le (show n < 2 ^ 32 from by omega) (Nat.pow_le_pow_right (by decide) (by omega)))
      simp [hi, this]
  rw [e]
  omega

def sg0 (x : Int) : Int := xorI (xorI (rotl x (-7)) (rotl x (-18))) (x / 8)
def sg1 (x : Int) : Int := xorI (xorI (rotl x (-17)) (rotl x (-19))) (x / 1024)
def bs0 (x : Int) : Int := xorI (xorI (rotl x (-2)) (rotl x (-13))) (rotl x (-22))
def bs1 (x : Int) : Int := xorI (xorI (rotl x (-6)) (rotl x (-11))) (rotl x (-25))
def chI (e f g : Int) : Int := xorI (andI e f) (andI (4294967295 - e) g)
def majI (a b c : Int) : Int := xorI (xorI (andI a b) (andI a c)) (andI b c)
theorem sg0_w {x : Int} (h : W32 x) : W32 (sg0 x) := xorI_w (xorI_w (rotl_w _ h) (rotl_w _ h)) (div_w _ h (by decide))
theorem sg1_w {x : Int} (h : W32 x) : W32 (sg1 x) := xorI_w (xorI_w (rotl_w _ h) (rotl_w _ h)) (div_w _ h (by decide))
theorem bs0_w {x : Int} (h : W32 x) : W32 (bs0 x) := xorI_w (xorI_w (rotl_w _ h) (rotl_w _ h)) (rotl_w _ h)
theorem bs1_w {x : Int} (h : W32 x) : W32 (bs1 x) := xorI_w (xorI_w (rotl_w _ h) (rotl_w _ h)) (rotl_w _ h)
theorem chI_w {e f g : Int} (he : W32 e) : W32 (chI e f g) := xorI_w (andI_w he) (andI_w (not_w he))
theorem majI_w {a b c : Int} (ha : W32 a) (hb : W32 b) : W32 (majI a b c) := xorI_w (xorI_w (andI_w ha) (andI_w ha)) (andI_w hb)

/-- Eight words. -/
structure S8 where
  a : Int
  b : Int
  c : Int
  d : Int
  e : Int
  f : Int
  g : Int
  h : Int
def S8.list (s : S8) : List Int := [s.a, s.b, s.c, s.d, s.e, s.f, s.g, s.h]
def S8.ok (s : S8) : Prop := W32 s.a ∧ W32 s.b ∧ W32 s.c ∧ W32 s.d ∧ W32 s.e ∧ W32 s.f ∧ W32 s.g ∧ W32 s.h
def S8.plus (s t : S8) : S8 := ⟨addI s.a t.a, addI s.b t.b, addI s.c t.c, addI s.d t.d, addI s.e t.e, addI s.f t.f, addI s.g t.g, addI s.h t.h⟩
theorem S8.plus_ok (s t : S8) : (s.plus t).ok := ⟨addI_w _ _, addI_w _ _, addI_w _ _, addI_w _ _, addI_w _ _, addI_w _ _, addI_w _ _, addI_w _ _⟩

def t1I (k w : Int) (s : S8) : Int := addI (addI (addI (addI s.h (bs1 s.e)) (chI s.e s.f s.g)) k) w
def t2I (s : S8) : Int := addI (bs0 s.a) (majI s.a s.b s.c)
/-- One round. -/
def rnd (k w : Int) (s : S8) : S8 := ⟨addI (t1I k w s) (t2I s), s.a, s.b, s.c, addI s.d (t1I k w s), s.e, s.f, s.g⟩
theorem rnd_ok {k w : Int} {s : S8} (h : s.ok) : (rnd k w s).ok := by
  obtain ⟨h1, h2, h3, h4, h5, h6, h7, h8⟩ := h
  exact ⟨addI_w _ _, h1, h2, h3, addI_w _ _, h5, h6, h7⟩
/-- The first t rounds. -/
def rnds (ks ws : List Int) : Nat → S8 → S8
  | 0, s => s
  | t + 1, s => rnd (ks.getD t 0) (ws.getD t 0) (rnds ks ws t s)
theorem rnds_ok (ks ws : List Int) (t : Nat) {s : S8} (h : s.ok) : (rnds ks ws t s).ok := by
  induction t with
  | zero => exact h
  | succ t ih => exact rnd_ok ih

/-- The number that bytes are, the highest first. -/
def num4 (l : List UInt8) : Int := l.foldl (fun v b => v * 256 + (b.toNat : Int)) 0
def wNext (blk : List UInt8) (l : List Int) : Int :=
  if l.length < 16 then num4 ((blk.drop (4 * l.length)).take 4)
  else addI (addI (addI (l.getD (l.length - 16) 0) (sg0 (l.getD (l.length - 15) 0))) (l.getD (l.length - 7) 0)) (sg1 (l.getD (l.length - 2) 0))
/-- The first t words of a block's schedule. -/
def wTo (blk : List UInt8) : Nat → List Int
  | 0 => []
  | t + 1 => wTo blk t ++ [wNext blk (wTo blk t)]
theorem wTo_len (blk : List UInt8) (t : Nat) : (wTo blk t).length = t := by
  induction t with
  | zero => rfl
  | succ t ih => simp [wTo, ih]

def kTab : List Int := [
  0x428a2f98, 0x71374491, 0xb5c0fbcf, 0xe9b5dba5, 0x3956c25b, 0x59f111f1, 0x923f82a4, 0xab1c5ed5,
  0xd807aa98, 0x12835b01, 0x243185be, 0x550c7dc3, 0x72be5d74, 0x80deb1fe, 0x9bdc06a7, 0xc19bf174,
  0xe49b69c1, 0xefbe4786, 0x0fc19dc6, 0x240ca1cc, 0x2de92c6f, 0x4a7484aa, 0x5cb0a9dc, 0x76f988da,
  0x983e5152, 0xa831c66d, 0xb00327c8, 0xbf597fc7, 0xc6e00bf3, 0xd5a79147, 0x06ca6351, 0x14292967,
  0x27b70a85, 0x2e1b2138, 0x4d2c6dfc, 0x53380d13, 0x650a7354, 0x766a0abb, 0x81c2c92e, 0x92722c85,
  0xa2bfe8a1, 0xa81a664b, 0xc24b8b70, 0xc76c51a3, 0xd192e819, 0xd6990624, 0xf40e3585, 0x106aa070,
  0x19a4c116, 0x1e376c08, 0x2748774c, 0x34b0bcb5, 0x391c0cb3, 0x4ed8aa4a, 0x5b9cca4f, 0x682e6ff3,
  0x748f82ee, 0x78a5636f, 0x84c87814, 0x8cc70208, 0x90befffa, 0xa4506ceb, 0xbef9a3f7, 0xc67178f2]
def hZero : S8 := ⟨0x6a09e667, 0xbb67ae85, 0x3c6ef372, 0xa54ff53a, 0x510e527f, 0x9b05688c, 0x1f83d9ab, 0x5be0cd19⟩
theorem hZero_ok : hZero.ok := by unfold S8.ok W32 hZero; decide
theorem kTab_len : kTab.length = 64 := rfl
theorem kTab_w : ∀ x ∈ kTab, W32 x := by unfold W32; decide

/-- What a block makes of a state. -/
def comp (s : S8) (blk : List UInt8) : S8 := s.plus (rnds kTab (wTo blk 64) 64 s)
theorem comp_ok (s : S8) (blk : List UInt8) : (comp s blk).ok := S8.plus_ok _ _
/-- The state behind the first n blocks. -/
def absorb (bs : List UInt8) : Nat → S8
  | 0 => hZero
  | n + 1 => comp (absorb bs n) ((bs.drop (64 * n)).take 64)
theorem absorb_ok (bs : List UInt8) (n : Nat) : (absorb bs n).ok := by
  cases n with
  | zero => exact hZero_ok
  | succ n => exact comp_ok _ _
theorem absorb_append (bs x : List UInt8) (n : Nat) (h : 64 * n ≤ bs.length) : absorb (bs ++ x) n = absorb bs n := by
  induction n with
  | zero => rfl
  | succ n ih =>
    simp only [absorb]
    rw [ih (by omega), List.drop_append_of_le_length (by omega), List.take_append_of_le_length (by simp; omega)]

def padZ (n : Nat) : Nat := (64 - (n + 9) % 64) % 64
def padL (n : Nat) : List UInt8 := (128 :: List.replicate (padZ n) 0) ++ putBig (8 * (n : Int)) 8
theorem putBig8_len (v : Int) : (putBig v 8).length = 8 := by simp [putBig]
theorem putBig4_len (v : Int) : (putBig v 4).length = 4 := by simp [putBig]
theorem padL_len (n : Nat) : (padL n).length = 9 + padZ n := by simp [padL, putBig8_len]; omega
def told (s : S8) : List UInt8 := (s.list.map fun v => putBig v 4).flatten
theorem told_len (s : S8) : (told s).length = 32 := by simp [told, S8.list, putBig4_len]
def shaL (bs : List UInt8) : List UInt8 := told (absorb (bs ++ padL bs.length) ((bs.length + 9 + padZ bs.length) / 64))
def shaS (b : ByteArray) : ByteArray := str (shaL b.data.toList)
theorem shaL_len (bs : List UInt8) : (shaL bs).length = 32 := told_len _
theorem shaS_size (b : ByteArray) : (shaS b).size = 32 := by rw [shaS, str_size, shaL_len]

end Go.Proofs.Ytlhlpcfjoccgcaa
