/-
  Plain mathematics for chapter 6 (onetime): numbers as lists of digits to the base 256, the lowest first; what lies above the 130th bit. No program is named here.
-/
import Derived.Test.YtjccdfnhcifgiaaOct0
namespace Go.Proofs.Ytjccdfnhcifgiaa
open Go.RowKit
set_option linter.unusedVariables false
set_option maxRecDepth 100000

/-- The number of a list of digits. -/
def valD : List Int → Int
  | [] => 0
  | d :: l => d + 256 * valD l
def allD (l : List Int) : Prop := ∀ d ∈ l, 0 ≤ d ∧ d < 256
theorem allD_nil : allD [] := fun _ h => by cases h
theorem allD_cons {d : Int} {l : List Int} (h : allD (d :: l)) : (0 ≤ d ∧ d < 256) ∧ allD l := ⟨h d (by simp), fun x hx => h x (by simp [hx])⟩
theorem allD_append {a b : List Int} (ha : allD a) (hb : allD b) : allD (a ++ b) := fun d hd => by
  rcases List.mem_append.1 hd with h | h
  · exact ha d h
  · exact hb d h
theorem allD_one {d : Int} (h : 0 ≤ d ∧ d < 256) : allD [d] := fun x hx => by rw [List.mem_singleton] at hx; exact hx ▸ h
theorem valD_append (a b : List Int) : valD (a ++ b) = valD a + 256 ^ a.length * valD b := by
  induction a with
  | nil => simp [valD]
  | cons d a ih =>
    simp only [List.cons_append, valD, ih, List.length_cons, Int.pow_succ]
    rw [Int.mul_add, Int.add_assoc, show (256 : Int) * (256 ^ a.length * valD b) = 256 ^ a.length * 256 * valD b from by rw [← Int.mul_assoc, Int.mul_comm 256]]
theorem valD_nonneg {l : List Int} (h : ∀ d ∈ l, 0 ≤ d) : 0 ≤ valD l := by
  induction l with
  | nil => exact Int.le_refl 0
  | cons d l ih =>
    have h1 := h d (by simp)
    have h2 := ih (fun x hx => h x (by simp [hx]))
    simp only [valD]
    omega
theorem valD_bd {l : List Int} (h : allD l) : 0 ≤ valD l ∧ valD l < 256 ^ l.length := by
  induction l with
  | nil => exact ⟨Int.le_refl 0, by decide⟩
  | cons d l ih =>
    have h1 := allD_cons h
    have h2 := ih h1.2
    simp only [valD, List.length_cons, Int.pow_succ]
    omega
theorem valD_zeros (n : Nat) : valD (List.replicate n 0) = 0 := by
  induction n with
  | zero => rfl
  | succ n ih => simp [List.replicate_succ, valD, ih]
/-- Digits are told by their number. -/
theorem valD_inj : ∀ {a b : List Int}, allD a → allD b → a.length = b.length → valD a = valD b → a = b
  | [], [], _, _, _, _ => rfl
  | x :: a, y :: b, ha, hb, hl, hv => by
    have h1 := allD_cons ha
    have h2 := allD_cons hb
    simp only [valD] at hv
    have e1 : x = y := by omega
    have e2 : valD a = valD b := by omega
    rw [e1, valD_inj h1.2 h2.2 (by simpa using hl) e2]
  | [], _ :: _, _, _, hl, _ => by cases hl
  | _ :: _, [], _, _, hl, _ => by cases hl

/-! Carrying. -/
theorem carry_step (out : List Int) (c : Int) : valD (out ++ [c % 256]) + 256 ^ (out.length + 1) * (c / 256) = valD out + 256 ^ out.length * c := by
  rw [valD_append, Int.pow_succ]
  have e : c = c % 256 + 256 * (c / 256) := by omega
  have e2 : valD [c % 256] = c % 256 := by simp [valD]
  rw [e2]
  generalize (256 : Int) ^ out.length = p at *
  rw [Int.mul_assoc, Int.add_assoc, ← Int.mul_add, ← e]
theorem valD_take (x : List Int) (k : Nat) (h : k < x.length) : valD (x.take (k + 1)) = valD (x.take k) + 256 ^ k * x.getD k 0 := by
  rw [List.take_succ_eq_append_getElem h, valD_append, List.length_take, Nat.min_eq_left (by omega), List.getD_eq_getElem?_getD, List.getElem?_eq_getElem h]
  simp [valD]
theorem valD_pad (l : List Int) (n : Nat) : valD (l ++ List.replicate n 0) = valD l := by rw [valD_append, valD_zeros]; simp
/-- What stands behind the digits that a number needs is 0. -/
theorem valD_drop {l : List Int} (h : allD l) (n : Nat) (hn : n ≤ l.length) (hv : valD l < 256 ^ n) : valD (l.take n) = valD l := by
  have e : valD l = valD (l.take n) + 256 ^ n * valD (l.drop n) := by
    have := valD_append (l.take n) (l.drop n)
    rw [List.take_append_drop, List.length_take, Nat.min_eq_left hn] at this
    exact this
  have h1 : allD (l.take n) := fun d hd => h d (List.mem_of_mem_take hd)
  have h2 : allD (l.drop n) := fun d hd => h d (List.mem_of_mem_drop hd)
  have b1 := (valD_bd h1).1
  have b2 := (valD_bd h2).1
  have hp : (0 : Int) < 256 ^ n := Int.pow_pos (by decide)
  have h3 : valD (l.drop n) = 0 := by
    by_cases hz : 0 < valD (l.drop n)
    · exfalso
      have : (256 : Int) ^ n * 1 ≤ 256 ^ n * valD (l.drop n) := Int.mul_le_mul_of_nonneg_left (by omega) (Int.le_of_lt hp)
      omega
    · omega
  rw [e, h3]; simp

/-! What lies above the 130th bit: the digits from place 16 on, a quarter of them. -/
def partsD : List Int → List Int
  | [] => []
  | d :: l => (d / 4 + l.headD 0 % 4 * 64) :: partsD l
theorem partsD_len (l : List Int) : (partsD l).length = l.length := by
  induction l with
  | nil => rfl
  | cons d l ih => simp [partsD, ih]
theorem partsD_val {l : List Int} (h : allD l) : valD l = 4 * valD (partsD l) + l.headD 0 % 4 := by
  induction l with
  | nil => rfl
  | cons d l ih =>
    have h1 := allD_cons h
    have h2 := ih h1.2
    simp only [valD, partsD, List.headD_cons]
    omega
theorem partsD_nonneg {l : List Int} (h : allD l) : ∀ d ∈ partsD l, 0 ≤ d ∧ d < 256 := by
  induction l with
  | nil => intro d hd; cases hd
  | cons x l ih =>
    have h1 := allD_cons h
    intro d hd
    simp only [partsD, List.mem_cons] at hd
    rcases hd with rfl | hd
    · omega
    · exact ih h1.2 d hd
/-- A number below 2^130 and what lies above it. -/
theorem split130 {x : List Int} (h : allD x) (hl : 17 ≤ x.length) : valD x = (valD (x.take 16) + 256 ^ 16 * (x.getD 16 0 % 4)) + 1361129467683753853853498429727072845824 * valD (partsD (x.drop 16)) := by
  have e : valD x = valD (x.take 16) + 256 ^ 16 * valD (x.drop 16) := by
    have := valD_append (x.take 16) (x.drop 16)
    rw [List.take_append_drop, List.length_take, Nat.min_eq_left (by omega)] at this
    exact this
  have h2 : allD (x.drop 16) := fun d hd => h d (List.mem_of_mem_drop hd)
  have e2 := partsD_val h2
  have e3 : (x.drop 16).headD 0 = x.getD 16 0 := by
    rw [List.drop_eq_getElem_cons (by omega), List.headD_cons, List.getD_eq_getElem?_getD, List.getElem?_eq_getElem (by omega)]
    rfl
  rw [e3] at e2
  rw [e, e2]
  have e4 : (256 : Int) ^ 16 = 340282366920938463463374607431768211456 := by decide
  rw [e4]
  omega
theorem low130 {x : List Int} (h : allD x) (hl : 17 ≤ x.length) : 0 ≤ valD (x.take 16) + 256 ^ 16 * (x.getD 16 0 % 4) ∧ valD (x.take 16) + 256 ^ 16 * (x.getD 16 0 % 4) < 1361129467683753853853498429727072845824 := by
  have h1 : allD (x.take 16) := fun d hd => h d (List.mem_of_mem_take hd)
  have b := valD_bd h1
  rw [List.length_take, Nat.min_eq_left (by omega)] at b
  have e4 : (256 : Int) ^ 16 = 340282366920938463463374607431768211456 := by decide
  rw [e4] at *
  omega

/-! The rest by 2^130 - 5. -/
def p130 : Int := 1361129467683753853853498429727072845819
/-- One fold: the same rest, and less, where there is anything above. -/
theorem fold_rest (lo hi : Int) : (lo + 5 * hi) % p130 = (lo + 1361129467683753853853498429727072845824 * hi) % p130 := by
  unfold p130
  omega
theorem fold_less (lo hi : Int) (h : 0 < hi) : lo + 5 * hi < lo + 1361129467683753853853498429727072845824 * hi := by omega
/-- The last step: a number below 2^130 is the rest, or 2^130 - 5 more than it. -/
theorem rest_last (v : Int) (h0 : 0 ≤ v) (h1 : v < 1361129467683753853853498429727072845824) : v % p130 = if 1361129467683753853853498429727072845824 ≤ v + 5 then v + 5 - 1361129467683753853853498429727072845824 else v := by
  unfold p130
  split <;> omega

/-- The number of bytes, the lowest first. -/
def leV (l : List UInt8) : Int := valD (l.map fun b => (b.toNat : Int))
theorem leD (l : List UInt8) : allD (l.map fun b => (b.toNat : Int)) := by
  intro d hd
  obtain ⟨b, _, rfl⟩ := List.mem_map.1 hd
  have := b.toNat_lt
  omega
theorem leV_bd (l : List UInt8) : 0 ≤ leV l ∧ leV l < 256 ^ l.length := by
  have := valD_bd (leD l)
  rwa [List.length_map] at this
/-- The accumulator behind the first k groups of 16 bytes (a key's first half r). -/
def accTo (r : Int) (b : List UInt8) : Nat → Int
  | 0 => 0
  | k + 1 => ((accTo r b k + leV (((b.drop (16 * k)).take 16) ++ [1])) * r) % p130
theorem accTo_bd (r : Int) (b : List UInt8) : ∀ k, 0 ≤ accTo r b k ∧ accTo r b k < p130
  | 0 => ⟨Int.le_refl 0, show (0 : Int) < p130 by decide⟩
  | k + 1 => ⟨Int.emod_nonneg _ (by decide), Int.emod_lt_of_pos _ (by decide)⟩
/-- The rest of a product does not hang on which number of that rest is multiplied. -/
theorem rest_mul (a b m r : Int) (h : a % p130 = b % p130) : ((a + m) * r) % p130 = ((b + m) * r) % p130 := by
  rw [Int.mul_emod, Int.add_emod, h, ← Int.add_emod, ← Int.mul_emod]

end Go.Proofs.Ytjccdfnhcifgiaa
