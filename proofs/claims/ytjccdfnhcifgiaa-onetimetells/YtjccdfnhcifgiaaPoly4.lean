/-
  What numbers of five limbs come to, modulo 2^130 - 5. No program is named here but in what is imported.
-/
import Derived.Test.YtjccdfnhcifgiaaPoly3
namespace Go.Proofs.Ytjccdfnhcifgiaa
open Go.RowKit
set_option linter.unusedVariables false
set_option maxRecDepth 100000

/-- The number of limbs. -/
def valN : List Int → Int
  | [] => 0
  | d :: l => d + 67108864 * valN l
theorem valN_set (v : Int) : ∀ (l : List Int) (j : Nat), j < l.length → valN (l.set j v) = valN l + 67108864 ^ j * (v - l.getD j 0)
  | [], j, h => by simp at h
  | d :: l, 0, h => by simp [valN]; omega
  | d :: l, j + 1, h => by
    have := valN_set v l j (by simpa using h)
    simp only [List.set_cons_succ, valN, this, List.getD_cons_succ, Int.pow_succ]
    rw [Int.mul_add, Int.add_assoc, ← Int.mul_assoc, Int.mul_comm 67108864 (67108864 ^ j)]
theorem valN_take : ∀ (l : List Int) (k : Nat), k < l.length → valN (l.take (k + 1)) = valN (l.take k) + 67108864 ^ k * l.getD k 0
  | [], k, h => by simp at h
  | d :: l, 0, h => by simp [valN]
  | d :: l, k + 1, h => by
    have := valN_take l k (by simpa using h)
    simp only [List.take_succ_cons, valN, this, List.getD_cons_succ, Int.pow_succ]
    rw [Int.mul_add, Int.add_assoc, ← Int.mul_assoc, Int.mul_comm 67108864 (67108864 ^ k)]

/-- Settled limbs, the second of which may be by less than 2^15 above. -/
def Settled (y : List Int) : Prop := y.length = 5 ∧ allB y 67141632 ∧ y.getD 0 0 < 67108864 ∧ y.getD 2 0 < 67108864 ∧ y.getD 3 0 < 67108864 ∧ y.getD 4 0 < 67108864
/-- All limbs below 2^26. -/
def Fair (y : List Int) : Prop := y.length = 5 ∧ allB y 67108864

theorem allB_five {a b c d e n : Int} (hn : 0 < n) (ha : 0 ≤ a ∧ a < n) (hb : 0 ≤ b ∧ b < n) (hc : 0 ≤ c ∧ c < n) (hd : 0 ≤ d ∧ d < n) (he : 0 ≤ e ∧ e < n) : allB [a, b, c, d, e] n := fun j => by
  match j with
  | 0 => exact ha
  | 1 => exact hb
  | 2 => exact hc
  | 3 => exact hd
  | 4 => exact he
  | _ + 5 => exact ⟨Int.le_refl 0, hn⟩
theorem allB_mono {x : List Int} {m n : Int} (h : allB x m) (hm : m ≤ n) : allB x n := fun j => ⟨(h j).1, Int.lt_of_lt_of_le (h j).2 hm⟩
theorem allB_z5 (n : Int) (hn : 0 < n) : allB z5 n := allB_five hn ⟨Int.le_refl 0, hn⟩ ⟨Int.le_refl 0, hn⟩ ⟨Int.le_refl 0, hn⟩ ⟨Int.le_refl 0, hn⟩ ⟨Int.le_refl 0, hn⟩

theorem setL_five (a b c d e : Int) (ha : 0 ≤ a ∧ a < 4611686018427387904) (hb : 0 ≤ b ∧ b < 4611686018427387904) (hc : 0 ≤ c ∧ c < 4611686018427387904) (hd : 0 ≤ d ∧ d < 4611686018427387904) (he : 0 ≤ e ∧ e < 4611686018427387904) :
    ∃ y0 y1 y2 y3 y4 o : Int, setL [a, b, c, d, e] = [y0, y1, y2, y3, y4] ∧ 0 ≤ o ∧ (0 ≤ y0 ∧ y0 < 67108864) ∧ (0 ≤ y1 ∧ y1 < 67141632) ∧ (0 ≤ y2 ∧ y2 < 67108864) ∧ (0 ≤ y3 ∧ y3 < 67108864) ∧ (0 ≤ y4 ∧ y4 < 67108864) ∧
      valN [a, b, c, d, e] = valN [y0, y1, y2, y3, y4] + o * 1361129467683753853853498429727072845819 ∧ o = valN [a, b, c, d, e] / 1361129467683753853853498429727072845824 ∧ (o = 0 → y1 < 67108864) := by
  have e1 := carL_five a b c d e
  have e2 := carO_five a b c d e
  obtain ⟨c1, hc1⟩ : ∃ c1, c1 = (0 + a) / 67108864 := ⟨_, rfl⟩
  obtain ⟨x0, hx0⟩ : ∃ x0, x0 = (0 + a) % 67108864 := ⟨_, rfl⟩
  rw [← hc1, ← hx0] at e1
  rw [← hc1] at e2
  obtain ⟨c2, hc2⟩ : ∃ c2, c2 = (c1 + b) / 67108864 := ⟨_, rfl⟩
  obtain ⟨x1, hx1⟩ : ∃ x1, x1 = (c1 + b) % 67108864 := ⟨_, rfl⟩
  rw [← hc2, ← hx1] at e1
  rw [← hc2] at e2
  obtain ⟨c3, hc3⟩ : ∃ c3, c3 = (c2 + c) / 67108864 := ⟨_, rfl⟩
  obtain ⟨x2, hx2⟩ : ∃ x2, x2 = (c2 + c) % 67108864 := ⟨_, rfl⟩
  rw [← hc3, ← hx2] at e1
  rw [← hc3] at e2
  obtain ⟨c4, hc4⟩ : ∃ c4, c4 = (c3 + d) / 67108864 := ⟨_, rfl⟩
  obtain ⟨x3, hx3⟩ : ∃ x3, x3 = (c3 + d) % 67108864 := ⟨_, rfl⟩
  rw [← hc4, ← hx3] at e1
  rw [← hc4] at e2
  obtain ⟨c5, hc5⟩ : ∃ c5, c5 = (c4 + e) / 67108864 := ⟨_, rfl⟩
  obtain ⟨x4, hx4⟩ : ∃ x4, x4 = (c4 + e) % 67108864 := ⟨_, rfl⟩
  rw [← hx4] at e1
  rw [← hc5] at e2
  have es : setL [a, b, c, d, e] = [(x0 + 5 * c5) % 67108864, x1 + (x0 + 5 * c5) / 67108864, x2, x3, x4] := by
    unfold setL
    rw [e1, e2]
    rfl
  have f1 : 0 ≤ c1 ∧ c1 < 137438953472 ∧ 0 ≤ x0 ∧ x0 < 67108864 ∧ a = x0 + 67108864 * c1 := by omega
  have f2 : 0 ≤ c2 ∧ c2 < 137438953472 ∧ 0 ≤ x1 ∧ x1 < 67108864 ∧ c1 + b = x1 + 67108864 * c2 := by omega
  have f3 : 0 ≤ c3 ∧ c3 < 137438953472 ∧ 0 ≤ x2 ∧ x2 < 67108864 ∧ c2 + c = x2 + 67108864 * c3 := by omega
  have f4 : 0 ≤ c4 ∧ c4 < 137438953472 ∧ 0 ≤ x3 ∧ x3 < 67108864 ∧ c3 + d = x3 + 67108864 * c4 := by omega
  have f5 : 0 ≤ c5 ∧ c5 < 137438953472 ∧ 0 ≤ x4 ∧ x4 < 67108864 ∧ c4 + e = x4 + 67108864 * c5 := by omega
  clear hc1 hx0 hc2 hx1 hc3 hx2 hc4 hx3 hc5 hx4 e1 e2 ha hb hc hd he
  obtain ⟨q, hq⟩ : ∃ q, q = (x0 + 5 * c5) / 67108864 := ⟨_, rfl⟩
  obtain ⟨m, hm⟩ : ∃ m, m = (x0 + 5 * c5) % 67108864 := ⟨_, rfl⟩
  rw [← hq, ← hm] at es
  have f6 : 0 ≤ q ∧ q < 32768 ∧ 0 ≤ m ∧ m < 67108864 ∧ x0 + 5 * c5 = m + 67108864 * q := by omega
  clear hq hm
  have hv : valN [a, b, c, d, e] = valN [x0, x1, x2, x3, x4] + c5 * 1361129467683753853853498429727072845824 := by
    simp only [valN]
    omega
  have hv2 : 0 ≤ valN [x0, x1, x2, x3, x4] ∧ valN [x0, x1, x2, x3, x4] < 1361129467683753853853498429727072845824 := by
    simp only [valN]
    omega
  have hv3 : valN [m, x1 + q, x2, x3, x4] = valN [x0, x1, x2, x3, x4] + 5 * c5 := by
    simp only [valN]
    omega
  refine ⟨m, x1 + q, x2, x3, x4, c5, es, f5.1, ⟨f6.2.2.1, f6.2.2.2.1⟩, ?_, ⟨f3.2.2.1, f3.2.2.2.1⟩, ⟨f4.2.2.1, f4.2.2.2.1⟩, ⟨f5.2.2.1, f5.2.2.2.1⟩, ?_, ?_, ?_⟩
  · omega
  · rw [hv, hv3]; omega
  · rw [hv]; omega
  · intro h; omega

theorem setL_spec (x : List Int) (hl : x.length = 5) (hb : allB x 4611686018427387904) : Settled (setL x) ∧ valN (setL x) % p130 = valN x % p130 := by
  obtain ⟨a, b, c, d, e, rfl⟩ := five_of x hl
  obtain ⟨y0, y1, y2, y3, y4, o, hs, ho, h0, h1, h2, h3, h4, hv, _, _⟩ := setL_five a b c d e (hb 0) (hb 1) (hb 2) (hb 3) (hb 4)
  rw [hs]
  refine ⟨⟨rfl, allB_five (by decide) ⟨h0.1, by omega⟩ h1 ⟨h2.1, by omega⟩ ⟨h3.1, by omega⟩ ⟨h4.1, by omega⟩, h0.2, h2.2, h3.2, h4.2⟩, ?_⟩
  rw [hv]
  generalize valN [y0, y1, y2, y3, y4] = v
  unfold p130
  omega
/-- Settled once more: no limb is above 26 bits, the number is below 2^130. -/
theorem setL_fair (x : List Int) (h : Settled x) : Fair (setL x) ∧ valN (setL x) % p130 = valN x % p130 := by
  obtain ⟨hl, hb, g0, g2, g3, g4⟩ := h
  have hb2 : allB x 4611686018427387904 := allB_mono hb (by decide)
  obtain ⟨a, b, c, d, e, rfl⟩ := five_of x hl
  have r := (setL_spec _ hl hb2).2
  obtain ⟨y0, y1, y2, y3, y4, o, hs, ho, h0, h1, h2, h3, h4, hv, hq, h5⟩ := setL_five a b c d e (hb2 0) (hb2 1) (hb2 2) (hb2 3) (hb2 4)
  have k0 : 0 ≤ a ∧ a < 67108864 := ⟨(hb 0).1, g0⟩
  have k1 : 0 ≤ b ∧ b < 67141632 := hb 1
  have k2 : 0 ≤ c ∧ c < 67108864 := ⟨(hb 2).1, g2⟩
  have k3 : 0 ≤ d ∧ d < 67108864 := ⟨(hb 3).1, g3⟩
  have k4 : 0 ≤ e ∧ e < 67108864 := ⟨(hb 4).1, g4⟩
  have y1b : y1 < 67108864 := by
    simp only [valN] at hv hq
    clear hs r hb hb2 g0 g2 g3 g4
    have ho1 : o = 0 ∨ o = 1 := by omega
    rcases ho1 with rfl | rfl
    · exact h5 rfl
    · omega
  refine ⟨?_, r⟩
  rw [hs]
  exact ⟨rfl, allB_five (by decide) h0 ⟨h1.1, y1b⟩ h2 h3 h4⟩

end Go.Proofs.Ytjccdfnhcifgiaa
