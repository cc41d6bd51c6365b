/-
  What package command's Get takes out of bytes: plain mathematics.
-/
import Derived.Test.YtogfobmbmimpgaaCom7
namespace Go.Proofs.Ytogfobmbmimpgaa
open Go.RowKit
set_option linter.unusedVariables false
set_option maxRecDepth 100000
set_option linter.unusedSimpArgs false

theorem tkV_list {s : ByteArray} {n : Nat} (h : n ≤ s.size) : (tkV s n).data.toList = s.data.toList.take n := by
  unfold tkV
  rw [if_pos h, ByteArray.data_extract, Array.toList_extract]
  simp
theorem tkR_list {s : ByteArray} {n : Nat} (h : n ≤ s.size) : (tkR s n).data.toList = s.data.toList.drop n := by
  unfold tkR
  rw [if_pos h, ByteArray.data_extract, Array.toList_extract]
  simp
  rw [List.take_of_length_le (by simp)]
theorem tkR_size {s : ByteArray} {n : Nat} (h : n ≤ s.size) : (tkR s n).size = s.size - n := by
  unfold tkR
  rw [if_pos h, ByteArray.size_extract]
  omega
theorem tkB_false {s : ByteArray} {b : Bool} {n : Nat} : tkB s b n = false ↔ b = false ∧ n ≤ s.size := by
  unfold tkB
  split
  · exact ⟨fun h => ⟨h, by assumption⟩, fun h => h.1⟩
  · exact ⟨fun h => (Bool.noConfusion h), fun h => absurd h.2 (by assumption)⟩
theorem nmB_false {s : ByteArray} {b : Bool} {n : Nat} : nmB s b n = false ↔ b = false ∧ n ≤ s.size ∧ valN s n ≤ 2000000000000 := by
  unfold nmB
  split
  · exact ⟨fun h => (Bool.noConfusion h), fun h => absurd h.2.2 (by omega)⟩
  · rw [tkB_false]
    exact ⟨fun h => ⟨h.1, h.2, by omega⟩, fun h => ⟨h.1, h.2.1⟩⟩
theorem valN_list {s : ByteArray} {n : Nat} (h : n ≤ s.size) : valN s n = (numOf (s.data.toList.take n)).toNat := by
  unfold valN
  rw [tkV_list h]
theorem nmN_is {s : ByteArray} {n : Nat} (h : valN s n ≤ 2000000000000) : nmN s n = valN s n := by
  unfold nmN
  rw [if_neg (by omega)]
theorem numOf_one (x : UInt8) : numOf [x] = (x.toNat : Int) := by simp [numOf]
theorem take_one (l : List UInt8) (h : 1 ≤ l.length) : l.take 1 = [l.getD 0 0] := by
  match l, h with
  | x :: l, _ => rfl
theorem getD_drop0 (l : List UInt8) (n : Nat) : (l.drop n).getD 0 0 = l.getD n 0 := by
  rw [List.getD_eq_getElem?_getD, List.getD_eq_getElem?_getD, List.getElem?_drop, Nat.add_zero]

/-- What Get is left with. -/
structure GotC where
  op : Nat
  num : Nat
  ver : Nat
  key : ByteArray
  rest : ByteArray
  bad : Bool
def gotC (b : ByteArray) : GotC :=
  ⟨nmN b 1, nmN (tkR b 1) 8, nmN (tkR (tkR b 1) 8) 8, tkV (tkR (tkR (tkR (tkR b 1) 8) 8) 1) (nmN (tkR (tkR (tkR b 1) 8) 8) 1),
    tkR (tkR (tkR (tkR (tkR b 1) 8) 8) 1) (nmN (tkR (tkR (tkR b 1) 8) 8) 1),
    tkB (tkR (tkR (tkR (tkR b 1) 8) 8) 1) (nmB (tkR (tkR (tkR b 1) 8) 8) (nmB (tkR (tkR b 1) 8) (nmB (tkR b 1) (nmB b false 1) 8) 8) 1) (nmN (tkR (tkR (tkR b 1) 8) 8) 1)⟩
def GotC.cmd (g : GotC) : Cmd := ⟨g.op, g.key, g.rest, (g.num : Int) - 1000000000000, g.ver⟩

theorem gotC_fits (b : ByteArray) (h : (gotC b).bad = false) : 18 + (b.data.toList.getD 17 0).toNat ≤ b.size ∧ (gotC b).cmd = cmdAt b.data.toList := by
  have hl : b.data.toList.length = b.size := by simp
  unfold gotC at h
  simp only at h
  rw [tkB_false, nmB_false, nmB_false, nmB_false, nmB_false] at h
  obtain ⟨⟨⟨⟨⟨_, s0, v0⟩, s1, v1⟩, s2, v2⟩, s3, v3⟩, s4⟩ := h
  have z1 := tkR_size s0
  have z2 := tkR_size s1
  have z3 := tkR_size s2
  have z4 := tkR_size s3
  have l1 := tkR_list s0
  have l2 := tkR_list s1
  have l3 := tkR_list s2
  have l4 := tkR_list s3
  rw [l1, List.drop_drop] at l2
  rw [l2, List.drop_drop] at l3
  rw [l3, List.drop_drop] at l4
  have l5 := tkR_list s4
  have l6 := tkV_list s4
  have e0 := valN_list s0
  have e1 := valN_list s1
  have e2 := valN_list s2
  have e3 := valN_list s3
  rw [take_one _ (by omega), numOf_one, Int.toNat_natCast] at e0
  rw [l1] at e1
  rw [l2] at e2
  rw [l3, take_one _ (by rw [List.length_drop]; omega), numOf_one, Int.toNat_natCast, getD_drop0] at e3
  have q0 := nmN_is v0
  have q1 := nmN_is v1
  have q2 := nmN_is v2
  have q3 := nmN_is v3
  have hb1 := numOf_bd8 ((b.data.toList.drop 1).take 8) (by rw [List.length_take]; omega)
  have hb2 := numOf_bd8 ((b.data.toList.drop 9).take 8) (by rw [List.length_take]; omega)
  rw [show (1 + 8 + 8 : Nat) = 17 from rfl] at e3
  rw [show (1 + 8 : Nat) = 9 from rfl] at e2
  rw [show (1 + 8 + 8 + 1 : Nat) = 18 from rfl] at l4
  rw [l4] at l5 l6
  have h18 : 18 + (b.data.toList.getD 17 0).toNat ≤ b.size := by omega
  have e4 : nmN (tkR (tkR (tkR b 1) 8) 8) 1 = (b.data.toList.getD 17 0).toNat := q3.trans e3
  rw [e4, List.drop_drop] at l5
  rw [e4] at l6
  have a1 : ((nmN b 1 : Nat) : Int) = ((b.data.toList.getD 0 0).toNat : Int) := by rw [q0, e0]
  have a2 : tkV (tkR (tkR (tkR (tkR b 1) 8) 8) 1) (b.data.toList.getD 17 0).toNat = str ((b.data.toList.drop 18).take (b.data.toList.getD 17 0).toNat) := by rw [← l6, str_back]
  have a3 : tkR (tkR (tkR (tkR (tkR b 1) 8) 8) 1) (b.data.toList.getD 17 0).toNat = str (b.data.toList.drop (18 + (b.data.toList.getD 17 0).toNat)) := by rw [← l5, str_back]
  have a4 : ((nmN (tkR b 1) 8 : Nat) : Int) = numOf ((b.data.toList.drop 1).take 8) := by rw [q1, e1]; omega
  have a5 : ((nmN (tkR (tkR b 1) 8) 8 : Nat) : Int) = numOf ((b.data.toList.drop 9).take 8) := by rw [q2, e2]; omega
  refine ⟨h18, ?_⟩
  unfold gotC GotC.cmd cmdAt
  simp only
  rw [e4, a1, a2, a3, a4, a5]

theorem gotC_of (b : ByteArray) (h : isCmd b) : (gotC b).bad = false := by
  obtain ⟨h18, hr⟩ := h
  obtain ⟨_, _, _, _, ⟨_, hn⟩, hv0, hv⟩ := hr
  have hl : b.data.toList.length = b.size := by simp
  have hn' : numOf ((b.data.toList.drop 1).take 8) - 1000000000000 ≤ 1000000000000 := hn
  have hv' : numOf ((b.data.toList.drop 9).take 8) ≤ 1000000000000 := hv
  have s0 : 1 ≤ b.size := by omega
  have z1 := tkR_size s0
  have s1 : 8 ≤ (tkR b 1).size := by omega
  have z2 := tkR_size s1
  have s2 : 8 ≤ (tkR (tkR b 1) 8).size := by omega
  have z3 := tkR_size s2
  have s3 : 1 ≤ (tkR (tkR (tkR b 1) 8) 8).size := by omega
  have z4 := tkR_size s3
  have l1 := tkR_list s0
  have l2 := tkR_list s1
  have l3 := tkR_list s2
  have l4 := tkR_list s3
  rw [l1, List.drop_drop] at l2
  rw [l2, List.drop_drop] at l3
  rw [l3, List.drop_drop] at l4
  have e0 := valN_list s0
  have e1 := valN_list s1
  have e2 := valN_list s2
  have e3 := valN_list s3
  rw [take_one _ (by omega), numOf_one, Int.toNat_natCast] at e0
  rw [l1] at e1
  rw [l2] at e2
  rw [l3, take_one _ (by rw [List.length_drop]; omega), numOf_one, Int.toNat_natCast, getD_drop0] at e3
  have t0 := (b.data.toList.getD 0 0).toNat_lt
  have t3 := (b.data.toList.getD (1 + 8 + 8) 0).toNat_lt
  have v0 : valN b 1 ≤ 2000000000000 := by omega
  have v1 : valN (tkR b 1) 8 ≤ 2000000000000 := by omega
  have v2 : valN (tkR (tkR b 1) 8) 8 ≤ 2000000000000 := by
    rw [show (1 + 8 : Nat) = 9 from rfl] at e2
    omega
  have v3 : valN (tkR (tkR (tkR b 1) 8) 8) 1 ≤ 2000000000000 := by omega
  unfold gotC
  simp only
  rw [tkB_false, nmB_false, nmB_false, nmB_false, nmB_false]
  refine ⟨⟨⟨⟨⟨rfl, s0, v0⟩, s1, v1⟩, s2, v2⟩, s3, v3⟩, ?_⟩
  rw [nmN_is v3, e3, z4, z3, z2, z1]
  rw [show (1 + 8 + 8 : Nat) = 17 from rfl]
  omega

/-- What Get tells. -/
theorem gotC_yes (b : ByteArray) (h : isCmd b) : (gotC b).bad = false ∧ (gotC b).cmd.right = true ∧ (gotC b).cmd = getC b ∧ getOk b = true := by
  have h1 := gotC_of b h
  have h2 := (gotC_fits b h1).2
  obtain ⟨g1, g2⟩ := get_yes h
  exact ⟨h1, by rw [h2]; exact decide_eq_true h.2, by rw [g1, h2], g2⟩
theorem gotC_no (b : ByteArray) (h : ¬ isCmd b) : ((gotC b).bad = true ∨ (gotC b).bad = false ∧ (gotC b).cmd.right = false) ∧ getC b = Cmd.zero ∧ getOk b = false := by
  obtain ⟨g1, g2⟩ := get_no h
  refine ⟨?_, g1, g2⟩
  cases hb : (gotC b).bad with
  | true => exact Or.inl rfl
  | false =>
    refine Or.inr ⟨rfl, ?_⟩
    obtain ⟨k1, k2⟩ := gotC_fits b hb
    rw [k2]
    exact decide_eq_false (fun hr => h ⟨k1, hr⟩)
theorem gotC_sizes (b : ByteArray) : (gotC b).key.size ≤ b.size ∧ (gotC b).rest.size ≤ b.size ∧ (gotC b).op ≤ 2000000000000 ∧ (gotC b).num ≤ 2000000000000 ∧ (gotC b).ver ≤ 2000000000000 := by
  unfold gotC
  simp only
  have h1 := tkR_le b 1
  have h2 := tkR_le (tkR b 1) 8
  have h3 := tkR_le (tkR (tkR b 1) 8) 8
  have h4 := tkR_le (tkR (tkR (tkR b 1) 8) 8) 1
  refine ⟨?_, ?_, nmN_le _ _, nmN_le _ _, nmN_le _ _⟩
  · exact Nat.le_trans (tkV_le _ _) (by omega)
  · exact Nat.le_trans (tkR_le _ _) (by omega)

end Go.Proofs.Ytogfobmbmimpgaa
