/-
  The contracts of package command's putNumbers, putText and Put.
-/
import Derived.Test.YtogfobmbmimpgaaCom4
namespace Go.Proofs.Ytogfobmbmimpgaa
open Go.RowKit
set_option linter.unusedVariables false
set_option maxRecDepth 100000
set_option linter.unusedSimpArgs false

def numsS (num ver : Int) : ByteArray := putBigS (num + 1000000000000) 8 ++ putBigS ver 8
def textS (t : ByteArray) (n : Int) : ByteArray := putBigS (t.size : Int) n ++ t
theorem str_plus (a b : List UInt8) : str a ++ str b = str (a ++ b) := by
  apply ByteArray.ext
  simp [str]
theorem str_plus' (a : List UInt8) (b : ByteArray) : str a ++ b = str (a ++ b.data.toList) := by
  rw [← str_plus, str_back]
theorem putBigSz (v : Int) (n : Nat) (h1 : 1 ≤ n) (h8 : n ≤ 8) : (putBigS v (n : Int)).size = n := by rw [putBigS, str_size, putBig_len _ _ (by omega), Int.toNat_natCast]
theorem putBigS1_size (v : Int) : (putBigS v 1).size = 1 := putBigSz v 1 (by decide) (by decide)
theorem putBigS2_size (v : Int) : (putBigS v 2).size = 2 := putBigSz v 2 (by decide) (by decide)
theorem putBigS8_size (v : Int) : (putBigS v 8).size = 8 := putBigSz v 8 (by decide) (by decide)
theorem numsS_size (num ver : Int) : (numsS num ver).size = 16 := by unfold numsS; rw [ByteArray.size_append, putBigS8_size, putBigS8_size]
theorem textS1_size (t : ByteArray) : (textS t 1).size = 1 + t.size := by unfold textS; rw [ByteArray.size_append, putBigS1_size]
theorem textS2_size (t : ByteArray) : (textS t 2).size = 2 + t.size := by unfold textS; rw [ByteArray.size_append, putBigS2_size]
theorem putBig1 (v : Int) : putBig v 1 = [byteOf v 0] := rfl
theorem Cmd.put_is {c : Cmd} (h : c.Right) : putBigS c.op 1 ++ numsS c.num c.ver ++ textS c.key 1 ++ c.value = c.put := by
  rw [Cmd.put_yes h]
  unfold numsS textS putBigS Cmd.bytes
  rw [putBig1, putBig1]
  apply ByteArray.ext
  simp [str]

theorem command_putNumbers (num ver : Int) (w : World) (h : NumsOk num ver) : Calls Try.prog 22 #[.int .i64 num, .int .i64 ver] w fun e w' => e = .returned (.string (numsS num ver)) ∧ Below w.heap.size w w' := by
  obtain ⟨⟨h1, h2⟩, h3, h4⟩ := h
  have P1 : Hid _ := fun w => octet_putBig (num + 1000000000000) 8 w (by omega) (by omega)
  have P2 : Hid _ := fun w => octet_putBig ver 8 w (by omega) (by omega)
  have HS : Hid (putBigS (num + 1000000000000) 8 ++ putBigS ver 8 = numsS num ver) := rfl
  have z1 := putBigS8_size (num + 1000000000000)
  have z2 := putBigS8_size ver
  generalize putBigS (num + 1000000000000) 8 = H1 at *
  generalize putBigS ver 8 = H2 at *
  go_enter Try.func22, Try.ntmps22
  go_wp2_with fail
  with_reducible refine (P1.out _).mono ?_
  rintro e w1 ⟨rfl, b1⟩
  go_wp2_with fail
  with_reducible refine (P2.out _).mono ?_
  rintro e w2 ⟨rfl, b2⟩
  go_wp2
  go_ret
  exact ⟨ret_str HS.out, bel_chain8 b1 b2⟩
theorem command_putText (t : ByteArray) (n : Int) (w : World) (ht : t.size ≤ 1000000) (hn : n = 1 ∨ n = 2) : Calls Try.prog 23 #[.string t, .int .i64 n] w fun e w' => e = .returned (.string (textS t n)) ∧ Below w.heap.size w w' := by
  have P1 : Hid _ := fun w => octet_putBig (t.size : Int) n w (by omega) (by omega)
  have HS : Hid (putBigS (t.size : Int) n ++ t = textS t n) := rfl
  have z1 : (putBigS (t.size : Int) n).size ≤ 8 := by
    rcases hn with rfl | rfl
    · rw [putBigS1_size]; decide
    · rw [putBigS2_size]; decide
  generalize putBigS (t.size : Int) n = H1 at *
  clear hn
  go_enter Try.func23, Try.ntmps23
  go_wp2_with fail
  with_reducible refine (P1.out _).mono ?_
  rintro e w1 ⟨rfl, b1⟩
  go_wp2
  go_ret
  exact ⟨ret_str HS.out, b1⟩

set_option maxHeartbeats 4000000 in
theorem command_put (c : Cmd) (w : World) (hk : c.key.size ≤ maxLen) : Calls Try.prog 10 #[c.v] w fun e w' => e = .returned (.tuple #[.string c.put, .bool c.right]) ∧ Below w.heap.size w w' := by
  have PR := fun w => command_right c w hk
  by_cases hr : c.Right
  · have hrt : c.right = true := decide_eq_true hr
    rw [hrt] at PR ⊢
    have HS : Hid (putBigS c.op 1 ++ numsS c.num c.ver ++ textS c.key 1 ++ c.value = c.put) := Cmd.put_is hr
    obtain ⟨⟨h1, h2⟩, h3, h4, h5, h6, h7⟩ := hr
    have P1 : Hid _ := fun w => octet_putBig c.op 1 w (by omega) (by omega)
    have P2 : Hid _ := fun w => command_putNumbers c.num c.ver w ⟨h6, h7⟩
    have P3 : Hid _ := fun w => command_putText c.key 1 w (by omega) (Or.inl rfl)
    have z1 := putBigS1_size c.op
    have z2 := numsS_size c.num c.ver
    have z3 := textS1_size c.key
    have hrow := fun w => CmdIs.new w c
    obtain ⟨op, key, value, num, ver⟩ := c
    simp only [Cmd.v] at *
    generalize putBigS op 1 = H1 at *
    generalize numsS num ver = H2 at *
    generalize textS key 1 = H3 at *
    generalize (Cmd.put ⟨op, key, value, num, ver⟩) = S at *
    have u1 : IntKind.u64.wrap op = op := by rw [IntKind.wrap_u64]; omega
    have y1 : (H1 ++ H2).size = H1.size + H2.size := ByteArray.size_append
    have y2 : (H1 ++ H2 ++ H3).size = H1.size + H2.size + H3.size := by rw [ByteArray.size_append, y1]
    have n1 : ¬ (9223372036854775807 < H1.size + H2.size) := by omega
    obtain ⟨A1, g1⟩ : ∃ A, H1 ++ H2 = A := ⟨_, rfl⟩
    rw [g1] at y1 y2 HS
    have n2 : ¬ (9223372036854775807 < A1.size + H3.size) := by omega
    obtain ⟨A2, g2⟩ : ∃ A, A1 ++ H3 = A := ⟨_, rfl⟩
    rw [g2] at y2 HS
    have n3 : ¬ (9223372036854775807 < A2.size + value.size) := by omega
    clear h1 h2 h3 h4 h5 h6 h7 z1 z2 z3 y1 y2 hk hrt
    go_enter Try.func10, Try.ntmps10
    go_wp2_with fail
    with_reducible refine (PR _).mono ?_
    rintro e w1 ⟨rfl, b1⟩
    obtain ⟨c0, c1, c2, c3, c4⟩ := ((hrow w).below b1).cells
    replace b1 := bel_new b1
    have b : Below w1.heap.size w1 w1.drew := (Below.refl _ _).drew
    go_wp2_with fail
    go_region_held3 (fun w' => w'.cell? ⟨w.heap.size, 0, none⟩ = some (.int .i64 op) ∧ w'.cell? ⟨w.heap.size, 3, none⟩ = some (.int .i64 num) ∧ w'.cell? ⟨w.heap.size, 4, none⟩ = some (.int .i64 ver) ∧ w'.cell? ⟨w.heap.size, 1, none⟩ = some (.string key) ∧ w'.cell? ⟨w.heap.size, 2, none⟩ = some (.string value)) (exact ⟨cell_belowB b c0, cell_belowB b c3, cell_belowB b c4, cell_belowB b c1, cell_belowB b c2⟩) (first | (go_at_call 21; (with_reducible refine (P1.out _).mono ?_); rintro e w5 ⟨rfl, b5⟩; replace b := bel_chain8 b b5; clear b5) | (go_at_call 22; (with_reducible refine (P2.out _).mono ?_); rintro e w5 ⟨rfl, b5⟩; replace b := bel_chain8 b b5; clear b5) | (go_at_call 23; (with_reducible refine (P3.out _).mono ?_); rintro e w5 ⟨rfl, b5⟩; replace b := bel_chain8 b b5; clear b5))
    all_goals
      go_wp2
      go_ret2
      exact ⟨ret_sb10 HS.out rfl, bel_chain8 b1 b⟩
  · rw [Cmd.put_no hr]
    have hrt : c.right = false := decide_eq_false hr
    rw [hrt] at PR ⊢
    obtain ⟨op, key, value, num, ver⟩ := c
    simp only [Cmd.v] at *
    clear hr hrt hk
    go_enter Try.func10, Try.ntmps10
    go_wp2_with fail
    with_reducible refine (PR _).mono ?_
    rintro e w1 ⟨rfl, b1⟩
    go_wp2
    go_ret2
    exact ⟨rfl, bel_new b1⟩

end Go.Proofs.Ytogfobmbmimpgaa
